/- Contract of impl.signOfPowers: the sign of 2^t * 3^h * 5^f against 1. -/
import Derived.Test.YtohfepcdgbgojabDoorBigWalks
import Derived.Test.YtohfepcdgbgojabDoorToneWalks
import Derived.Test.YtohfepcdgbgojabDoorIfOkWalks
namespace Go.Proofs.YtohfepcdgbgojabDoor
open Go.RowKit
set_option linter.unusedVariables false
theorem gcd3_zero {t h f : Int} (h0 : gcdI (gcdI t h) f = 0) : t = 0 ∧ h = 0 ∧ f = 0 := by
  have h2 : Int.gcd (gcdI t h) f = 0 := by unfold gcdI at h0 ⊢; exact_mod_cast h0
  rw [Int.gcd_eq_zero_iff] at h2
  have h3 : Int.gcd t h = 0 := by have := h2.1; unfold gcdI at this; exact_mod_cast this
  rw [Int.gcd_eq_zero_iff] at h3
  exact ⟨h3.1, h3.2, h2.2⟩
theorem sgnP_gcd0 {t h f : Int} (h0 : gcdI (gcdI t h) f = 0) : sgnP t h f = 0 := (sgnP_zero t h f).2 (gcd3_zero h0)
theorem sgnP_quot {t h f g : Int} (hg : g = gcdI (gcdI t h) f) (h1 : 1 ≤ g) : sgnP (t.tdiv g) (h.tdiv g) (f.tdiv g) = sgnP t h f := by
  have d1 := gcdI_dvd (gcdI t h) f
  have d2 := gcdI_dvd t h
  rw [← hg] at d1
  have e1 := Int.tdiv_mul_cancel (Int.dvd_trans d1.1 d2.1)
  have e2 := Int.tdiv_mul_cancel (Int.dvd_trans d1.1 d2.2)
  have e3 := Int.tdiv_mul_cancel d1.2
  have e := sgnP_mul g h1 (t.tdiv g) (h.tdiv g) (f.tdiv g)
  rw [e1, e2, e3] at e
  exact e.symm
theorem quot_bd2 (x g M : Int) (hg : 1 ≤ g) (h : -M ≤ x) (h' : x ≤ M) : -M ≤ x.tdiv g ∧ x.tdiv g ≤ M := by
  have h1 : (x.tdiv g).natAbs ≤ x.natAbs := by rw [Int.natAbs_tdiv]; exact Nat.div_le_self _ _
  omega
/-- The two products' groups, compared. -/
theorem cmp_pw (t h f : Int) : cmpB (ofB (pw t.toNat h.toNat f.toNat)) (ofB (pw (-t).toNat (-h).toNat (-f).toNat)) = sgnP t h f := cmp_ofB _ _
theorem below_drewN (w : World) (d : Nat) : Below w.heap.size w (w.drewN d) := ⟨rfl, rfl, rfl, Nat.le_refl _, fun _ _ => rfl⟩
theorem pw_fit (t h f : Int) (t2 : t ≤ 20000) (h2 : h ≤ 20000) (f2 : f ≤ 20000) : (ofB (pw t.toNat h.toNat f.toNat)).length ≤ 2000000 := Nat.le_trans (pw_groups _ _ _) (by omega)
set_option maxRecDepth 100000 in
set_option maxHeartbeats 2000000 in
theorem signPowers_any (w : World) (t h f : Int) (t1 : -10000 ≤ t) (t2 : t ≤ 10000) (h1 : -10000 ≤ h) (h2 : h ≤ 10000) (f1 : -10000 ≤ f) (f2 : f ≤ 10000) :
    Calls Tryd.prog 80 #[.int .i64 t, .int .i64 h, .int .i64 f] w fun e w' => e = .returned (.int .i64 (sgnP t h f)) ∧ Below w.heap.size w w' := by
  have m1 := gcdI_nonneg t h
  have m2 := gcdI_le t h 10000 t1 t2 h1 h2
  have m3 := gcdI_nonneg (gcdI t h) f
  have m4 := gcdI_le (gcdI t h) f 10000 (by omega) m2 f1 f2
  obtain ⟨g, hg⟩ : ∃ g, g = gcdI (gcdI t h) f := ⟨_, rfl⟩
  rw [← hg] at m3 m4
  clear m1 m2
  have C1 := Lib.hid (powers_impl t h f w (by omega) (by omega) (by omega) (by omega) (by omega) (by omega))
  rw [← hg] at C1
  have HG := Lib.hid hg
  clear hg
  by_cases h0 : g = 0
  · have q0 : (g == 0) = true := by simpa using h0
    have Y := Lib.hid (sgnP_gcd0 (HG.out.symm.trans h0))
    clear h0
    go_enter Tryd.func80, Tryd.ntmps80
    go_wp2_with fail
    refine C1.out.mono ?_
    rintro e1 w1 ⟨rfl, n1, rfl⟩
    go_wp2_with fail
    go_ret
    exact ⟨ret_int Y.out.symm, below_drewN w n1⟩
  · have q0 : (g == 0) = false := by simpa using h0
    have gp : 1 ≤ g := by omega
    have Y := Lib.hid (sgnP_quot HG.out gp)
    obtain ⟨a1, a2⟩ := quot_bd2 t g 10000 gp t1 t2
    obtain ⟨b1, b2⟩ := quot_bd2 h g 10000 gp h1 h2
    obtain ⟨c1, c2⟩ := quot_bd2 f g 10000 gp f1 f2
    have wa : IntKind.i64.wrap (t.tdiv g) = t.tdiv g := IntWalk.i64_in _ (by omega)
    have wb : IntKind.i64.wrap (h.tdiv g) = h.tdiv g := IntWalk.i64_in _ (by omega)
    have wc : IntKind.i64.wrap (f.tdiv g) = f.tdiv g := IntWalk.i64_in _ (by omega)
    go_enter Tryd.func80, Tryd.ntmps80
    go_wp2_with fail
    refine C1.out.mono ?_
    rintro e1 w1 ⟨rfl, n1, rfl⟩
    go_wp2_with fail
    go_region
    go_wp2_with fail
    generalize t.tdiv g = x at *
    generalize h.tdiv g = y at *
    generalize f.tdiv g = z at *
    have B0 := Lib.hid (below_drewN w (n1 + 1))
    obtain ⟨W0, hW⟩ : ∃ W, W = w.drewN (n1 + 1) := ⟨_, rfl⟩
    rw [← hW] at B0 ⊢
    clear hW C1 HG
    refine (powersProduct_any _ x y z (by omega) (by omega) (by omega) (by omega) (by omega) (by omega)).mono ?_
    rintro e1 w1 ⟨v1, rfl, o1, k1⟩
    go_wp2_with fail
    refine (powersProduct_any _ (-x) (-y) (-z) (by omega) (by omega) (by omega) (by omega) (by omega) (by omega)).mono ?_
    rintro e2 w2 ⟨v2, rfl, o2, k2⟩
    have o3 := own_below o1 k2
    have B2 := Lib.hid ((B0.out.trans (k1.mono B0.out.size)).trans (k2.mono (Nat.le_trans B0.out.size k1.size)))
    clear o1 k1 k2 B0
    go_wp2_with fail
    refine (compare_gen _ _ _ _ _ _ _ _ _ (ofB_bd _) (ofB_bd _) (pw_fit x y z (by omega) (by omega) (by omega)) (pw_fit (-x) (-y) (-z) (by omega) (by omega) (by omega)) o3 o2).mono ?_
    rintro e3 w3 ⟨rfl, k3⟩
    rw [cmp_pw, Y.out]
    have B3 := Lib.hid (B2.out.trans (k3.mono B2.out.size))
    clear o2 o3 k3 B2
    go_wp2_with fail
    go_ret
    exact ⟨rfl, B3.out⟩
end Go.Proofs.YtohfepcdgbgojabDoor
