/- Contracts of IsWideThird, both sides. -/
import Derived.Test.YtohfepcdgbgojabDoorThirdErr
import Derived.Test.YtohfepcdgbgojabDoorCompareTone
import Derived.Test.YtohfepcdgbgojabDoorSSign04
namespace Go.Proofs.YtohfepcdgbgojabDoor
open Go.RowKit Go.Joins
set_option linter.unusedVariables false
/-- What IsWideThird answers. -/
def WdAt (xs : List Int) (i : Int) (y : Bool) : Prop :=
  ((CirOk xs ∧ 0 ≤ i ∧ i ≤ 11) ∧ y = decide (cycTo xs i.toNat 4 < 12)) ∨ ((cirB xs && decide (0 ≤ i ∧ i ≤ 11)) = false ∧ y = false)
theorem wdAt_ex (xs : List Int) (i : Int) : ∃ y, WdAt xs i y := by
  rcases key_cases xs i with h | h
  · exact ⟨_, .inl ⟨h, rfl⟩⟩
  · exact ⟨_, .inr ⟨h, rfl⟩⟩
/-- The error whose sign it is. -/
theorem wd_of {xs : List Int} {i : Int} {y : Bool} (h : WdAt xs i y) : ∃ p q r s, ErAt xs i p q r s ∧ y = decide (0 < cmpV ⟨p, q, r, s⟩ ⟨0, 0, 0, 1⟩) := by
  rcases h with ⟨hc, rfl⟩ | ⟨hb, rfl⟩
  · have k := thi_all (cyc_bd hc.1 i.toNat (k := 4) (by omega))
    refine ⟨_, _, _, _, .inl ⟨hc, rfl, rfl, rfl, rfl⟩, ?_⟩
    rw [← k.2.2.2.2]
    show _ = decide (0 < cmpV (erV (cycTo xs i.toNat 4)) ⟨0, 0, 0, 1⟩)
    rw [cmpV_prime k.2.2.2.1]
  · exact ⟨0, 0, 0, 0, .inr ⟨hb, rfl, rfl, rfl, rfl⟩, by decide⟩
/-- The same where the key is the circle's, by the powers' sign. -/
theorem wd_sgn {xs : List Int} {i : Int} {y : Bool} (hc : CirOk xs ∧ 0 ≤ i ∧ i ≤ 11) (h : WdAt xs i y) : ∃ p q r s, ErAt xs i p q r s ∧ okI p q r s = true ∧ y = decide (0 < sgnP p q r) := by
  rcases h with ⟨_, rfl⟩ | ⟨hb, _⟩
  · have k := thi_all (cyc_bd hc.1 i.toNat (k := 4) (by omega))
    exact ⟨_, _, _, _, .inl ⟨hc, rfl, rfl, rfl, rfl⟩, k.2.2.2.1, k.2.2.2.2.symm⟩
  · rw [show cirB xs = true from decide_eq_true hc.1, decide_eq_true hc.2] at hb
    cases hb
set_option maxHeartbeats 1000000 in
theorem wide_impl {xs : List Int} {i : Int} {y : Bool} (hf : WdAt xs i y) (A : Addr) (w : World) (b : Nat) (e : TypeId) (v : Value) (hl : xs.length ≤ 2000000) (h : w.ownsRow b e 1 v xs.length (intCs xs)) (hs : SenAt A w) :
    Calls Tryd.prog 17 #[cirV v, .int .i64 i] w fun en w' => en = .returned (.bool y) ∧ Below w.heap.size w w' := by
  obtain ⟨p, q, r, s, he, hy⟩ := wd_of hf
  have TE := Lib.hid (thirdErr_impl he _ _ _ v hl (own_below h (below_alloc1 w (.cells #[v] 26))))
  have SG := Lib.hid (fun w hs => sign_impl A p q r s w hs)
  have HS := Lib.hid hs
  obtain ⟨C, hC⟩ : ∃ C, C = cmp8 p q r s 0 0 0 1 := ⟨_, rfl⟩
  rw [← hC] at SG
  have HY : Hid (y = decide (0 < C)) := Lib.hid (by rw [hC]; exact hy)
  clear hf he hy h hl hs hC
  go_enter Tryd.func17, Tryd.ntmps17
  go_wp2_with fail
  refine TE.out.mono ?_
  rintro e1 w1 ⟨rfl, b1⟩
  have B1 := Lib.hid ((below_alloc1 w (.cells #[v] 26)).trans (b1.mono (by simp)))
  clear b1
  go_wp2_with fail
  refine (SG.out _ (senAt_below HS.out B1.out)).mono ?_
  rintro e2 w2 ⟨rfl, b2⟩
  have B2 := Lib.hid (B1.out.trans (b2.mono B1.out.size))
  clear b2
  go_wp2_with fail
  go_ret
  exact ⟨ret_boolT HY.out.symm, B2.out⟩
set_option maxRecDepth 100000 in
set_option maxHeartbeats 1000000 in
theorem wide_spec {xs : List Int} {i : Int} {y : Bool} (hf : WdAt xs i y) (w : World) (b : Nat) (e : TypeId) (v : Value) (hl : xs.length ≤ 2000000) (h : w.ownsRow b e 1 v xs.length (intCs xs)) :
    Calls Tryd.prog 22 #[cirV v, .int .i64 i] w fun en w' => en = .returned (.bool y) ∧ Below w.heap.size w w' := by
  have CO := Lib.hid (l12Has_any _ b e v xs i hl (own_below h (below_alloc1 w (.cells #[v] 26))))
  rcases key_cases xs i with hc | hb
  · rw [show cirB xs = true from decide_eq_true hc.1, decide_eq_true hc.2, Bool.true_and] at CO
    obtain ⟨p, q, r, s, he, hok, hy⟩ := wd_sgn hc hf
    obtain ⟨d1, d2, a1, a2, b1, b2, c1, c2⟩ := okI_nums hok
    have TE := Lib.hid (fun w h => thirdErr_spec he w b e v hl h)
    have SG := Lib.hid (fun w => sign04_walk w p q r (by omega) (by omega) (by omega) (by omega) (by omega) (by omega))
    obtain ⟨C, hC⟩ : ∃ C, C = sgnP p q r := ⟨_, rfl⟩
    rw [← hC] at SG
    have HY : Hid (y = decide (0 < C)) := Lib.hid (by rw [hC]; exact hy)
    have HH := Lib.hid (own_below h (below_alloc1 w (.cells #[v] 26)))
    clear hf he hok hy hl h hC hc d1 d2 a1 a2 b1 b2 c1 c2
    go_enter Tryd.func22, Tryd.ntmps22
    go_wp2_with fail
    refine CO.out.mono ?_
    rintro e1 w1 ⟨rfl, b1⟩
    obtain ⟨_, c0, _⟩ := one_keep b1 (one_alloc (w := w) (v := v) (t := 26))
    have TE1 := Lib.hid (TE.out w1 (own_below HH.out b1))
    have B1 := Lib.hid ((below_alloc1 w (.cells #[v] 26)).trans (b1.mono (by simp)))
    clear b1 TE HH
    go_wp2_with fail
    refine TE1.out.mono ?_
    rintro e2 w2 ⟨rfl, b2⟩
    have G2 := Lib.hid (four_alloc (w := w2) (p := p) (q := q) (r := r) (s := s) (t := 33))
    have B2 := Lib.hid ((B1.out.trans (b2.mono B1.out.size)).alloc (Nat.le_trans B1.out.size b2.size) (.cells #[.int .i64 p, .int .i64 q, .int .i64 r, .int .i64 s] 33))
    clear b2 B1 c0 TE1
    go_upto_region 4 with fail
    obtain ⟨W2, hW⟩ : ∃ W, W = w2.alloc (.cells #[.int .i64 p, .int .i64 q, .int .i64 r, .int .i64 s] 33) := ⟨_, rfl⟩
    rw [← hW] at G2 B2 ⊢
    clear hW
    generalize w2.heap.size = m at G2 ⊢
    obtain ⟨_, x0, x1, x2, x3⟩ := G2.out
    go_wp2_with fail
    refine (SG.out _).mono ?_
    rintro e3 w3 ⟨rfl, b3⟩
    have B3 := Lib.hid (B2.out.trans (b3.mono B2.out.size))
    clear b3
    go_wp2_with fail
    go_ret
    exact ⟨ret_boolT HY.out.symm, B3.out⟩
  · rw [hb] at CO
    have hy : y = false := by
      rcases hf with ⟨hc, _⟩ | ⟨_, h⟩
      · rw [show cirB xs = true from decide_eq_true hc.1, decide_eq_true hc.2] at hb
        cases hb
      · exact h
    subst hy
    clear h hl hb hf
    go_enter Tryd.func22, Tryd.ntmps22
    go_wp2_with fail
    refine CO.out.mono ?_
    rintro e1 w1 ⟨rfl, b1⟩
    have B1 := Lib.hid ((below_alloc1 w (.cells #[v] 26)).trans (b1.mono (by simp)))
    clear b1
    go_wp2_with fail
    go_ret
    exact ⟨rfl, B1.out⟩
end Go.Proofs.YtohfepcdgbgojabDoor
