/- The walks of laws.FnExactFamilyOf and laws.FnExactCountMeeting over the program's contracts. -/
import Derived.Test.YtfkimbpohlllkaaSCountMeet
import Derived.Test.YtfkimbpohlllkaaCirMark
import Derived.Test.YtfkimbpohlllkaaMeetsLaw
namespace Go.Proofs.Ytfkimbpohlllkaa
open Go.RowKit Go.Joins
set_option linter.unusedVariables false
/-- The program's FamilyOf answers as the model's; a row of no circles may be nil. -/
def FamImpl : Prop := ∀ (p : Int) (w : World), Calls Try.prog 11 #[.int .i64 p] w fun e w' => ∃ v us, e = .returned v ∧ CsRaw w' w.heap.size v us (famOf p) ∧ Below w.heap.size w w'
set_option maxRecDepth 100000 in
set_option maxHeartbeats 4000000 in
theorem walk_FamilyBy (FI : FamImpl) (p : Int) (wp : (Lit.int .i64 p).wf = true) (w : World) :
    Calls Try.prog 5 #[.int .i64 p] w fun e w' => e = .returned (.bool true) ∧ Below w.heap.size w w' := by
  have LN := famOf_len p
  have LE := Lib.hid (famOf_each p)
  have FSP := Lib.hid (family_spec p)
  have FP := Lib.hid (FI p)
  generalize famOf p = L at LN LE FSP FP
  obtain ⟨n, hn⟩ : ∃ n, n = L.length := ⟨_, rfl⟩
  rw [← hn] at LN
  have HN := Lib.hid hn
  have HL2 := Lib.hid (show L.length ≤ 2000000 from by omega)
  have HE2 := Lib.hid (show ∀ i, i < L.length → (lAt L i).length ≤ 2000000 from fun i hi => by rw [LE.out i hi]; omega)
  clear wp hn
  go_enter Try.func5, Try.ntmps5
  go_wp2_with fail
  refine (FSP.out w).mono ?_
  rintro e1 w1 ⟨g1, c1, us1, rfl, k1, b1⟩
  have K1 := Lib.hid k1
  have B1 := Lib.hid b1
  clear k1 b1 FSP
  obtain ⟨v1, hv1⟩ : ∃ v, v = Value.slice (some ⟨g1, 0, none⟩) L.length c1 := ⟨_, rfl⟩
  rw [← hv1] at K1 ⊢
  clear hv1
  go_wp2_with fail
  refine (FP.out w1).mono ?_
  rintro e2 w2 ⟨v2, us2, rfl, k2, b2⟩
  have K2 := Lib.hid k2
  have K12 := Lib.hid (K1.out.below b2)
  have B2 := Lib.hid (B1.out.trans (b2.mono B1.out.size))
  have S12 := Lib.hid b2.size
  have SWW := Lib.hid B1.out.size
  have LT1 := Lib.hid (fun g (e : v1.ownBlock = some g) => (K1.out.row.lt g e).2)
  have LE1 := Lib.hid (fun i (hi : i < L.length) g (e : (uAt us1 i).ownBlock = some g) => ((K1.out.els i hi).lt g e).2)
  clear k2 b2 K1 B1
  go_wp2_with fail
  refine (eqCirs_same w2 _ _ v2 v1 us2 us1 L HL2.out HE2.out K2.out K12.out).mono ?_
  rintro e3 w3 ⟨rfl, b3⟩
  have K3 := Lib.hid (K2.out.below b3)
  have K13 := Lib.hid (K12.out.below b3)
  have B3 := Lib.hid (B2.out.trans (b3.mono B2.out.size))
  have S3 := Lib.hid (Nat.le_trans S12.out b3.size)
  have SW := Lib.hid (show w.heap.size ≤ w1.heap.size from SWW.out)
  clear b3 K2 K12 B2
  go_wp2_with fail
  have KM := K3.out
  rw [← rowC_self L, ← HN.out] at KM
  refine (markCirs_own w3 _ n v2 us2 (lAt L) (by omega) S3.out (fun t ht => LE.out t (by rw [← HN.out]; exact ht)) KM).mono ?_
  rintro e4 w4 ⟨rfl, k4, b4⟩
  have K4 := Lib.hid k4
  have K14 := Lib.hid (K13.out.under b4 LT1.out LE1.out)
  have B4 := Lib.hid (B3.out.trans (b4.mono SW.out))
  have t0 : ¬ ((1 : Int) + 12 * n) < 0 := by omega
  have t1 : (((1 : Int) + 12 * n) != ((1 : Int) + 12 * n)) = false := by simp
  clear k4 b4 KM K3 K13 B3
  go_wp2_with fail
  refine (heldCirs_own w4 _ n v2 us2 (by omega) K4.out).mono ?_
  rintro e5 w5 ⟨rfl, b5⟩
  have K5 := Lib.hid (K4.out.below b5)
  have K15 := Lib.hid (K14.out.below b5)
  have B5 := Lib.hid (B4.out.trans (b5.mono B4.out.size))
  clear b5 K4 K14 B4
  go_wp2_with fail
  refine (FP.out w5).mono ?_
  rintro e6 w6 ⟨v6, us6, rfl, k6, b6⟩
  have K6 := Lib.hid k6
  have K56 := Lib.hid (K5.out.below b6)
  have K16 := Lib.hid (K15.out.below b6)
  have B6 := Lib.hid (B5.out.trans (b6.mono B5.out.size))
  clear k6 b6 K5 K15 B5
  go_wp2_with fail
  refine (eqCirs_same w6 _ _ v6 v1 us6 us1 L HL2.out HE2.out K6.out K16.out).mono ?_
  rintro e7 w7 ⟨rfl, b7⟩
  have K7 := Lib.hid (K56.out.below b7)
  have B7 := Lib.hid (B6.out.trans (b7.mono B6.out.size))
  clear b7 K6 K56 K16 B6
  go_wp2_with fail
  refine (heldCirs_own w7 _ n v2 us2 (by omega) K7.out).mono ?_
  rintro e8 w8 ⟨rfl, b8⟩
  have B8 := Lib.hid (B7.out.trans (b8.mono B7.out.size))
  clear b8 K7 B7
  go_wp2_with fail
  go_ret
  exact ⟨rfl, B8.out⟩
/-- The program's CountMeeting answers as the model's. -/
def CountImpl : Prop := ∀ (p : Int) (w : World) (b' : Nat) (e' : TypeId) (v' : Value) (ws : List Wi), ws.length ≤ 2000000 → w.ownsRow b' e' 2 v' ws.length (wiCs ws) →
    Calls Try.prog 15 #[.int .i64 p, v'] w fun en w' => en = .returned (.int .i64 (cntMeet (famOf p) ws (famOf p).length : Nat)) ∧ Below w.heap.size w w'
set_option maxRecDepth 100000 in
set_option maxHeartbeats 4000000 in
theorem walk_CountBy (CI : CountImpl) (p : Int) (wp : (Lit.int .i64 p).wf = true) (a : Option Addr) (len cap : Nat) (ws : List Wi) (w : World) (hw : WiRow w a len ws) :
    Calls Try.prog 7 #[.int .i64 p, .slice a len cap] w fun e w' => e = .returned (.bool true) ∧ Below w.heap.size w w' := by
  obtain ⟨hwl, hwm⟩ := wiRow_len hw
  have HW := Lib.hid hw
  have HWL := Lib.hid hwl
  have SZ := Lib.hid (fun w => szWi_any a len cap 1048576 (by omega) w hwm)
  clear hw hwl wp
  by_cases h2 : (1048576 : Int) < (len : Int)
  · rw [if_pos h2] at SZ
    go_enter Try.func7, Try.ntmps7
    go_wp2_with fail
    refine (SZ.out _).mono ?_
    rintro e w2 ⟨rfl, rfl⟩
    go_wp2_with fail
    go_ret
    exact ⟨rfl, Below.refl _ _⟩
  · rw [if_neg h2] at SZ
    have hl3 : len ≤ 1048576 := by omega
    have hl4 : ¬ (1048576 : Int) - (len : Int) < 0 := by omega
    have HWS := Lib.hid (show ws.length ≤ 2000000 from by have := HWL.out; omega)
    obtain ⟨z, hz⟩ : ∃ z : Nat, z = cntMeet (famOf p) ws (famOf p).length := ⟨_, rfl⟩
    have CS := Lib.hid (fun w b' e' v' h => count_spec p w b' e' v' ws HWS.out h)
    have CP := Lib.hid (fun w b' e' v' h => CI p w b' e' v' ws HWS.out h)
    rw [← hz] at CS CP
    have t0 : ((z : Int) != (z : Int)) = false := by simp
    clear h2 hz
    go_enter Try.func7, Try.ntmps7
    go_wp2_with fail
    refine (SZ.out _).mono ?_
    rintro e w2 ⟨rfl, rfl⟩
    go_wp2_with fail
    refine (calls_toWis (Below.refl _ _) HW.out hl3).mono ?_
    rintro e w4 ⟨v4, rfl, o4, b4⟩
    have B4 := Lib.hid b4
    have O4 := Lib.hid o4
    clear o4 b4 SZ
    go_wp2_with fail
    refine (CS.out w4 _ _ v4 O4.out).mono ?_
    rintro e w5 ⟨rfl, b5⟩
    have B5 := Lib.hid (B4.out.trans (b5.mono B4.out.size))
    clear b5 O4 B4
    go_wp2_with fail
    refine (calls_toWis (Below.refl _ _) (wiRow_below HW.out B5.out) hl3).mono ?_
    rintro e w6 ⟨v6, rfl, o6, b6⟩
    have B6 := Lib.hid (B5.out.trans (b6.mono B5.out.size))
    have O6 := Lib.hid o6
    clear o6 b6 B5
    go_wp2_with fail
    refine (CP.out w6 _ _ v6 O6.out).mono ?_
    rintro e w7 ⟨rfl, b7⟩
    have B7 := Lib.hid (B6.out.trans (b7.mono B6.out.size))
    have O7 := Lib.hid (ownW_below O6.out b7)
    clear b7 O6 B6
    go_wp2_with fail
    refine (calls_toWis (Below.refl _ _) (wiRow_below HW.out B7.out) hl3).mono ?_
    rintro e w8 ⟨v8, rfl, o8, b8⟩
    have O8 := Lib.hid o8
    have Y8 := Lib.hid (ownW_below O7.out b8)
    have B8 := Lib.hid (B7.out.trans (b8.mono B7.out.size))
    clear o8 b8 O7 B7
    go_wp2_with fail
    refine (eqWis_same w8 _ _ _ _ v6 v8 ws HWS.out Y8.out O8.out).mono ?_
    rintro e w9 ⟨rfl, b9⟩
    have B9 := Lib.hid (B8.out.trans (b9.mono B8.out.size))
    clear b9 Y8 O8 B8
    go_wp2_with fail
    go_ret
    exact ⟨rfl, B9.out⟩
end Go.Proofs.Ytfkimbpohlllkaa
