/- The walks of laws.FnExactFamilyOf and laws.FnExactCountMeeting over the program's contracts. -/
import Derived.Test.YtohfepcdgbgojabSCountMeet
import Derived.Test.YtohfepcdgbgojabCirMark
import Derived.Test.YtohfepcdgbgojabMeetsLaw
namespace Go.Proofs.Ytohfepcdgbgojab
open Go.RowKit Go.Joins
set_option linter.unusedVariables false
/-- The program's CountMeeting answers as the model's. -/
def CountImpl : Prop := ∀ (p : Int) (w : World) (b' : Nat) (e' : TypeId) (v' : Value) (ws : List Wi), ws.length ≤ 2000000 → w.ownsRow b' e' 2 v' ws.length (wiCs ws) →
    Calls Try.prog 19 #[.int .i64 p, v'] w fun en w' => en = .returned (.int .i64 (cntMeet (famOf p) ws (famOf p).length : Nat)) ∧ Below w.heap.size w w'
set_option maxRecDepth 100000 in
set_option maxHeartbeats 4000000 in
theorem walk_CountBy (CI : CountImpl) (p : Int) (wp : (Lit.int .i64 p).wf = true) (a : Option Addr) (len cap : Nat) (ws : List Wi) (w : World) (hw : WiRow w a len ws) :
    Calls Try.prog 6 #[.int .i64 p, .slice a len cap] w fun e w' => e = .returned (.bool true) ∧ Below w.heap.size w w' := by
  obtain ⟨hwl, hwm⟩ := wiRow_len hw
  have HW := Lib.hid hw
  have HWL := Lib.hid hwl
  have SZ := Lib.hid (fun w => szWi_any a len cap 1048576 (by omega) w hwm)
  clear hw hwl wp
  by_cases h2 : (1048576 : Int) < (len : Int)
  · rw [if_pos h2] at SZ
    go_enter Try.func6, Try.ntmps6
    go_wp2_with fail
    refine (SZ.out _).mono ?_
    rintro e w2 ⟨rfl, rfl⟩
    go_wp2_with fail
    go_ret
    exact ⟨rfl, Below.refl _ _⟩
  · rw [if_neg h2] at SZ
    have hl3 : len ≤ 1048576 := by omega
    have hl4 : ¬ (1048576 : Int) - (len : Int) < 0 := by omega
    have HWS := Lib.hid (show ws.length ≤ 2000000 from by have := HWL.out; omega)
    obtain ⟨z, hz⟩ : ∃ z : Nat, z = cntMeet (famOf p) ws (famOf p).length := ⟨_, rfl⟩
    have CS := Lib.hid (fun w b' e' v' h => count_spec p w b' e' v' ws HWS.out h)
    have CP := Lib.hid (fun w b' e' v' h => CI p w b' e' v' ws HWS.out h)
    rw [← hz] at CS CP
    have t0 : ((z : Int) != (z : Int)) = false := by simp
    clear h2 hz
    go_enter Try.func6, Try.ntmps6
    go_wp2_with fail
    refine (SZ.out _).mono ?_
    rintro e w2 ⟨rfl, rfl⟩
    go_wp2_with fail
    refine (calls_toWis (Below.refl _ _) HW.out hl3).mono ?_
    rintro e w4 ⟨v4, rfl, o4, b4⟩
    have B4 := Lib.hid b4
    have O4 := Lib.hid o4
    clear o4 b4 SZ
    go_wp2_with fail
    refine (CS.out w4 _ _ v4 O4.out).mono ?_
    rintro e w5 ⟨rfl, b5⟩
    have B5 := Lib.hid (B4.out.trans (b5.mono B4.out.size))
    clear b5 O4 B4
    go_wp2_with fail
    refine (calls_toWis (Below.refl _ _) (wiRow_below HW.out B5.out) hl3).mono ?_
    rintro e w6 ⟨v6, rfl, o6, b6⟩
    have B6 := Lib.hid (B5.out.trans (b6.mono B5.out.size))
    have O6 := Lib.hid o6
    clear o6 b6 B5
    go_wp2_with fail
    refine (CP.out w6 _ _ v6 O6.out).mono ?_
    rintro e w7 ⟨rfl, b7⟩
    have B7 := Lib.hid (B6.out.trans (b7.mono B6.out.size))
    have O7 := Lib.hid (ownW_below O6.out b7)
    clear b7 O6 B6
    go_wp2_with fail
    refine (calls_toWis (Below.refl _ _) (wiRow_below HW.out B7.out) hl3).mono ?_
    rintro e w8 ⟨v8, rfl, o8, b8⟩
    have O8 := Lib.hid o8
    have Y8 := Lib.hid (ownW_below O7.out b8)
    have B8 := Lib.hid (B7.out.trans (b8.mono B7.out.size))
    clear o8 b8 O7 B7
    go_wp2_with fail
    refine (eqWis_same w8 _ _ _ _ v6 v8 ws HWS.out Y8.out O8.out).mono ?_
    rintro e w9 ⟨rfl, b9⟩
    have B9 := Lib.hid (B8.out.trans (b9.mono B8.out.size))
    clear b9 Y8 O8 B8
    go_wp2_with fail
    go_ret
    exact ⟨rfl, B9.out⟩
end Go.Proofs.Ytohfepcdgbgojab
