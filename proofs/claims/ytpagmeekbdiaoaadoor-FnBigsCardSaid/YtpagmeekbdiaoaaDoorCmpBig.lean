/- Contracts of impl.CompareBig and spec.CompareBig. -/
import Derived.Test.YtpagmeekbdiaoaaDoorCmpWalks
namespace Go.Proofs.YtpagmeekbdiaoaaDoor
open Go.RowKit
set_option linter.unusedVariables false
theorem cmpR_no {xs ys : List Int} (h : ¬ (OkB xs ∧ OkB ys)) : CmpR xs ys = 0 := by unfold CmpR; rw [if_neg h]
theorem cmpR_yes {xs ys : List Int} (h1 : OkB xs) (h2 : OkB ys) : CmpR xs ys = cmpB xs ys := by unfold CmpR; rw [if_pos ⟨h1, h2⟩]
set_option maxHeartbeats 1000000 in
theorem compareBig_any (w : World) (b1 b2 : Nat) (e1 e2 : TypeId) (v1 v2 : Value) (xs ys : List Int) (hx : xs.length ≤ 2000000) (hy : ys.length ≤ 2000000) (h1 : w.ownsRow b1 e1 1 v1 xs.length (intCs xs)) (h2 : w.ownsRow b2 e2 1 v2 ys.length (intCs ys)) :
    Calls Tryd.prog 13 #[v1, v2] w fun e w' => e = .returned (.int .i64 (CmpR xs ys)) ∧ Below w.heap.size w w' := by
  have C1 := ok_any w b1 e1 v1 xs hx h1
  have C2 := ok_any w b2 e2 v2 ys hy h2
  by_cases hok1 : OkB xs
  · rw [decide_eq_true hok1] at C1
    by_cases hok2 : OkB ys
    · rw [decide_eq_true hok2] at C2
      have C3 := compare_any w b1 b2 e1 e2 v1 v2 xs ys hok1 hok2 h1 h2
      have Y := Lib.hid (cmpR_yes hok1 hok2)
      have HH1 := Lib.hid C1
      have HH2 := Lib.hid C2
      have HH3 := Lib.hid C3
      clear hok1 hok2 h1 h2 C1 C2 C3
      go_enter Tryd.func13, Tryd.ntmps13
      go_wp2_with fail
      refine HH1.out.mono ?_
      rintro e3 w3 ⟨rfl, rfl⟩
      go_wp2_with fail
      refine HH2.out.mono ?_
      rintro e3 w3 ⟨rfl, rfl⟩
      go_wp2_with fail
      refine HH3.out.mono ?_
      rintro e3 w3 ⟨rfl, b3⟩
      go_wp2_with fail
      go_ret
      exact ⟨ret_int Y.out.symm, b3⟩
    · rw [decide_eq_false hok2] at C2
      have Y := Lib.hid (cmpR_no (xs := xs) (ys := ys) (fun h => hok2 h.2))
      have HH1 := Lib.hid C1
      have HH2 := Lib.hid C2
      clear hok1 hok2 h1 h2 C1 C2
      go_enter Tryd.func13, Tryd.ntmps13
      go_wp2_with fail
      refine HH1.out.mono ?_
      rintro e3 w3 ⟨rfl, rfl⟩
      go_wp2_with fail
      refine HH2.out.mono ?_
      rintro e3 w3 ⟨rfl, rfl⟩
      go_wp2_with fail
      go_ret
      exact ⟨ret_int Y.out.symm, Below.refl _ _⟩
  · rw [decide_eq_false hok1] at C1
    have Y := Lib.hid (cmpR_no (xs := xs) (ys := ys) (fun h => hok1 h.1))
    have HH1 := Lib.hid C1
    clear hok1 h1 h2 C1 C2
    go_enter Tryd.func13, Tryd.ntmps13
    go_wp2_with fail
    refine HH1.out.mono ?_
    rintro e3 w3 ⟨rfl, rfl⟩
    go_wp2_with fail
    go_ret
    exact ⟨ret_int Y.out.symm, Below.refl _ _⟩
end Go.Proofs.YtpagmeekbdiaoaaDoor
