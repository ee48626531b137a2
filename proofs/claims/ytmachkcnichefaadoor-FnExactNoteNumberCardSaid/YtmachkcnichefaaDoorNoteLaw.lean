/- The walks of laws.FnExactNoteName and laws.FnExactNoteNumber. -/
import Derived.Test.YtmachkcnichefaaDoorNumbWalks
namespace Go.Proofs.YtmachkcnichefaaDoor
open Go.RowKit
set_option linter.unusedVariables false
theorem walk_FnExactNoteName (a0 : Int) (w : World) (ht : LetTab w) (w0 : (Lit.int .i64 a0).wf = true) :
    Calls Tryd.prog 4 #[.int .i64 a0] w fun e w' => e = .returned (.bool true) ∧ Below w.heap.size w w' := by
  clear w0
  have T := Lib.hid ht
  have S1 := Lib.hid (fun w => name_spec a0 w)
  have S2 := Lib.hid (fun w h => name_impl a0 w h)
  obtain ⟨x, hx⟩ : ∃ x, x = nameL a0 := ⟨_, rfl⟩
  rw [← hx] at S1 S2
  clear hx ht
  go_enter Tryd.func4, Tryd.ntmps4
  go_wp2_with fail
  refine (S1.out _).mono ?_
  rintro e w1 ⟨rfl, hb1⟩
  have T1 := Lib.hid (T.out.below hb1)
  have B1 := Lib.hid hb1
  clear hb1
  go_wp2_with fail
  refine (S2.out _ T1.out).mono ?_
  rintro e w2 ⟨rfl, hb2⟩
  have B2 := Lib.hid (B1.out.trans (hb2.mono B1.out.size))
  clear hb2
  go_wp2_with fail
  go_ret
  exact ⟨rfl, B2.out⟩
theorem walk_FnExactNoteNumber (a0 : ByteArray) (w : World) (ht : LetTab w) (w0 : a0.size ≤ maxLen) :
    Calls Tryd.prog 5 #[.string a0] w fun e w' => e = .returned (.bool true) ∧ Below w.heap.size w w' := by
  obtain ⟨L, hL⟩ : ∃ L : List UInt8, a0 = ⟨L.toArray⟩ := ⟨_, bytes_list a0⟩
  have hl : L.length ≤ 9223372036854775807 := by unfold maxLen at w0; rw [hL] at w0; simp [ByteArray.size] at w0; omega
  subst hL
  clear w0
  have T := Lib.hid ht
  obtain ⟨n, y, h⟩ := numAt_ex L
  have S1 := Lib.hid (fun w => number_spec h w)
  have S2 := Lib.hid (fun w k => number_impl h w k)
  clear h ht
  go_enter Tryd.func5, Tryd.ntmps5
  by_cases hb : 1048576 < (L.length : Int)
  · go_wp2_with fail
    go_ret
    exact ⟨rfl, Below.refl _ _⟩
  · go_wp2_with fail
    refine (S1.out _).mono ?_
    rintro e w1 ⟨rfl, hb1⟩
    have T1 := Lib.hid (T.out.below hb1)
    have B1 := Lib.hid hb1
    clear hb1
    go_wp2_with fail
    refine (S2.out _ T1.out).mono ?_
    rintro e w2 ⟨rfl, hb2⟩
    have B2 := Lib.hid (B1.out.trans (hb2.mono B1.out.size))
    have t0 : (y != y) = false := by cases y <;> rfl
    clear hb2
    go_wp2_with fail
    go_ret
    exact ⟨rfl, B2.out⟩
end Go.Proofs.YtmachkcnichefaaDoor
