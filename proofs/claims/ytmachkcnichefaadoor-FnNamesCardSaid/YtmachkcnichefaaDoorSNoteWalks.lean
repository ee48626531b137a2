/- Contract of spec.NoteName. -/
import Derived.Test.YtmachkcnichefaaDoorNoteWalks
namespace Go.Proofs.YtmachkcnichefaaDoor
open Go.RowKit
set_option linter.unusedVariables false
theorem fresh_let (w : World) (ty : TypeId) (k : Nat) (hk : k < 7) :
    (w.alloc (.cells #[.string ⟨#[67]⟩, .string ⟨#[68]⟩, .string ⟨#[69]⟩, .string ⟨#[70]⟩, .string ⟨#[71]⟩, .string ⟨#[65]⟩, .string ⟨#[66]⟩] ty)).cell? ⟨w.heap.size, k, none⟩ = some (.string ⟨(letB k).toArray⟩) := by
  have : k = 0 ∨ k = 1 ∨ k = 2 ∨ k = 3 ∨ k = 4 ∨ k = 5 ∨ k = 6 := by omega
  rcases this with rfl | rfl | rfl | rfl | rfl | rfl | rfl <;> simp [letB, letTab]
theorem rep_snoc (c : UInt8) : ∀ k, Lib.repeatL [c] (k + 1) = Lib.repeatL [c] k ++ [c] := fun k => by
  rw [Lib.repeatL_add, Lib.repeatL_one]
/-- A text with one more sign. -/
theorem sign_run (P : Program) (l : List UInt8) (c : UInt8) (h : l.length ≤ 1000) (w : World) : (Op.stringOp .add ⟨l.toArray⟩ ⟨#[c]⟩).run P w = .ok (.string ⟨(l ++ [c]).toArray⟩) w := by
  rw [run_string_add_sum w _ _ (by simp [ByteArray.size]; omega)]
  have e := ByteArray.mk_append_mk l [c]
  rw [← e]
set_option maxHeartbeats 1000000 in
theorem name_spec (n : Int) (w : World) :
    Calls Tryd.prog 14 #[.int .i64 n] w fun e w' => e = .returned (.string ⟨(nameL n).toArray⟩) ∧ Below w.heap.size w w' := by
  by_cases h : HasN n
  · have D : HasAt n true := (hasN_yes h).symm
    have R := Lib.hid (nameL_yes h)
    obtain ⟨a, ha⟩ : ∃ a, a = accN n := ⟨_, rfl⟩
    obtain ⟨k, hk⟩ : ∃ k : Nat, k = (letN n).toNat := ⟨_, rfl⟩
    obtain ⟨a0, a1⟩ := accN_bd h
    obtain ⟨x0, x1⟩ := letN_bd h
    have X : LetAt n (k : Int) := by unfold LetAt; omega
    have k7 : k < 7 := by omega
    rw [← hk, ← ha] at R
    rw [← ha] at a0 a1
    have AC := Lib.hid (fun w => acc_spec n w)
    rw [← ha] at AC
    have L1 := letB_len k k7
    have cc := fresh_let w 9 k k7
    have hb0 : Below w.heap.size w (w.alloc (.cells #[.string ⟨#[67]⟩, .string ⟨#[68]⟩, .string ⟨#[69]⟩, .string ⟨#[70]⟩, .string ⟨#[71]⟩, .string ⟨#[65]⟩, .string ⟨#[66]⟩] 9)) := (Below.refl _ w).alloc (Nat.le_refl _) _
    have B := Lib.hid hb0
    clear h ha hk x0 x1 hb0
    go_enter Tryd.func14, Tryd.ntmps14
    go_wp2_with (first | (go_at_call 18; refine (has_spec_at (by with_reducible assumption) _).mono ?_; rintro e w1 ⟨rfl, rfl⟩) | (go_at_call 19; refine (letter_spec_at (by with_reducible assumption) _).mono ?_; rintro e w1 ⟨rfl, rfl⟩) | (go_at_call 20; refine (AC.out _).mono ?_; rintro e w1 ⟨rfl, rfl⟩))
    obtain ⟨W, hW⟩ : ∃ W, W = (w.alloc (.cells #[.string ⟨#[67]⟩, .string ⟨#[68]⟩, .string ⟨#[69]⟩, .string ⟨#[70]⟩, .string ⟨#[71]⟩, .string ⟨#[65]⟩, .string ⟨#[66]⟩] 9)) := ⟨_, rfl⟩
    rw [← hW] at B ⊢
    clear hW cc
    go_loopw [3, 5] (fun s i wr => ∃ j : Nat, (j : Int) ≤ max a 0 ∧ i = .int .i64 (j : Int) ∧ s = .string ⟨(letB k ++ Lib.repeatL [35] j).toArray⟩ ∧ W = wr) (fun _ i _ => (a - intOf i).toNat)
    case atStart => exact ⟨0, by omega, rfl, by simp [Lib.repeatL], rfl⟩
    case round =>
      obtain ⟨j, hj, rfl, rfl, rfl⟩ := hrel
      by_cases hja : (j : Int) < a
      · have l1 : (letB k ++ Lib.repeatL [35] j).length ≤ 1000 := by rw [List.length_append, Lib.repeatL_length, L1]; simp; omega
        have S := fun w => sign_run Tryd.prog (letB k ++ Lib.repeatL [35] j) 35 l1 w
        have e1 := rep_snoc 35 j
        go_wp2
        go_roundw
        case rel => exact ⟨j + 1, by omega, by go_num, by rw [e1], trivial⟩
        case measure => simp [intOf]; omega
      · obtain ⟨p, hp⟩ : ∃ p, p = letB k ++ Lib.repeatL [35] j := ⟨_, rfl⟩
        have hp2 : p.length ≤ 3 := by rw [hp, List.length_append, Lib.repeatL_length, L1]; simp; omega
        have ej : j = a.toNat := by omega
        rw [ej] at hp
        rw [← ej] at hp
        have HP := Lib.hid hp
        rw [← hp]
        clear hp
        go_wp2
        go_loopw [3, 6] (fun s i wr => ∃ q : Nat, (q : Int) ≤ max (-a) 0 ∧ i = .int .i64 (q : Int) ∧ s = .string ⟨(p ++ Lib.repeatL [98] q).toArray⟩ ∧ W = wr) (fun _ i _ => (-a - intOf i).toNat)
        case atStart => exact ⟨0, by omega, rfl, by simp [Lib.repeatL], rfl⟩
        case round =>
          obtain ⟨q, hq, rfl, rfl, rfl⟩ := hrel
          by_cases hqa : (q : Int) < -a
          · have l1 : (p ++ Lib.repeatL [98] q).length ≤ 1000 := by rw [List.length_append, Lib.repeatL_length]; simp; omega
            have S := fun w => sign_run Tryd.prog (p ++ Lib.repeatL [98] q) 98 l1 w
            have e1 := rep_snoc 98 q
            go_wp2
            go_roundw
            case rel => exact ⟨q + 1, by omega, by go_num, by rw [e1], trivial⟩
            case measure => simp [intOf]; omega
          · have eq := Lib.hid (show q = (-a).toNat by omega)
            go_wp2
            go_ret
            exact ⟨ret_strN (by rw [R.out, HP.out, ← ej, eq.out]), B.out⟩
  · have D : HasAt n false := (hasN_no h).symm
    have R := Lib.hid (nameL_no h)
    clear h
    go_enter Tryd.func14, Tryd.ntmps14
    go_wp2_with (go_at_call 18; refine (has_spec_at (by with_reducible assumption) _).mono ?_; rintro e w1 ⟨rfl, rfl⟩)
    go_ret
    exact ⟨by rw [R.out]; rfl, Below.refl _ _⟩
end Go.Proofs.YtmachkcnichefaaDoor
