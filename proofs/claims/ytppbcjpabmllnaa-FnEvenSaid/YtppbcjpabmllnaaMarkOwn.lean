/- Contracts of laws.toIntS, laws.markIntS and laws.heldIntS. -/
import Derived.Test.YtppbcjpabmllnaaProg
import Derived.Test.YtppbcjpabmllnaaIntRows
import Derived.WalkKit
import Derived.Lib.Hide
import Derived.Laws.OwnMore
import Derived.Deep.QuietTactic
import Derived.BigQuiet
import Derived.Deep.AppendLies
namespace Go.Proofs.Ytppbcjpabmllnaa
open Go.RowKit
set_option linter.unusedVariables false
set_option maxHeartbeats 400000 in
theorem markInts_any (w : World) (base k0 : Nat) (e : TypeId) (v : Value) (n : Nat) (xs : List Int) (hn' : n ≤ 2000000) (hk1 : k0 ≤ 1000000) (h : w.ownsRow base e 1 v n (intCs xs)) :
    Calls Try.prog 19 #[v, .int .i64 k0] w fun en w' => en = .returned (.int .i64 ((k0 : Int) + n)) ∧ w'.ownsRow base e 1 v n (intCs (marksI k0 n)) ∧ Below base w w' := by
  have hn : xs.length = n := by have := h.1; rw [intCs_len] at this; omega
  have HN := Lib.hid hn
  clear hn
  rcases Nat.eq_zero_or_pos n with h0 | h0
  · obtain ⟨p1, c1, rfl⟩ := own_zero h h0
    subst h0
    have hx : xs = [] := List.eq_nil_of_length_eq_zero HN.out
    subst hx
    have HH := Lib.hid h
    clear h
    go_enter Try.func19, Try.ntmps19
    go_wp2
    refine wp_loop_rounds 1 ?_
    rw [rounds_succ]
    go_wp2
    go_ret
    exact ⟨ret_int (by omega), HH.out, Below.refl _ _⟩
  · obtain ⟨g, c, rfl, hg, hgl⟩ := own_pos h h0
    go_enter Try.func19, Try.ntmps19
    go_wp2
    go_loopw [1, 5] (fun k i wr => ∃ j z : Nat, j ≤ n ∧ z = k0 + j ∧ i = .int .i64 j ∧ k = .int .i64 z ∧ wr.ownsRow base e 1 (.slice (some ⟨g, 0, none⟩) n c) n (intCs (marksI k0 j ++ xs.drop j)) ∧ Below base w wr) (fun _ i _ => n - (intOf i).toNat)
    case atStart => exact ⟨0, k0, Nat.zero_le _, rfl, rfl, rfl, by simpa [marksI] using h, Below.refl _ _⟩
    case round =>
      obtain ⟨j, z, hj, hz, rfl, rfl, hown, hb⟩ := hrel
      clear h
      by_cases hlt : j < n
      · have q3 : (j : Int) < n := by omega
        have hl : j < xs.length := by have := HN.out; omega
        have q1 := own_icell hown j hlt
        have q2 := hown.frozenAt j
        have R1 := (hown.stored j (.int .i64 ((k0 + j : Nat) : Int))).1
        rw [marksI_set k0 j xs hl] at R1
        have R2 : Below base w (wr.setCell ⟨g, j, none⟩ (.int .i64 ((k0 + j : Nat) : Int))) := hb.setCell (p := ⟨g, j, none⟩) hg _
        generalize (marksI k0 j ++ xs.drop j).getD j 0 = y at q1
        have hz2 : z ≤ 3000000 := by omega
        rw [← hz] at R1 R2
        have HZ := Lib.hid hz
        clear hown hb hl hz
        go_wp2
        go_roundw
        case rel => exact ⟨j + 1, z + 1, by omega, by have := HZ.out; omega, by go_num, by go_num, R1, R2⟩
        case measure => simp [intOf]; omega
      · have q3 : ¬ (j : Int) < n := by omega
        obtain rfl : j = n := by omega
        go_wp2
        go_ret
        refine ⟨ret_int (by omega), ?_, hb⟩
        rwa [List.drop_of_length_le (by have := HN.out; omega), List.append_nil] at hown
set_option maxHeartbeats 400000 in
theorem heldInts_any (w : World) (base k0 : Nat) (e : TypeId) (v : Value) (n : Nat) (hn' : n ≤ 2000000) (hk1 : k0 ≤ 1000000) (h : w.ownsRow base e 1 v n (intCs (marksI k0 n))) :
    Calls Try.prog 20 #[v, .int .i64 k0] w fun en w' => en = .returned (.int .i64 ((k0 : Int) + n)) ∧ Below w.heap.size w w' := by
  rcases Nat.eq_zero_or_pos n with h0 | h0
  · obtain ⟨p1, c1, rfl⟩ := own_zero h h0
    subst h0
    clear h
    go_enter Try.func20, Try.ntmps20
    go_wp2
    refine wp_loop_rounds 1 ?_
    rw [rounds_succ]
    go_wp2
    go_ret
    exact ⟨ret_int (by omega), Below.refl _ _⟩
  · obtain ⟨g, c, rfl, hg, hgl⟩ := own_pos h h0
    go_enter Try.func20, Try.ntmps20
    go_wp2
    go_loopw [1, 5] (fun k i wr => ∃ j z : Nat, j ≤ n ∧ z = k0 + j ∧ i = .int .i64 j ∧ k = .int .i64 z ∧ wr = w) (fun _ i _ => n - (intOf i).toNat)
    case atStart => exact ⟨0, k0, Nat.zero_le _, rfl, rfl, rfl, by trivial⟩
    case round =>
      obtain ⟨j, z, hj, hz, rfl, rfl, rfl⟩ := hrel
      by_cases hlt : j < n
      · have q3 : (j : Int) < n := by omega
        have q1 := own_icell h j hlt
        rw [marksI_get k0 n j hlt] at q1
        have hz2 : z ≤ 3000000 := by omega
        rw [← hz] at q1
        have HZ := Lib.hid hz
        clear hz
        have t1 : ((z : Int) != (z : Int)) = false := by simp
        clear h
        go_wp2
        go_roundw
        case rel => exact ⟨j + 1, z + 1, by omega, by have := HZ.out; omega, by go_num, by go_num, by trivial⟩
        case measure => simp [intOf]; omega
      · have q3 : ¬ (j : Int) < n := by omega
        obtain rfl : j = n := by omega
        go_wp2
        go_ret
        exact ⟨ret_int (by omega), Below.refl _ _⟩
end Go.Proofs.Ytppbcjpabmllnaa
/- Contract of laws.markIntS: only the slice's own block is written. -/
namespace Go.Proofs.Ytppbcjpabmllnaa
open Go.RowKit
set_option linter.unusedVariables false
theorem grownI_set {w w' : World} {b : Nat} (h : w.grownBy w' (some b)) (j : Nat) (v : Value) : w.grownBy (w'.setCell ⟨b, j, none⟩ v) (some b) :=
  ⟨h.os, h.tape, h.output, by have := h.size; simpa using this, fun k hk hne => by rw [Below.heap_setCell _ _ _ _ (fun e => hne (by rw [e]))]; exact h.block k hk hne⟩
set_option maxHeartbeats 400000 in
theorem markInts_own (w : World) (base k0 : Nat) (e : TypeId) (v : Value) (n : Nat) (xs : List Int) (hn' : n ≤ 2000000) (hk1 : k0 ≤ 1000000) (h : w.ownsRow base e 1 v n (intCs xs)) :
    Calls Try.prog 19 #[v, .int .i64 k0] w fun en w' => en = .returned (.int .i64 ((k0 : Int) + n)) ∧ w'.ownsRow base e 1 v n (intCs (marksI k0 n)) ∧ w.grownBy w' v.ownBlock := by
  have hn : xs.length = n := by have := h.1; rw [intCs_len] at this; omega
  have HN := Lib.hid hn
  clear hn
  rcases Nat.eq_zero_or_pos n with h0 | h0
  · obtain ⟨p1, c1, rfl⟩ := own_zero h h0
    subst h0
    have hx : xs = [] := List.eq_nil_of_length_eq_zero HN.out
    subst hx
    have HH := Lib.hid h
    clear h
    go_enter Try.func19, Try.ntmps19
    go_wp2
    refine wp_loop_rounds 1 ?_
    rw [rounds_succ]
    go_wp2
    go_ret
    exact ⟨ret_int (by omega), HH.out, World.grownBy.refl _ _⟩
  · obtain ⟨g, c, rfl, hg, hgl⟩ := own_pos h h0
    go_enter Try.func19, Try.ntmps19
    go_wp2
    go_loopw [1, 5] (fun k i wr => ∃ j z : Nat, j ≤ n ∧ z = k0 + j ∧ i = .int .i64 j ∧ k = .int .i64 z ∧ wr.ownsRow base e 1 (.slice (some ⟨g, 0, none⟩) n c) n (intCs (marksI k0 j ++ xs.drop j)) ∧ w.grownBy wr (some g)) (fun _ i _ => n - (intOf i).toNat)
    case atStart => exact ⟨0, k0, Nat.zero_le _, rfl, rfl, rfl, by simpa [marksI] using h, World.grownBy.refl _ _⟩
    case round =>
      obtain ⟨j, z, hj, hz, rfl, rfl, hown, hb⟩ := hrel
      clear h
      by_cases hlt : j < n
      · have q3 : (j : Int) < n := by omega
        have hl : j < xs.length := by have := HN.out; omega
        have q1 := own_icell hown j hlt
        have q2 := hown.frozenAt j
        have R1 := (hown.stored j (.int .i64 ((k0 + j : Nat) : Int))).1
        rw [marksI_set k0 j xs hl] at R1
        have R2 : w.grownBy (wr.setCell ⟨g, j, none⟩ (.int .i64 ((k0 + j : Nat) : Int))) (some g) := grownI_set hb _ _
        generalize (marksI k0 j ++ xs.drop j).getD j 0 = y at q1
        have hz2 : z ≤ 3000000 := by omega
        rw [← hz] at R1 R2
        have HZ := Lib.hid hz
        clear hown hb hl hz
        go_wp2
        go_roundw
        case rel => exact ⟨j + 1, z + 1, by omega, by have := HZ.out; omega, by go_num, by go_num, R1, R2⟩
        case measure => simp [intOf]; omega
      · have q3 : ¬ (j : Int) < n := by omega
        obtain rfl : j = n := by omega
        go_wp2
        go_ret
        refine ⟨ret_int (by omega), ?_, hb⟩
        rwa [List.drop_of_length_le (by have := HN.out; omega), List.append_nil] at hown
end Go.Proofs.Ytppbcjpabmllnaa
