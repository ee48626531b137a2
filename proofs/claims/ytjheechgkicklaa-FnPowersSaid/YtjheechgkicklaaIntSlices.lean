/- Contracts of laws.toIntS, laws.markIntS and laws.heldIntS. -/
import Derived.Test.YtjheechgkicklaaProg
import Derived.Test.YtjheechgkicklaaIntOwn
import Derived.WalkKit
import Derived.Lib.Hide
import Derived.Laws.OwnMore
import Derived.Deep.QuietTactic
import Derived.BigQuiet
import Derived.Deep.AppendLies
namespace Go.Proofs.Ytjheechgkicklaa
open Go.RowKit
set_option linter.unusedVariables false
theorem infoInt : (Try.prog.info? 3).map (fun i => (i.zero, i.size, i.bytes)) = some (some (.int .i64 0), 1, 8) := by kernel_rfl
set_option maxHeartbeats 400000 in
theorem toInts_any (w : World) (a : Option Addr) (len cap : Nat) (zs : List Int) (hr : IsRow .i64 w a len cap zs) (hl : len ≤ 1048576) :
    Calls Try.prog 16 #[.slice a len cap] w (OwnPost 3 (zs.take len) w) := by
  obtain ⟨i0, hi, hz0, hz1, hz2⟩ := info_parts infoInt
  have HL := Lib.hid (row_len hr)
  have HR := Lib.hid hr
  clear hr
  go_enter Try.func16, Try.ntmps16
  go_wp2_with (at_make; refine wpList_make_full _ rfl _ _ 25 rfl w.heap.size 3 i0 (.int .i64 0) 1 Try.underlying25 hi hz0 hz1 _ _ _ _ len rfl rfl rfl rfl (by rw [hz2]; omega) (by unfold maxLen; omega) (Nat.le_refl _) ?_; intro w1 hown1 hgrow1)
  go_loopw [4] (fun i wr => ∃ k : Nat, k ≤ len ∧ i = .int .i64 k ∧ wr.ownsRow w.heap.size 3 1 (.slice (some ⟨w.heap.size, 0, none⟩) len len) len (intCs (copied (zs.take len) k len)) ∧ Below w.heap.size w wr) (fun i _ => len - (intOf i).toNat)
  case atStart => exact ⟨0, Nat.zero_le _, rfl, by simpa [copied, intCs, toList_madeCells_one, Value.cells] using hown1, (Below.refl _ _).grown hgrow1 (Nat.le_refl _) (by simp)⟩
  case round =>
    obtain ⟨k, hk, rfl, hown, hb⟩ := hrel
    clear hown1 hgrow1
    by_cases hlt : k < len
    · have q3 : (k : Int) < len := by omega
      obtain ⟨g, off, rfl, hg, hz⟩ := row_int HR.out k hlt
      have q0 : wr.cell? ⟨g, off + k, none⟩ = some (.int .i64 ((zs.take len).getD k 0)) := (hb.cell (p := ⟨g, off + k, none⟩) hg).trans hz
      have q1 := own_icell hown k hlt
      have q2 := hown.frozenAt k
      have R1 := (hown.stored k (.int .i64 ((zs.take len).getD k 0))).1
      rw [copied_set _ k len hlt HL.out.1] at R1
      have R2 : Below w.heap.size w (wr.setCell ⟨w.heap.size, k, none⟩ (.int .i64 ((zs.take len).getD k 0))) := hb.setCell (p := ⟨w.heap.size, k, none⟩) (Nat.le_refl _) _
      generalize (zs.take len).getD k 0 = y at q0 R1 R2
      generalize (copied (zs.take len) k len).getD k 0 = y' at q1
      clear hown hb hz
      go_wp2
      go_roundw
      case rel => exact ⟨k + 1, by omega, by go_num, R1, R2⟩
      case measure => simp [intOf]; omega
    · obtain rfl : k = len := by omega
      have q3 : ¬ (k : Int) < k := by omega
      have R1 := own_eq (ys := zs.take k) hown (by simp [copied, List.take_take]) HL.out.1.symm
      clear hown
      go_wp2
      go_ret
      exact ⟨_, rfl, R1, hb⟩
set_option maxHeartbeats 400000 in
theorem markInts_any (w : World) (base k0 : Nat) (e : TypeId) (v : Value) (n : Nat) (xs : List Int) (hn' : n ≤ 2000000) (hk1 : k0 ≤ 1000000) (h : w.ownsRow base e 1 v n (intCs xs)) :
    Calls Try.prog 21 #[v, .int .i64 k0] w fun en w' => en = .returned (.int .i64 ((k0 : Int) + n)) ∧ w'.ownsRow base e 1 v n (intCs (marksI k0 n)) ∧ Below base w w' := by
  have hn : xs.length = n := by have := h.1; rw [intCs_len] at this; omega
  have HN := Lib.hid hn
  clear hn
  rcases Nat.eq_zero_or_pos n with h0 | h0
  · obtain ⟨p1, c1, rfl⟩ := own_zero h h0
    subst h0
    have hx : xs = [] := List.eq_nil_of_length_eq_zero HN.out
    subst hx
    have HH := Lib.hid h
    clear h
    go_enter Try.func21, Try.ntmps21
    go_wp2
    refine wp_loop_rounds 1 ?_
    rw [rounds_succ]
    go_wp2
    go_ret
    exact ⟨ret_int (by omega), HH.out, Below.refl _ _⟩
  · obtain ⟨g, c, rfl, hg, hgl⟩ := own_pos h h0
    go_enter Try.func21, Try.ntmps21
    go_wp2
    go_loopw [1, 5] (fun k i wr => ∃ j z : Nat, j ≤ n ∧ z = k0 + j ∧ i = .int .i64 j ∧ k = .int .i64 z ∧ wr.ownsRow base e 1 (.slice (some ⟨g, 0, none⟩) n c) n (intCs (marksI k0 j ++ xs.drop j)) ∧ Below base w wr) (fun _ i _ => n - (intOf i).toNat)
    case atStart => exact ⟨0, k0, Nat.zero_le _, rfl, rfl, rfl, by simpa [marksI] using h, Below.refl _ _⟩
    case round =>
      obtain ⟨j, z, hj, hz, rfl, rfl, hown, hb⟩ := hrel
      clear h
      by_cases hlt : j < n
      · have q3 : (j : Int) < n := by omega
        have hl : j < xs.length := by have := HN.out; omega
        have q1 := own_icell hown j hlt
        have q2 := hown.frozenAt j
        have R1 := (hown.stored j (.int .i64 ((k0 + j : Nat) : Int))).1
        rw [marksI_set k0 j xs hl] at R1
        have R2 : Below base w (wr.setCell ⟨g, j, none⟩ (.int .i64 ((k0 + j : Nat) : Int))) := hb.setCell (p := ⟨g, j, none⟩) hg _
        generalize (marksI k0 j ++ xs.drop j).getD j 0 = y at q1
        have hz2 : z ≤ 3000000 := by omega
        rw [← hz] at R1 R2
        have HZ := Lib.hid hz
        clear hown hb hl hz
        go_wp2
        go_roundw
        case rel => exact ⟨j + 1, z + 1, by omega, by have := HZ.out; omega, by go_num, by go_num, R1, R2⟩
        case measure => simp [intOf]; omega
      · have q3 : ¬ (j : Int) < n := by omega
        obtain rfl : j = n := by omega
        go_wp2
        go_ret
        refine ⟨ret_int (by omega), ?_, hb⟩
        rwa [List.drop_of_length_le (by have := HN.out; omega), List.append_nil] at hown
set_option maxHeartbeats 400000 in
theorem heldInts_any (w : World) (base k0 : Nat) (e : TypeId) (v : Value) (n : Nat) (hn' : n ≤ 2000000) (hk1 : k0 ≤ 1000000) (h : w.ownsRow base e 1 v n (intCs (marksI k0 n))) :
    Calls Try.prog 22 #[v, .int .i64 k0] w fun en w' => en = .returned (.int .i64 ((k0 : Int) + n)) ∧ Below w.heap.size w w' := by
  rcases Nat.eq_zero_or_pos n with h0 | h0
  · obtain ⟨p1, c1, rfl⟩ := own_zero h h0
    subst h0
    clear h
    go_enter Try.func22, Try.ntmps22
    go_wp2
    refine wp_loop_rounds 1 ?_
    rw [rounds_succ]
    go_wp2
    go_ret
    exact ⟨ret_int (by omega), Below.refl _ _⟩
  · obtain ⟨g, c, rfl, hg, hgl⟩ := own_pos h h0
    go_enter Try.func22, Try.ntmps22
    go_wp2
    go_loopw [1, 5] (fun k i wr => ∃ j z : Nat, j ≤ n ∧ z = k0 + j ∧ i = .int .i64 j ∧ k = .int .i64 z ∧ wr = w) (fun _ i _ => n - (intOf i).toNat)
    case atStart => exact ⟨0, k0, Nat.zero_le _, rfl, rfl, rfl, by trivial⟩
    case round =>
      obtain ⟨j, z, hj, hz, rfl, rfl, rfl⟩ := hrel
      by_cases hlt : j < n
      · have q3 : (j : Int) < n := by omega
        have q1 := own_icell h j hlt
        rw [marksI_get k0 n j hlt] at q1
        have hz2 : z ≤ 3000000 := by omega
        rw [← hz] at q1
        have HZ := Lib.hid hz
        clear hz
        have t1 : ((z : Int) != (z : Int)) = false := by simp
        clear h
        go_wp2
        go_roundw
        case rel => exact ⟨j + 1, z + 1, by omega, by have := HZ.out; omega, by go_num, by go_num, by trivial⟩
        case measure => simp [intOf]; omega
      · have q3 : ¬ (j : Int) < n := by omega
        obtain rfl : j = n := by omega
        go_wp2
        go_ret
        exact ⟨ret_int (by omega), Below.refl _ _⟩
end Go.Proofs.Ytjheechgkicklaa
