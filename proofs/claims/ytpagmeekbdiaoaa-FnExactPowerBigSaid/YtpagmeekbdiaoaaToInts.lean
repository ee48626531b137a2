/- Contracts of laws.toIntS, laws.markIntS and laws.heldIntS. -/
import Derived.Test.YtpagmeekbdiaoaaProg
import Derived.Test.YtpagmeekbdiaoaaIntOwn
import Derived.WalkKit
import Derived.Lib.Hide
import Derived.Laws.OwnMore
import Derived.Deep.QuietTactic
import Derived.BigQuiet
import Derived.Deep.AppendLies
namespace Go.Proofs.Ytpagmeekbdiaoaa
open Go.RowKit
set_option linter.unusedVariables false
theorem infoInt : (Try.prog.info? 3).map (fun i => (i.zero, i.size, i.bytes)) = some (some (.int .i64 0), 1, 8) := by kernel_rfl
set_option maxHeartbeats 400000 in
theorem toInts_any (w : World) (a : Option Addr) (len cap : Nat) (zs : List Int) (hr : IsRow .i64 w a len cap zs) (hl : len ≤ 1048576) :
    Calls Try.prog 14 #[.slice a len cap] w (OwnPost 3 (zs.take len) w) := by
  obtain ⟨i0, hi, hz0, hz1, hz2⟩ := info_parts infoInt
  have HL := Lib.hid (row_len hr)
  have HR := Lib.hid hr
  clear hr
  go_enter Try.func14, Try.ntmps14
  go_wp2_with (at_make; refine wpList_make_full _ rfl _ _ 25 rfl w.heap.size 3 i0 (.int .i64 0) 1 Try.underlying25 hi hz0 hz1 _ _ _ _ len rfl rfl rfl rfl (by rw [hz2]; omega) (by unfold maxLen; omega) (Nat.le_refl _) ?_; intro w1 hown1 hgrow1)
  go_loopw [4] (fun i wr => ∃ k : Nat, k ≤ len ∧ i = .int .i64 k ∧ wr.ownsRow w.heap.size 3 1 (.slice (some ⟨w.heap.size, 0, none⟩) len len) len (intCs (copied (zs.take len) k len)) ∧ Below w.heap.size w wr) (fun i _ => len - (intOf i).toNat)
  case atStart => exact ⟨0, Nat.zero_le _, rfl, by simpa [copied, intCs, toList_madeCells_one, Value.cells] using hown1, (Below.refl _ _).grown hgrow1 (Nat.le_refl _) (by simp)⟩
  case round =>
    obtain ⟨k, hk, rfl, hown, hb⟩ := hrel
    clear hown1 hgrow1
    by_cases hlt : k < len
    · have q3 : (k : Int) < len := by omega
      obtain ⟨g, off, rfl, hg, hz⟩ := row_int HR.out k hlt
      have q0 : wr.cell? ⟨g, off + k, none⟩ = some (.int .i64 ((zs.take len).getD k 0)) := (hb.cell (p := ⟨g, off + k, none⟩) hg).trans hz
      have q1 := own_icell hown k hlt
      have q2 := hown.frozenAt k
      have R1 := (hown.stored k (.int .i64 ((zs.take len).getD k 0))).1
      rw [copied_set _ k len hlt HL.out.1] at R1
      have R2 : Below w.heap.size w (wr.setCell ⟨w.heap.size, k, none⟩ (.int .i64 ((zs.take len).getD k 0))) := hb.setCell (p := ⟨w.heap.size, k, none⟩) (Nat.le_refl _) _
      generalize (zs.take len).getD k 0 = y at q0 R1 R2
      generalize (copied (zs.take len) k len).getD k 0 = y' at q1
      clear hown hb hz
      go_wp2
      go_roundw
      case rel => exact ⟨k + 1, by omega, by go_num, R1, R2⟩
      case measure => simp [intOf]; omega
    · obtain rfl : k = len := by omega
      have q3 : ¬ (k : Int) < k := by omega
      have R1 := own_eq (ys := zs.take k) hown (by simp [copied, List.take_take]) HL.out.1.symm
      clear hown
      go_wp2
      go_ret
      exact ⟨_, rfl, R1, hb⟩
end Go.Proofs.Ytpagmeekbdiaoaa
