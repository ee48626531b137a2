/- Contracts of laws.toIntS, laws.markIntS and laws.heldIntS. -/
import Derived.Test.YtppbcjpabmllnaaProg
import Derived.Test.YtppbcjpabmllnaaNumBase
import Derived.WalkKit
import Derived.Lib.Hide
import Derived.Laws.OwnMore
import Derived.Deep.QuietTactic
import Derived.BigQuiet
import Derived.Deep.AppendLies
namespace Go.Proofs.Ytppbcjpabmllnaa
open Go.RowKit
set_option linter.unusedVariables false
theorem infoInt : (Try.prog.info? 3).map (fun i => (i.zero, i.size, i.bytes)) = some (some (.int .i64 0), 1, 8) := by kernel_rfl
set_option maxHeartbeats 400000 in
theorem toInts_any (w : World) (a : Option Addr) (len cap : Nat) (zs : List Int) (hr : IsRow .i64 w a len cap zs) (hl : len ≤ 1048576) :
    Calls Try.prog 41 #[.slice a len cap] w (OwnPost 3 (zs.take len) w) := by
  obtain ⟨i0, hi, hz0, hz1, hz2⟩ := info_parts infoInt
  have HL := Lib.hid (row_len hr)
  have HR := Lib.hid hr
  clear hr
  go_enter Try.func41, Try.ntmps41
  go_wp2_with (at_make; refine wpList_make_full _ rfl _ _ 24 rfl w.heap.size 3 i0 (.int .i64 0) 1 Try.underlying24 hi hz0 hz1 _ _ _ _ len rfl rfl rfl rfl (by rw [hz2]; omega) (by unfold maxLen; omega) (Nat.le_refl _) ?_; intro w1 hown1 hgrow1)
  go_loopw [4] (fun i wr => ∃ k : Nat, k ≤ len ∧ i = .int .i64 k ∧ wr.ownsRow w.heap.size 3 1 (.slice (some ⟨w.heap.size, 0, none⟩) len len) len (intCs (copied (zs.take len) k len)) ∧ Below w.heap.size w wr) (fun i _ => len - (intOf i).toNat)
  case atStart => exact ⟨0, Nat.zero_le _, rfl, by simpa [copied, intCs, toList_madeCells_one, Value.cells] using hown1, (Below.refl _ _).grown hgrow1 (Nat.le_refl _) (by simp)⟩
  case round =>
    obtain ⟨k, hk, rfl, hown, hb⟩ := hrel
    clear hown1 hgrow1
    by_cases hlt : k < len
    · have q3 : (k : Int) < len := by omega
      obtain ⟨g, off, rfl, hg, hz⟩ := row_int HR.out k hlt
      have q0 : wr.cell? ⟨g, off + k, none⟩ = some (.int .i64 ((zs.take len).getD k 0)) := (hb.cell (p := ⟨g, off + k, none⟩) hg).trans hz
      have q1 := own_icell hown k hlt
      have q2 := hown.frozenAt k
      have R1 := (hown.stored k (.int .i64 ((zs.take len).getD k 0))).1
      rw [copied_set _ k len hlt HL.out.1] at R1
      have R2 : Below w.heap.size w (wr.setCell ⟨w.heap.size, k, none⟩ (.int .i64 ((zs.take len).getD k 0))) := hb.setCell (p := ⟨w.heap.size, k, none⟩) (Nat.le_refl _) _
      generalize (zs.take len).getD k 0 = y at q0 R1 R2
      generalize (copied (zs.take len) k len).getD k 0 = y' at q1
      clear hown hb hz
      go_wp2
      go_roundw
      case rel => exact ⟨k + 1, by omega, by go_num, R1, R2⟩
      case measure => simp [intOf]; omega
    · obtain rfl : k = len := by omega
      have q3 : ¬ (k : Int) < k := by omega
      have R1 := own_eq (ys := zs.take k) hown (by simp [copied, List.take_take]) HL.out.1.symm
      clear hown
      go_wp2
      go_ret
      exact ⟨_, rfl, R1, hb⟩
end Go.Proofs.Ytppbcjpabmllnaa
/- Contract of laws.eqIntS over slices of ints that the call owns. -/
namespace Go.Proofs.Ytppbcjpabmllnaa
open Go.RowKit
set_option linter.unusedVariables false
theorem ret_bool {a b : Bool} (h : a = b) : Ending.returned (.bool a) = .returned (.bool b) := by rw [h]
set_option maxHeartbeats 400000 in
theorem eqInts_any (w : World) (b1 b2 : Nat) (e1 e2 : TypeId) (v1 v2 : Value) (xs ys : List Int) (hx : xs.length ≤ 2000000) (hy : ys.length ≤ 2000000) (h1 : w.ownsRow b1 e1 1 v1 xs.length (intCs xs)) (h2 : w.ownsRow b2 e2 1 v2 ys.length (intCs ys)) :
    Calls Try.prog 18 #[v1, v2] w fun e w' => e = .returned (.bool (decide (xs = ys))) ∧ Below w.heap.size w w' := by
  obtain ⟨n, hn⟩ : ∃ n, n = xs.length := ⟨_, rfl⟩
  obtain ⟨m, hm⟩ : ∃ m, m = ys.length := ⟨_, rfl⟩
  rw [← hn] at h1 hx
  rw [← hm] at h2 hy
  have HN := Lib.hid hn
  have HM := Lib.hid hm
  clear hn hm
  by_cases hne : n = m
  · subst hne
    rcases Nat.eq_zero_or_pos n with h0 | h0
    · obtain ⟨p1, c1, rfl⟩ := own_zero h1 h0
      obtain ⟨p2, c2, rfl⟩ := own_zero h2 h0
      have R : xs = ys := by rw [List.eq_nil_of_length_eq_zero (HN.out.symm.trans h0), List.eq_nil_of_length_eq_zero (HM.out.symm.trans h0)]
      have HR := Lib.hid R
      clear h1 h2 h0 R
      go_enter Try.func18, Try.ntmps18
      go_wp2
      refine wp_loop_rounds 1 ?_
      rw [rounds_succ]
      go_wp2
      go_ret
      exact ⟨ret_bool (decide_eq_true HR.out).symm, Below.refl _ _⟩
    · obtain ⟨g1, c1, rfl, _, _⟩ := own_pos h1 h0
      obtain ⟨g2, c2, rfl, _, _⟩ := own_pos h2 h0
      have t0 : ((n : Int) != (n : Int)) = false := by simp
      go_enter Try.func18, Try.ntmps18
      go_wp2
      go_loopw [5] (fun i wr => ∃ k d : Nat, k ≤ n ∧ i = .int .i64 k ∧ (∀ j, j < k → xs.getD j 0 = ys.getD j 0) ∧ wr = w.drewN d) (fun i _ => n - (intOf i).toNat)
      case atStart => exact ⟨0, 0, Nat.zero_le _, rfl, fun j hj => by omega, rfl⟩
      case round =>
        obtain ⟨k, d, hk, rfl, hall, rfl⟩ := hrel
        have HA := Lib.hid hall
        clear hall
        by_cases hlt : k < n
        · have q1 := own_icell h1 k hlt
          have q2 := own_icell h2 k hlt
          have q3 : (k : Int) < n := by omega
          obtain ⟨x, hxk⟩ : ∃ x, x = xs.getD k 0 := ⟨_, rfl⟩
          obtain ⟨y, hyk⟩ : ∃ y, y = ys.getD k 0 := ⟨_, rfl⟩
          rw [← hxk] at q1
          rw [← hyk] at q2
          have HX := Lib.hid hxk
          have HY := Lib.hid hyk
          clear hxk hyk
          by_cases hxy : x = y
          · have t1 : (x != y) = false := by simp [hxy]
            have HXY := Lib.hid hxy
            clear hxy
            go_wp2_with fail
            go_quiet (fail)
            go_wp2_with fail
            go_roundw
            case rel => exact ⟨k + 1, _, by omega, by go_num, fun j hj => by rcases (show j < k ∨ j = k from by omega) with h | h; exact HA.out j h; rw [h, ← HX.out, ← HY.out]; exact HXY.out, rfl⟩
            case measure => simp [intOf]; omega
          · have t1 : (x != y) = true := by simp [hxy]
            have HXY := Lib.hid hxy
            clear hxy
            go_wp2_with fail
            go_quiet (fail)
            go_wp2_with fail
            go_ret
            exact ⟨ret_bool (decide_eq_false (fun h => HXY.out (by rw [HX.out, HY.out, h]))).symm, ⟨rfl, rfl, rfl, Nat.le_refl _, fun _ _ => rfl⟩⟩
        · have q3 : ¬ (k : Int) < n := by omega
          have hkn : k = n := by omega
          go_wp2_with fail
          go_ret
          exact ⟨ret_bool (decide_eq_true (ext_getD (HN.out.symm.trans HM.out) (fun j hj => HA.out j (by have := HN.out; omega)))).symm, ⟨rfl, rfl, rfl, Nat.le_refl _, fun _ _ => rfl⟩⟩
  · have s1 : ∃ p c, v1 = .slice p n c := by
      rcases own_shape h1 with ⟨h, h'⟩ | ⟨g, cap, h, _⟩
      · exact ⟨_, _, by rw [h, h']⟩
      · exact ⟨_, _, h⟩
    have s2 : ∃ p c, v2 = .slice p m c := by
      rcases own_shape h2 with ⟨h, h'⟩ | ⟨g, cap, h, _⟩
      · exact ⟨_, _, by rw [h, h']⟩
      · exact ⟨_, _, h⟩
    obtain ⟨p1, c1, rfl⟩ := s1
    obtain ⟨p2, c2, rfl⟩ := s2
    have t0 : ((n : Int) != (m : Int)) = true := by simp; omega
    have HR := Lib.hid hne
    clear h1 h2 hne
    go_enter Try.func18, Try.ntmps18
    go_wp2
    go_ret
    exact ⟨ret_bool (decide_eq_false (fun h => HR.out (by rw [HN.out, HM.out, h]))).symm, Below.refl _ _⟩
end Go.Proofs.Ytppbcjpabmllnaa
