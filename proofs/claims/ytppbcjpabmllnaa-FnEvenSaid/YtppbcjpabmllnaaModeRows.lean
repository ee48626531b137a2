/- Contracts of slices.Repeat (twice), Equal, Compare, Clone and Reverse at rows of ints. -/
import Derived.Test.YtppbcjpabmllnaaOffRows
import Derived.Test.YtppbcjpabmllnaaModeFacts2
import Derived.Test.YtppbcjpabmllnaaSortInts
import Derived.Deep.QuietTactic
import Derived.BigQuiet
import Derived.Deep.RegionWith
namespace Go.Proofs.Ytppbcjpabmllnaa
open Go.RowKit Go.Joins
set_option linter.unusedVariables false
set_option maxHeartbeats 4000000 in
theorem mul64_2 {n r : Int} (hn : 1 ≤ n ∧ n ≤ 12) (hr : r = 2 * n) (w : World) : Calls Try.prog 60 #[.int .u64 n, .int .u64 2] w fun e w' => e = .returned (.tuple #[.int .u64 0, .int .u64 r]) ∧ w = w' := by
  rcases (show n = 1 ∨ n = 2 ∨ n = 3 ∨ n = 4 ∨ n = 5 ∨ n = 6 ∨ n = 7 ∨ n = 8 ∨ n = 9 ∨ n = 10 ∨ n = 11 ∨ n = 12 from by omega) with rfl | rfl | rfl | rfl | rfl | rfl | rfl | rfl | rfl | rfl | rfl | rfl
  all_goals
    subst hr
    clear hn
    go_enter Try.func60, Try.ntmps60
    go_wp2
    go_ret2
    exact ⟨by trivial, rfl⟩
theorem mul_2 {n r : Int} (hn : 1 ≤ n ∧ n ≤ 12) (hr : r = 2 * n) (w : World) : Calls Try.prog 55 #[.int .u64 n, .int .u64 2] w fun e w' => e = .returned (.tuple #[.int .u64 0, .int .u64 r]) ∧ w = w' := by
  have M := Lib.hid (fun X => mul64_2 hn hr X)
  clear hn hr
  go_enter Try.func55, Try.ntmps55
  go_wp2_with fail
  refine (M.out _).mono ?_
  rintro e w1 ⟨rfl, rfl⟩
  go_wp2_with fail
  go_ret2
  exact ⟨by trivial, rfl⟩
theorem splice_first (xs : List Int) (N : Nat) (hN : N = 2 * xs.length) : splice (List.replicate N 0) 0 xs = xs ++ List.replicate xs.length 0 := by
  subst hN
  simp [splice]
  omega
theorem splice_twice (xs : List Int) : splice (xs ++ List.replicate xs.length 0) xs.length xs = xs ++ xs := by
  simp [splice]
theorem twice_get {xs : List Int} {j : Nat} (h : j < 2 * xs.length) : (xs ++ xs).getD j 0 = xs.getD (j % xs.length) 0 := by
  rcases Nat.lt_or_ge j xs.length with q | q
  · rw [Nat.mod_eq_of_lt q, List.getD_eq_getElem?_getD, List.getElem?_append_left q, ← List.getD_eq_getElem?_getD]
  · obtain ⟨i, rfl⟩ : ∃ i, j = xs.length + i := ⟨j - xs.length, by omega⟩
    rw [Nat.add_mod_left, Nat.mod_eq_of_lt (by omega), List.getD_eq_getElem?_getD, List.getElem?_append_right (by omega), ← List.getD_eq_getElem?_getD, Nat.add_sub_cancel_left]
theorem rep2_start {n N : Nat} {xs : List Int} (hl : xs.length = n) (hN : N = 2 * n) (w w1 : World) (ty : TypeId) (g0 o0 c0 : Nat) (h0 : g0 < w.heap.size) (q0 : ∀ j, j < n → w.cell? ⟨g0, o0 + j, none⟩ = some (.int .i64 (xs.getD j 0))) (hown1 : w1.ownsRow w.heap.size 3 1 (.slice (some ⟨w.heap.size, 0, none⟩) N N) N (madeCells (Value.int .i64 0).cells (N * 1)).toList) (hgrow1 : w.grownBy w1 none) :
    ∃ W, (Builtin.copy_ #[24, 24] ty #[.slice (some ⟨w.heap.size, 0, none⟩) N N, .slice (some ⟨g0, o0, none⟩) n c0]).run Try.prog w1 = .ok (goInt n) W ∧
      Hid (W.heap[w.heap.size]? = some (.cells (intCs (xs ++ List.replicate n 0)).toArray 3 (0, 0))) ∧ Hid (Below w.heap.size w W) := by
  have B1 : Below w.heap.size w w1 := (Below.refl _ _).grown hgrow1 (Nat.le_refl _) (by simp)
  have o1 : w1.ownsRow w.heap.size 3 1 (.slice (some ⟨w.heap.size, 0, none⟩) N N) N (intCs (List.replicate N 0)) := by simpa [intCs, toList_madeCells_one, Value.cells] using hown1
  have hg := own_heap o1
  obtain ⟨W, h1, h2, h3⟩ := run_copyI w1 ty w.heap.size 0 N N g0 o0 n c0 n (List.replicate N 0) xs hg hl (by rw [hN]; exact (Nat.min_eq_left (by omega)).symm)
    (fun j hj => (B1.cell (p := ⟨g0, o0 + j, none⟩) h0).trans (q0 j hj)) (by simp; omega)
  rw [splice_first xs N (by omega), hl] at h2
  exact ⟨W, h1, Lib.hid h2, Lib.hid (B1.trans (h3 _ (Nat.le_refl _)))⟩
theorem rep2_round {n N : Nat} {xs : List Int} (hl : xs.length = n) (hN : N = 2 * n) (w : World) (ty : TypeId) (g : Nat) (hg : w.heap[g]? = some (.cells (intCs (xs ++ List.replicate n 0)).toArray 3 (0, 0))) :
    ∃ W, (Builtin.copy_ #[24, 24] ty #[.slice (some ⟨g, n, none⟩) (N - n) (N - n), .slice (some ⟨g, 0, none⟩) n N]).run Try.prog w = .ok (goInt n) W ∧
      Hid (W.heap[g]? = some (.cells (intCs (xs ++ xs)).toArray 3 (0, 0))) ∧ Hid (∀ B, B ≤ g → Below B w W) := by
  obtain ⟨W, h1, h2, h3⟩ := run_copyI w ty g n (N - n) (N - n) g 0 n N n (xs ++ List.replicate n 0) xs hg hl (by rw [show N - n = n from by omega]; exact (Nat.min_self n).symm)
    (fun j hj => by
      rw [Nat.zero_add, heap_cell hg j (by simp; omega), List.getD_eq_getElem?_getD, List.getElem?_append_left (by omega), ← List.getD_eq_getElem?_getD]) (by simp; omega)
  rw [show splice (xs ++ List.replicate n 0) n xs = xs ++ xs from by rw [← hl]; exact splice_twice xs] at h2
  exact ⟨W, h1, Lib.hid h2, Lib.hid h3⟩
/-- The row twice, in memory of the call's own. -/
def TwicePost (xs : List Int) (N : Nat) (w : World) (e : Ending) (w' : World) : Prop :=
  e = .returned (.slice (some ⟨w.heap.size, 0, none⟩) N N) ∧ w'.heap[w.heap.size]? = some (.cells (intCs (xs ++ xs)).toArray 3 (0, 0)) ∧ Below w.heap.size w w'
set_option maxRecDepth 100000 in
set_option maxHeartbeats 4000000 in
theorem repeat_2 {n N : Nat} {xs : List Int} (hn : 1 ≤ n ∧ n ≤ 12) (hl : xs.length = n) (hN : N = 2 * n) (w : World) (g0 o0 c0 : Nat) (h0 : g0 < w.heap.size) (q0 : ∀ j, j < n → w.cell? ⟨g0, o0 + j, none⟩ = some (.int .i64 (xs.getD j 0))) :
    Calls Try.prog 48 #[.slice (some ⟨g0, o0, none⟩) n c0, .int .i64 2] w (TwicePost xs N w) := by
  obtain ⟨i0, hi, hz0, hz1, hz2⟩ := info_parts infoInt
  have MU := Lib.hid (fun X => mul_2 (n := (n : Int)) (r := (N : Int)) (by omega) (by omega) X)
  have HQ := Lib.hid q0
  have HL := Lib.hid hl
  have HNN := Lib.hid hN
  have u1 : IntKind.u64.wrap (n : Int) = (n : Int) := by simp [IntKind.wrap, IntKind.bits, IntKind.signed]; omega
  have u2 : ¬ (9223372036854775807 : Int) < (N : Int) := by omega
  have u3 : IntKind.i64.wrap (N : Int) = (N : Int) := IntWalk.i64_in _ (by omega)
  have hNb : n < N ∧ N ≤ 24 := by omega
  clear q0 hl hN
  go_enter Try.func48, Try.ntmps48
  go_wp2_with fail
  refine (MU.out _).mono ?_
  rintro e w1 ⟨rfl, rfl⟩
  go_wp2_with (at_make; refine wpList_make_full _ rfl _ _ 24 rfl w.heap.size 3 i0 (.int .i64 0) 1 Try.underlying24 hi hz0 hz1 _ _ _ _ N rfl rfl rfl rfl (by rw [hz2]; omega) (by unfold maxLen; omega) (Nat.le_refl _) ?_; intro w1 hown1 hgrow1; obtain ⟨W2, hr2, HG2, HB2⟩ := rep2_start HL.out HNN.out w w1 3 g0 o0 c0 h0 HQ.out hown1 hgrow1)
  go_loopw [8] (fun i wr => ∃ (k : Nat) (L : List Int), ((k = n ∧ L = xs ++ List.replicate n 0) ∨ (k = N ∧ L = xs ++ xs)) ∧ i = .int .i64 k ∧ Hid (wr.heap[w.heap.size]? = some (.cells (intCs L).toArray 3 (0, 0))) ∧ Hid (Below w.heap.size w wr)) (fun i _ => N - (intOf i).toNat)
  case atStart => exact ⟨n, _, .inl ⟨rfl, rfl⟩, rfl, HG2, HB2⟩
  case round =>
    obtain ⟨k, L, hk, rfl, HG, HB⟩ := hrel
    clear hown1 hgrow1 hr2 HG2 HB2
    rcases hk with ⟨rfl, rfl⟩ | ⟨rfl, rfl⟩
    · have t1 : (k : Int) < N := by omega
      have t2 : (k : Int) ≤ N := by omega
      have t3 : k ≤ N := by omega
      have t4 : ¬ N = k := by omega
      obtain ⟨W3, hr3, HG3, HB3⟩ := rep2_round HL.out HNN.out wr.drew 3 w.heap.size HG.out
      go_wp2_with fail
      go_region
      go_wp2_with fail
      go_roundw
      case rel => exact ⟨N, _, .inr ⟨rfl, rfl⟩, by rw [HNN.out]; go_num, HG3, Lib.hid (HB.out.drew.trans (HB3.out _ (Nat.le_refl _)))⟩
      case measure => simp [intOf]; omega
    · have t1 : ¬ (k : Int) < k := by omega
      go_wp2_with fail
      go_ret
      exact ⟨rfl, HG.out, HB.out⟩
set_option maxRecDepth 100000 in
set_option maxHeartbeats 2000000 in
theorem equal_off (w : World) (b1 b2 : Nat) (v1 v2 : Value) (xs ys : List Int) (hx : xs.length ≤ 2000000) (hy : ys.length ≤ 2000000) (h1 : OffI w b1 v1 xs.length xs) (h2 : OffI w b2 v2 ys.length ys) :
    Calls Try.prog 34 #[v1, v2] w fun e w' => e = .returned (.bool (decide (xs = ys))) ∧ Below w.heap.size w w' := by
  obtain ⟨n, hn⟩ : ∃ n, n = xs.length := ⟨_, rfl⟩
  obtain ⟨m, hm⟩ : ∃ m, m = ys.length := ⟨_, rfl⟩
  rw [← hn] at h1 hx
  rw [← hm] at h2 hy
  have HN := Lib.hid hn
  have HM := Lib.hid hm
  clear hn hm
  by_cases hne : n = m
  · subst hne
    rcases Nat.eq_zero_or_pos n with h0 | h0
    · obtain ⟨p1, c1, rfl⟩ := off_zero h1 h0
      obtain ⟨p2, c2, rfl⟩ := off_zero h2 h0
      have R : xs = ys := by rw [List.eq_nil_of_length_eq_zero (HN.out.symm.trans h0), List.eq_nil_of_length_eq_zero (HM.out.symm.trans h0)]
      have HR := Lib.hid R
      clear h1 h2 h0 R
      go_enter Try.func34, Try.ntmps34
      go_wp2
      refine wp_loop_rounds 1 ?_
      rw [rounds_succ]
      go_wp2
      go_ret
      exact ⟨ret_bool (decide_eq_true HR.out).symm, Below.refl _ _⟩
    · obtain ⟨g1, o1, c1, rfl, _, _⟩ := off_pos h1 h0
      obtain ⟨g2, o2, c2, rfl, _, _⟩ := off_pos h2 h0
      have t0 : ((n : Int) != (n : Int)) = false := by simp
      go_enter Try.func34, Try.ntmps34
      go_wp2
      go_loopw [13] (fun i wr => ∃ k d : Nat, k ≤ n ∧ i = .int .i64 k ∧ (∀ j, j < k → xs.getD j 0 = ys.getD j 0) ∧ wr = w.drewN d) (fun i _ => n - (intOf i).toNat)
      case atStart => exact ⟨0, 0, Nat.zero_le _, rfl, fun j hj => by omega, rfl⟩
      case round =>
        obtain ⟨k, d, hk, rfl, hall, rfl⟩ := hrel
        have HA := Lib.hid hall
        clear hall
        by_cases hlt : k < n
        · have q1 := off_icell h1 k hlt
          have q2 := off_icell h2 k hlt
          have q3 : (k : Int) < n := by omega
          obtain ⟨x, hxk⟩ : ∃ x, x = xs.getD k 0 := ⟨_, rfl⟩
          obtain ⟨y, hyk⟩ : ∃ y, y = ys.getD k 0 := ⟨_, rfl⟩
          rw [← hxk] at q1
          rw [← hyk] at q2
          have HX := Lib.hid hxk
          have HY := Lib.hid hyk
          clear hxk hyk
          by_cases hxy : x = y
          · have t1 : (x != y) = false := by simp [hxy]
            have HXY := Lib.hid hxy
            clear hxy
            go_wp2_with fail
            go_quiet (fail)
            go_wp2_with fail
            go_roundw
            case rel => exact ⟨k + 1, _, by omega, by go_num, fun j hj => by rcases (show j < k ∨ j = k from by omega) with h | h; exact HA.out j h; rw [h, ← HX.out, ← HY.out]; exact HXY.out, rfl⟩
            case measure => simp [intOf]; omega
          · have t1 : (x != y) = true := by simp [hxy]
            have HXY := Lib.hid hxy
            clear hxy
            go_wp2_with fail
            go_quiet (fail)
            go_wp2_with fail
            go_ret
            exact ⟨ret_bool (decide_eq_false (fun h => HXY.out (by rw [HX.out, HY.out, h]))).symm, ⟨rfl, rfl, rfl, Nat.le_refl _, fun _ _ => rfl⟩⟩
        · have q3 : ¬ (k : Int) < n := by omega
          have hkn : k = n := by omega
          go_wp2_with fail
          go_ret
          exact ⟨ret_bool (decide_eq_true (ext_getD (HN.out.symm.trans HM.out) (fun j hj => HA.out j (by have := HN.out; omega)))).symm, ⟨rfl, rfl, rfl, Nat.le_refl _, fun _ _ => rfl⟩⟩
  · have s1 := off_slice h1
    have s2 := off_slice h2
    obtain ⟨p1, c1, rfl⟩ := s1
    obtain ⟨p2, c2, rfl⟩ := s2
    have t0 : ((n : Int) != (m : Int)) = true := by simp; omega
    have HR := Lib.hid hne
    clear h1 h2 hne
    go_enter Try.func34, Try.ntmps34
    go_wp2
    go_ret
    exact ⟨ret_bool (decide_eq_false (fun h => HR.out (by rw [HN.out, HM.out, h]))).symm, Below.refl _ _⟩
/-- The order of two numbers. -/
def ordI (x y : Int) : Int := if x < y then -1 else if y < x then 1 else 0
theorem ordI_zero (x y : Int) : (ordI x y != 0) = (x != y) := by
  unfold ordI
  by_cases h1 : x < y
  · rw [if_pos h1]; simp; omega
  · by_cases h2 : y < x
    · rw [if_neg h1, if_pos h2]; simp; omega
    · rw [if_neg h1, if_neg h2]; simp; omega
theorem ordI_pos (x y : Int) : decide (0 < ordI x y) = decide (y < x) := by
  unfold ordI
  by_cases h1 : x < y
  · rw [if_pos h1]; simp; omega
  · by_cases h2 : y < x
    · rw [if_neg h1, if_pos h2]; simp; omega
    · rw [if_neg h1, if_neg h2]; simp; omega
theorem add_noneO (g off i : Nat) : (⟨g, off, none⟩ : Addr).add i = ⟨g, off + i, none⟩ := by unfold Addr.add; split <;> simp_all
theorem intCs_oneO (xs : List Int) : ∀ u ∈ intCs xs, u.oneCell' = true := fun u hu => by
  unfold intCs at hu
  obtain ⟨x, _, rfl⟩ := List.mem_map.1 hu
  rfl
/-- The first and the last i places exchanged. -/
def revP (L : List Int) (n i : Nat) : List Int := (List.range n).map fun t => if t < i ∨ n - i ≤ t then L.getD (n - 1 - t) 0 else L.getD t 0
theorem revP_len (L : List Int) (n i : Nat) : (revP L n i).length = n := by simp [revP]
theorem revP_get (L : List Int) {n i t : Nat} (h : t < n) : (revP L n i).getD t 0 = if t < i ∨ n - i ≤ t then L.getD (n - 1 - t) 0 else L.getD t 0 := by simp [revP, h]
theorem revP_zero {L : List Int} {n : Nat} (h : L.length = n) : revP L n 0 = L := by
  refine ext_getD (by rw [revP_len, h]) fun t ht => ?_
  rw [revP_len] at ht
  rw [revP_get L ht, if_neg (by omega)]
theorem revP_step {L : List Int} {n i : Nat} (h : i + 1 < n - i) : ((revP L n i).set i (L.getD (n - 1 - i) 0)).set (n - 1 - i) (L.getD i 0) = revP L n (i + 1) := by
  refine ext_getD (by simp [revP]) fun t ht => ?_
  rw [List.length_set, List.length_set, revP_len] at ht
  rw [getD_setI (by rw [List.length_set, revP_len]; omega), getD_setI (by rw [revP_len]; omega), revP_get L ht, revP_get L ht]
  by_cases e1 : n - 1 - i = t
  · rw [if_pos e1, if_pos (by omega), show n - 1 - t = i from by omega]
  · rw [if_neg e1]
    by_cases e2 : i = t
    · rw [if_pos e2, if_pos (by omega), e2]
    · rw [if_neg e2]
      by_cases e3 : t < i ∨ n - i ≤ t
      · rw [if_pos e3, if_pos (by omega)]
      · rw [if_neg e3, if_neg (by omega)]
theorem revP_end {L : List Int} {n i : Nat} (hl : L.length = n) (h : n ≤ i + i + 1) (hi : i ≤ n) : revP L n i = revL L := by
  refine ext_getD (by rw [revP_len, revL_len, hl]) fun t ht => ?_
  rw [revP_len] at ht
  rw [revP_get L ht, revL_get (by omega), hl]
  by_cases e3 : t < i ∨ n - i ≤ t
  · rw [if_pos e3]
  · rw [if_neg e3, show n - 1 - t = t from by omega]
end Go.Proofs.Ytppbcjpabmllnaa
