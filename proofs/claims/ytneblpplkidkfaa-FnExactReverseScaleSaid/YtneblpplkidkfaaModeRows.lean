/- Contracts of slices.Repeat (twice), Equal, Compare, Clone and Reverse at rows of ints. -/
import Derived.Test.YtneblpplkidkfaaOffRows
import Derived.Test.YtneblpplkidkfaaModeFacts2
import Derived.Test.YtneblpplkidkfaaSortInts
import Derived.Deep.QuietTactic
import Derived.BigQuiet
import Derived.Deep.RegionWith
namespace Go.Proofs.Ytneblpplkidkfaa
open Go.RowKit Go.Joins
set_option linter.unusedVariables false
set_option maxHeartbeats 4000000 in
theorem mul64_2 {n r : Int} (hn : 1 ≤ n ∧ n ≤ 12) (hr : r = 2 * n) (w : World) : Calls Try.prog 62 #[.int .u64 n, .int .u64 2] w fun e w' => e = .returned (.tuple #[.int .u64 0, .int .u64 r]) ∧ w = w' := by
  rcases (show n = 1 ∨ n = 2 ∨ n = 3 ∨ n = 4 ∨ n = 5 ∨ n = 6 ∨ n = 7 ∨ n = 8 ∨ n = 9 ∨ n = 10 ∨ n = 11 ∨ n = 12 from by omega) with rfl | rfl | rfl | rfl | rfl | rfl | rfl | rfl | rfl | rfl | rfl | rfl
  all_goals
    subst hr
    clear hn
    go_enter Try.func62, Try.ntmps62
    go_wp2
    go_ret2
    exact ⟨by trivial, rfl⟩
theorem mul_2 {n r : Int} (hn : 1 ≤ n ∧ n ≤ 12) (hr : r = 2 * n) (w : World) : Calls Try.prog 54 #[.int .u64 n, .int .u64 2] w fun e w' => e = .returned (.tuple #[.int .u64 0, .int .u64 r]) ∧ w = w' := by
  have M := Lib.hid (fun X => mul64_2 hn hr X)
  clear hn hr
  go_enter Try.func54, Try.ntmps54
  go_wp2_with fail
  refine (M.out _).mono ?_
  rintro e w1 ⟨rfl, rfl⟩
  go_wp2_with fail
  go_ret2
  exact ⟨by trivial, rfl⟩
theorem splice_first (xs : List Int) (N : Nat) (hN : N = 2 * xs.length) : splice (List.replicate N 0) 0 xs = xs ++ List.replicate xs.length 0 := by
  subst hN
  simp [splice]
  omega
theorem splice_twice (xs : List Int) : splice (xs ++ List.replicate xs.length 0) xs.length xs = xs ++ xs := by
  simp [splice]
theorem twice_get {xs : List Int} {j : Nat} (h : j < 2 * xs.length) : (xs ++ xs).getD j 0 = xs.getD (j % xs.length) 0 := by
  rcases Nat.lt_or_ge j xs.length with q | q
  · rw [Nat.mod_eq_of_lt q, List.getD_eq_getElem?_getD, List.getElem?_append_left q, ← List.getD_eq_getElem?_getD]
  · obtain ⟨i, rfl⟩ : ∃ i, j = xs.length + i := ⟨j - xs.length, by omega⟩
    rw [Nat.add_mod_left, Nat.mod_eq_of_lt (by omega), List.getD_eq_getElem?_getD, List.getElem?_append_right (by omega), ← List.getD_eq_getElem?_getD, Nat.add_sub_cancel_left]
theorem rep2_start {n N : Nat} {xs : List Int} (hl : xs.length = n) (hN : N = 2 * n) (w w1 : World) (ty : TypeId) (g0 o0 c0 : Nat) (h0 : g0 < w.heap.size) (q0 : ∀ j, j < n → w.cell? ⟨g0, o0 + j, none⟩ = some (.int .i64 (xs.getD j 0))) (hown1 : w1.ownsRow w.heap.size 3 1 (.slice (some ⟨w.heap.size, 0, none⟩) N N) N (madeCells (Value.int .i64 0).cells (N * 1)).toList) (hgrow1 : w.grownBy w1 none) :
    ∃ W, (Builtin.copy_ #[24, 24] ty #[.slice (some ⟨w.heap.size, 0, none⟩) N N, .slice (some ⟨g0, o0, none⟩) n c0]).run Try.prog w1 = .ok (goInt n) W ∧
      Hid (W.heap[w.heap.size]? = some (.cells (intCs (xs ++ List.replicate n 0)).toArray 3 (0, 0))) ∧ Hid (Below w.heap.size w W) := by
  have B1 : Below w.heap.size w w1 := (Below.refl _ _).grown hgrow1 (Nat.le_refl _) (by simp)
  have o1 : w1.ownsRow w.heap.size 3 1 (.slice (some ⟨w.heap.size, 0, none⟩) N N) N (intCs (List.replicate N 0)) := by simpa [intCs, toList_madeCells_one, Value.cells] using hown1
  have hg := own_heap o1
  obtain ⟨W, h1, h2, h3⟩ := run_copyI w1 ty w.heap.size 0 N N g0 o0 n c0 n (List.replicate N 0) xs hg hl (by rw [hN]; exact (Nat.min_eq_left (by omega)).symm)
    (fun j hj => (B1.cell (p := ⟨g0, o0 + j, none⟩) h0).trans (q0 j hj)) (by simp; omega)
  rw [splice_first xs N (by omega), hl] at h2
  exact ⟨W, h1, Lib.hid h2, Lib.hid (B1.trans (h3 _ (Nat.le_refl _)))⟩
theorem rep2_round {n N : Nat} {xs : List Int} (hl : xs.length = n) (hN : N = 2 * n) (w : World) (ty : TypeId) (g : Nat) (hg : w.heap[g]? = some (.cells (intCs (xs ++ List.replicate n 0)).toArray 3 (0, 0))) :
    ∃ W, (Builtin.copy_ #[24, 24] ty #[.slice (some ⟨g, n, none⟩) (N - n) (N - n), .slice (some ⟨g, 0, none⟩) n N]).run Try.prog w = .ok (goInt n) W ∧
      Hid (W.heap[g]? = some (.cells (intCs (xs ++ xs)).toArray 3 (0, 0))) ∧ Hid (∀ B, B ≤ g → Below B w W) := by
  obtain ⟨W, h1, h2, h3⟩ := run_copyI w ty g n (N - n) (N - n) g 0 n N n (xs ++ List.replicate n 0) xs hg hl (by rw [show N - n = n from by omega]; exact (Nat.min_self n).symm)
    (fun j hj => by
      rw [Nat.zero_add, heap_cell hg j (by simp; omega), List.getD_eq_getElem?_getD, List.getElem?_append_left (by omega), ← List.getD_eq_getElem?_getD]) (by simp; omega)
  rw [show splice (xs ++ List.replicate n 0) n xs = xs ++ xs from by rw [← hl]; exact splice_twice xs] at h2
  exact ⟨W, h1, Lib.hid h2, Lib.hid h3⟩
/-- The row twice, in memory of the call's own. -/
def TwicePost (xs : List Int) (N : Nat) (w : World) (e : Ending) (w' : World) : Prop :=
  e = .returned (.slice (some ⟨w.heap.size, 0, none⟩) N N) ∧ w'.heap[w.heap.size]? = some (.cells (intCs (xs ++ xs)).toArray 3 (0, 0)) ∧ Below w.heap.size w w'
set_option maxRecDepth 100000 in
set_option maxHeartbeats 4000000 in
theorem repeat_2 {n N : Nat} {xs : List Int} (hn : 1 ≤ n ∧ n ≤ 12) (hl : xs.length = n) (hN : N = 2 * n) (w : World) (g0 o0 c0 : Nat) (h0 : g0 < w.heap.size) (q0 : ∀ j, j < n → w.cell? ⟨g0, o0 + j, none⟩ = some (.int .i64 (xs.getD j 0))) :
    Calls Try.prog 33 #[.slice (some ⟨g0, o0, none⟩) n c0, .int .i64 2] w (TwicePost xs N w) := by
  obtain ⟨i0, hi, hz0, hz1, hz2⟩ := info_parts infoInt
  have MU := Lib.hid (fun X => mul_2 (n := (n : Int)) (r := (N : Int)) (by omega) (by omega) X)
  have HQ := Lib.hid q0
  have HL := Lib.hid hl
  have HNN := Lib.hid hN
  have u1 : IntKind.u64.wrap (n : Int) = (n : Int) := by simp [IntKind.wrap, IntKind.bits, IntKind.signed]; omega
  have u2 : ¬ (9223372036854775807 : Int) < (N : Int) := by omega
  have u3 : IntKind.i64.wrap (N : Int) = (N : Int) := IntWalk.i64_in _ (by omega)
  have hNb : n < N ∧ N ≤ 24 := by omega
  clear q0 hl hN
  go_enter Try.func33, Try.ntmps33
  go_wp2_with fail
  refine (MU.out _).mono ?_
  rintro e w1 ⟨rfl, rfl⟩
  go_wp2_with (at_make; refine wpList_make_full _ rfl _ _ 24 rfl w.heap.size 3 i0 (.int .i64 0) 1 Try.underlying24 hi hz0 hz1 _ _ _ _ N rfl rfl rfl rfl (by rw [hz2]; omega) (by unfold maxLen; omega) (Nat.le_refl _) ?_; intro w1 hown1 hgrow1; obtain ⟨W2, hr2, HG2, HB2⟩ := rep2_start HL.out HNN.out w w1 3 g0 o0 c0 h0 HQ.out hown1 hgrow1)
  go_loopw [8] (fun i wr => ∃ (k : Nat) (L : List Int), ((k = n ∧ L = xs ++ List.replicate n 0) ∨ (k = N ∧ L = xs ++ xs)) ∧ i = .int .i64 k ∧ Hid (wr.heap[w.heap.size]? = some (.cells (intCs L).toArray 3 (0, 0))) ∧ Hid (Below w.heap.size w wr)) (fun i _ => N - (intOf i).toNat)
  case atStart => exact ⟨n, _, .inl ⟨rfl, rfl⟩, rfl, HG2, HB2⟩
  case round =>
    obtain ⟨k, L, hk, rfl, HG, HB⟩ := hrel
    clear hown1 hgrow1 hr2 HG2 HB2
    rcases hk with ⟨rfl, rfl⟩ | ⟨rfl, rfl⟩
    · have t1 : (k : Int) < N := by omega
      have t2 : (k : Int) ≤ N := by omega
      have t3 : k ≤ N := by omega
      have t4 : ¬ N = k := by omega
      obtain ⟨W3, hr3, HG3, HB3⟩ := rep2_round HL.out HNN.out wr.drew 3 w.heap.size HG.out
      go_wp2_with fail
      go_region
      go_wp2_with fail
      go_roundw
      case rel => exact ⟨N, _, .inr ⟨rfl, rfl⟩, by rw [HNN.out]; go_num, HG3, Lib.hid (HB.out.drew.trans (HB3.out _ (Nat.le_refl _)))⟩
      case measure => simp [intOf]; omega
    · have t1 : ¬ (k : Int) < k := by omega
      go_wp2_with fail
      go_ret
      exact ⟨rfl, HG.out, HB.out⟩
set_option maxRecDepth 100000 in
set_option maxHeartbeats 2000000 in
theorem equal_off (w : World) (b1 b2 : Nat) (v1 v2 : Value) (xs ys : List Int) (hx : xs.length ≤ 2000000) (hy : ys.length ≤ 2000000) (h1 : OffI w b1 v1 xs.length xs) (h2 : OffI w b2 v2 ys.length ys) :
    Calls Try.prog 35 #[v1, v2] w fun e w' => e = .returned (.bool (decide (xs = ys))) ∧ Below w.heap.size w w' := by
  obtain ⟨n, hn⟩ : ∃ n, n = xs.length := ⟨_, rfl⟩
  obtain ⟨m, hm⟩ : ∃ m, m = ys.length := ⟨_, rfl⟩
  rw [← hn] at h1 hx
  rw [← hm] at h2 hy
  have HN := Lib.hid hn
  have HM := Lib.hid hm
  clear hn hm
  by_cases hne : n = m
  · subst hne
    rcases Nat.eq_zero_or_pos n with h0 | h0
    · obtain ⟨p1, c1, rfl⟩ := off_zero h1 h0
      obtain ⟨p2, c2, rfl⟩ := off_zero h2 h0
      have R : xs = ys := by rw [List.eq_nil_of_length_eq_zero (HN.out.symm.trans h0), List.eq_nil_of_length_eq_zero (HM.out.symm.trans h0)]
      have HR := Lib.hid R
      clear h1 h2 h0 R
      go_enter Try.func35, Try.ntmps35
      go_wp2
      refine wp_loop_rounds 1 ?_
      rw [rounds_succ]
      go_wp2
      go_ret
      exact ⟨ret_bool (decide_eq_true HR.out).symm, Below.refl _ _⟩
    · obtain ⟨g1, o1, c1, rfl, _, _⟩ := off_pos h1 h0
      obtain ⟨g2, o2, c2, rfl, _, _⟩ := off_pos h2 h0
      have t0 : ((n : Int) != (n : Int)) = false := by simp
      go_enter Try.func35, Try.ntmps35
      go_wp2
      go_loopw [13] (fun i wr => ∃ k d : Nat, k ≤ n ∧ i = .int .i64 k ∧ (∀ j, j < k → xs.getD j 0 = ys.getD j 0) ∧ wr = w.drewN d) (fun i _ => n - (intOf i).toNat)
      case atStart => exact ⟨0, 0, Nat.zero_le _, rfl, fun j hj => by omega, rfl⟩
      case round =>
        obtain ⟨k, d, hk, rfl, hall, rfl⟩ := hrel
        have HA := Lib.hid hall
        clear hall
        by_cases hlt : k < n
        · have q1 := off_icell h1 k hlt
          have q2 := off_icell h2 k hlt
          have q3 : (k : Int) < n := by omega
          obtain ⟨x, hxk⟩ : ∃ x, x = xs.getD k 0 := ⟨_, rfl⟩
          obtain ⟨y, hyk⟩ : ∃ y, y = ys.getD k 0 := ⟨_, rfl⟩
          rw [← hxk] at q1
          rw [← hyk] at q2
          have HX := Lib.hid hxk
          have HY := Lib.hid hyk
          clear hxk hyk
          by_cases hxy : x = y
          · have t1 : (x != y) = false := by simp [hxy]
            have HXY := Lib.hid hxy
            clear hxy
            go_wp2_with fail
            go_quiet (fail)
            go_wp2_with fail
            go_roundw
            case rel => exact ⟨k + 1, _, by omega, by go_num, fun j hj => by rcases (show j < k ∨ j = k from by omega) with h | h; exact HA.out j h; rw [h, ← HX.out, ← HY.out]; exact HXY.out, rfl⟩
            case measure => simp [intOf]; omega
          · have t1 : (x != y) = true := by simp [hxy]
            have HXY := Lib.hid hxy
            clear hxy
            go_wp2_with fail
            go_quiet (fail)
            go_wp2_with fail
            go_ret
            exact ⟨ret_bool (decide_eq_false (fun h => HXY.out (by rw [HX.out, HY.out, h]))).symm, ⟨rfl, rfl, rfl, Nat.le_refl _, fun _ _ => rfl⟩⟩
        · have q3 : ¬ (k : Int) < n := by omega
          have hkn : k = n := by omega
          go_wp2_with fail
          go_ret
          exact ⟨ret_bool (decide_eq_true (ext_getD (HN.out.symm.trans HM.out) (fun j hj => HA.out j (by have := HN.out; omega)))).symm, ⟨rfl, rfl, rfl, Nat.le_refl _, fun _ _ => rfl⟩⟩
  · have s1 := off_slice h1
    have s2 := off_slice h2
    obtain ⟨p1, c1, rfl⟩ := s1
    obtain ⟨p2, c2, rfl⟩ := s2
    have t0 : ((n : Int) != (m : Int)) = true := by simp; omega
    have HR := Lib.hid hne
    clear h1 h2 hne
    go_enter Try.func35, Try.ntmps35
    go_wp2
    go_ret
    exact ⟨ret_bool (decide_eq_false (fun h => HR.out (by rw [HN.out, HM.out, h]))).symm, Below.refl _ _⟩
/-- The order of two numbers. -/
def ordI (x y : Int) : Int := if x < y then -1 else if y < x then 1 else 0
theorem ordI_zero (x y : Int) : (ordI x y != 0) = (x != y) := by
  unfold ordI
  by_cases h1 : x < y
  · rw [if_pos h1]; simp; omega
  · by_cases h2 : y < x
    · rw [if_neg h1, if_pos h2]; simp; omega
    · rw [if_neg h1, if_neg h2]; simp; omega
theorem ordI_pos (x y : Int) : decide (0 < ordI x y) = decide (y < x) := by
  unfold ordI
  by_cases h1 : x < y
  · rw [if_pos h1]; simp; omega
  · by_cases h2 : y < x
    · rw [if_neg h1, if_pos h2]; simp; omega
    · rw [if_neg h1, if_neg h2]; simp; omega
theorem ord_run (x y : Int) (w : World) : Calls Try.prog 55 #[.int .i64 x, .int .i64 y] w fun e w' => e = .returned (.int .i64 (ordI x y)) ∧ w = w' := by
  have NA := Lib.hid (fun x X => nanI x X)
  by_cases h1 : x < y
  · have R : Hid (ordI x y = -1) := Lib.hid (if_pos h1)
    go_enter Try.func55, Try.ntmps55
    go_wp2_with fail
    refine (NA.out _ _).mono ?_
    rintro e1 w1 ⟨rfl, rfl⟩
    go_wp2_with fail
    refine (NA.out _ _).mono ?_
    rintro e1 w1 ⟨rfl, rfl⟩
    go_wp2_with fail
    go_ret
    exact ⟨ret_int R.out.symm, rfl⟩
  · by_cases h2 : y < x
    · have R : Hid (ordI x y = 1) := Lib.hid (by unfold ordI; rw [if_neg h1, if_pos h2])
      go_enter Try.func55, Try.ntmps55
      go_wp2_with fail
      refine (NA.out _ _).mono ?_
      rintro e1 w1 ⟨rfl, rfl⟩
      go_wp2_with fail
      refine (NA.out _ _).mono ?_
      rintro e1 w1 ⟨rfl, rfl⟩
      go_wp2_with fail
      go_ret
      exact ⟨ret_int R.out.symm, rfl⟩
    · have R : Hid (ordI x y = 0) := Lib.hid (by unfold ordI; rw [if_neg h1, if_neg h2])
      go_enter Try.func55, Try.ntmps55
      go_wp2_with fail
      refine (NA.out _ _).mono ?_
      rintro e1 w1 ⟨rfl, rfl⟩
      go_wp2_with fail
      refine (NA.out _ _).mono ?_
      rintro e1 w1 ⟨rfl, rfl⟩
      go_wp2_with fail
      go_ret
      exact ⟨ret_int R.out.symm, rfl⟩
set_option maxRecDepth 100000 in
set_option maxHeartbeats 2000000 in
theorem compare_off (w : World) (b1 b2 : Nat) (v1 v2 : Value) (xs ys : List Int) (hx : xs.length ≤ 2000000) (hy : xs.length = ys.length) (h1 : OffI w b1 v1 xs.length xs) (h2 : OffI w b2 v2 ys.length ys) :
    Calls Try.prog 34 #[v1, v2] w fun e w' => (∃ c : Int, e = .returned (.int .i64 c) ∧ decide (0 < c) = gtL xs ys) ∧ Below w.heap.size w w' := by
  have OR := Lib.hid (fun x y X => ord_run x y X)
  obtain ⟨n, hn⟩ : ∃ n, n = xs.length := ⟨_, rfl⟩
  rw [← hn] at h1 hx hy
  rw [← hy] at h2
  have HN := Lib.hid hn
  have HM := Lib.hid hy
  clear hn hy
  rcases Nat.eq_zero_or_pos n with h0 | h0
  · obtain ⟨p1, c1, rfl⟩ := off_zero h1 h0
    obtain ⟨p2, c2, rfl⟩ := off_zero h2 h0
    have R : gtL xs ys = false := gt_end (HN.out.symm.trans HM.out) (fun j hj => by have := HN.out; omega)
    have HR := Lib.hid R
    clear h1 h2 R
    subst h0
    go_enter Try.func34, Try.ntmps34
    go_wp2_with fail
    refine wp_loop_rounds 1 ?_
    rw [rounds_succ]
    go_wp2_with fail
    go_ret
    exact ⟨⟨0, rfl, by rw [HR.out]; rfl⟩, Below.refl _ _⟩
  · obtain ⟨g1, o1, c1, rfl, _, _⟩ := off_pos h1 h0
    obtain ⟨g2, o2, c2, rfl, _, _⟩ := off_pos h2 h0
    go_enter Try.func34, Try.ntmps34
    go_wp2_with fail
    go_loopw [11] (fun i wr => ∃ k : Nat, k ≤ n ∧ i = .int .i64 k ∧ Hid (∀ j, j < k → xs.getD j 0 = ys.getD j 0) ∧ wr = w) (fun i _ => n - (intOf i).toNat)
    case atStart => exact ⟨0, Nat.zero_le _, rfl, Lib.hid (fun j hj => by omega), rfl⟩
    case round =>
      obtain ⟨k, hk, rfl, HA, rfl⟩ := hrel
      by_cases hlt : k < n
      · have q1 := off_icell h1 k hlt
        have q2 := off_icell h2 k hlt
        have q3 : (k : Int) < n := by omega
        have q4 : ¬ (n : Int) ≤ (k : Int) := by omega
        obtain ⟨x, hxk⟩ : ∃ x, x = xs.getD k 0 := ⟨_, rfl⟩
        obtain ⟨y, hyk⟩ : ∃ y, y = ys.getD k 0 := ⟨_, rfl⟩
        rw [← hxk] at q1
        rw [← hyk] at q2
        have HX := Lib.hid hxk
        have HY := Lib.hid hyk
        clear hxk hyk
        obtain ⟨c, hc⟩ : ∃ c, ordI x y = c := ⟨_, rfl⟩
        have hz := ordI_zero x y
        have hp := ordI_pos x y
        have OC := Lib.hid (OR.out x y)
        rw [hc] at hz hp OC
        have HP := Lib.hid hp
        clear hc hp
        by_cases hxy : x = y
        · have t1 : (c != 0) = false := by rw [hz]; simp [hxy]
          have HXY := Lib.hid hxy
          clear hxy hz
          go_wp2_with fail
          refine (OC.out _).mono ?_
          rintro e1 w1 ⟨rfl, rfl⟩
          go_wp2_with fail
          go_roundw
          case rel => exact ⟨k + 1, by omega, by go_num, Lib.hid (fun j hj => by rcases (show j < k ∨ j = k from by omega) with h | h; exact HA.out j h; rw [h, ← HX.out, ← HY.out]; exact HXY.out), by trivial⟩
          case measure => simp [intOf]; omega
        · have t1 : (c != 0) = true := by rw [hz]; simp [hxy]
          have HR := Lib.hid (show gtL xs ys = decide (y < x) from by
            rw [gt_at (k := k) (by rw [← HN.out]; exact hlt) (HN.out.symm.trans HM.out) HA.out (by rw [← HX.out, ← HY.out]; exact hxy), ← HX.out, ← HY.out])
          clear hxy hz
          go_wp2_with fail
          refine (OC.out _).mono ?_
          rintro e1 w1 ⟨rfl, rfl⟩
          go_wp2_with fail
          go_ret
          exact ⟨⟨c, rfl, HP.out.trans HR.out.symm⟩, Below.refl _ _⟩
      · have q3 : ¬ (k : Int) < n := by omega
        obtain rfl : k = n := by omega
        have q4 : ¬ (k : Int) < (k : Int) := by omega
        have HR := Lib.hid (show gtL xs ys = false from gt_end (HN.out.symm.trans HM.out) (fun j hj => HA.out j (by rw [HN.out]; exact hj)))
        go_wp2_with fail
        go_ret
        exact ⟨⟨0, rfl, by rw [HR.out]; rfl⟩, Below.refl _ _⟩
theorem add_noneO (g off i : Nat) : (⟨g, off, none⟩ : Addr).add i = ⟨g, off + i, none⟩ := by unfold Addr.add; split <;> simp_all
theorem intCs_oneO (xs : List Int) : ∀ u ∈ intCs xs, u.oneCell' = true := fun u hu => by
  unfold intCs at hu
  obtain ⟨x, _, rfl⟩ := List.mem_map.1 hu
  rfl
set_option maxRecDepth 100000 in
set_option maxHeartbeats 2000000 in
theorem clone_off {g o n cap : Nat} {xs : List Int} (hn0 : 0 < n) (hn : n ≤ 1000000) (hl : xs.length = n) (w : World) (hg : g < w.heap.size) (hcl : ∀ j, j < n → w.cell? ⟨g, o + j, none⟩ = some (.int .i64 (xs.getD j 0))) :
    Calls Try.prog 37 #[.slice (some ⟨g, o, none⟩) n cap] w fun e w' => ∃ g' cap', e = .returned (.slice (some ⟨g', 0, none⟩) n cap') ∧ IntR w.heap.size g' cap' n w xs w' := by
  obtain ⟨i0, hi, hz0, hz1, hz2⟩ := info_parts infoInt
  have HG := Lib.hid hg
  have HC := Lib.hid (fun j u (hj : (intCs xs)[j]? = some u) => show w.cell? ⟨g, o + j, none⟩ = some u from by
    have hjn : j < n := by
      rcases Nat.lt_or_ge j n with q | q
      · exact q
      · rw [List.getElem?_eq_none (by rw [intCs_len]; omega)] at hj
        cases hj
    rw [hcl j hjn, ← intCs_get xs j (by omega), hj])
  have HX := Lib.hid hl
  clear hcl hg hl
  go_enter Try.func37, Try.ntmps37
  have hne : ∀ W : World, (binOp .eql 24 (.slice (some ⟨g, o, none⟩) n cap) (.slice none 0 0)).run Try.prog W = .ok (.bool false) W := fun W => by kernel_rfl
  have OL := Lib.hid (World.ownsRow_lit (base := w.heap.size) (e := 3) (size := 1) w #[] 0 (Nat.le_refl _) (by unfold maxLen; omega) rfl)
  have HC2 := Lib.hid (fun j u (hj : (intCs xs)[j]? = some u) => ((Below.refl _ w).alloc (Nat.le_refl _) (.cells #[] 3)).cell (p := ⟨g, o + j, none⟩) HG.out |>.trans (HC.out j u hj))
  go_wp2_with (at_builtin; refine wpList_append_lies _ rfl (.tmp 5) (.tmp 6) 24 rfl w.heap.size 3 i0 (.int .i64 0) 1 8 Try.underlying24 hi hz0 hz1 hz2 rfl (by decide) _ 0 _ rfl OL.out ⟨g, o, none⟩ n cap (intCs xs) rfl (by have h1 := intCs_len xs; have h2 := HX.out; omega) (fun j u hu => by rw [add_noneO]; exact HC2.out j u hu) (intCs_oneO xs) hn0 (by unfold maxLen; omega) (by omega) (by simp) _ rfl ?_; intro g1 cap1 w1 hown' hgrow hat hgt)
  go_ret
  refine ⟨g1, cap1, rfl, HX.out, ?_, ((Below.refl _ w).alloc (Nat.le_refl _) _).grown hgrow (by simp) (fun j hj => by cases hj; exact Nat.le_refl _), ?_⟩
  · have := hown'
    rw [Nat.zero_add] at this
    exact this
  · have h1 := hown'
    rw [Nat.zero_add] at h1
    obtain ⟨g2, cap2, e1, e2, _⟩ := own_pos h1 hn0
    simp only [Value.slice.injEq, Option.some.injEq, Addr.mk.injEq, and_true, true_and] at e1
    obtain ⟨rfl, _⟩ := e1
    exact ⟨e2, Nat.le_refl _⟩
/-- The first and the last i places exchanged. -/
def revP (L : List Int) (n i : Nat) : List Int := (List.range n).map fun t => if t < i ∨ n - i ≤ t then L.getD (n - 1 - t) 0 else L.getD t 0
theorem revP_len (L : List Int) (n i : Nat) : (revP L n i).length = n := by simp [revP]
theorem revP_get (L : List Int) {n i t : Nat} (h : t < n) : (revP L n i).getD t 0 = if t < i ∨ n - i ≤ t then L.getD (n - 1 - t) 0 else L.getD t 0 := by simp [revP, h]
theorem revP_zero {L : List Int} {n : Nat} (h : L.length = n) : revP L n 0 = L := by
  refine ext_getD (by rw [revP_len, h]) fun t ht => ?_
  rw [revP_len] at ht
  rw [revP_get L ht, if_neg (by omega)]
theorem revP_step {L : List Int} {n i : Nat} (h : i + 1 < n - i) : ((revP L n i).set i (L.getD (n - 1 - i) 0)).set (n - 1 - i) (L.getD i 0) = revP L n (i + 1) := by
  refine ext_getD (by simp [revP]) fun t ht => ?_
  rw [List.length_set, List.length_set, revP_len] at ht
  rw [getD_setI (by rw [List.length_set, revP_len]; omega), getD_setI (by rw [revP_len]; omega), revP_get L ht, revP_get L ht]
  by_cases e1 : n - 1 - i = t
  · rw [if_pos e1, if_pos (by omega), show n - 1 - t = i from by omega]
  · rw [if_neg e1]
    by_cases e2 : i = t
    · rw [if_pos e2, if_pos (by omega), e2]
    · rw [if_neg e2]
      by_cases e3 : t < i ∨ n - i ≤ t
      · rw [if_pos e3, if_pos (by omega)]
      · rw [if_neg e3, if_neg (by omega)]
theorem revP_end {L : List Int} {n i : Nat} (hl : L.length = n) (h : n ≤ i + i + 1) (hi : i ≤ n) : revP L n i = revL L := by
  refine ext_getD (by rw [revP_len, revL_len, hl]) fun t ht => ?_
  rw [revP_len] at ht
  rw [revP_get L ht, revL_get (by omega), hl]
  by_cases e3 : t < i ∨ n - i ≤ t
  · rw [if_pos e3]
  · rw [if_neg e3, show n - 1 - t = t from by omega]
set_option maxRecDepth 100000 in
set_option maxHeartbeats 4000000 in
theorem reverse_run {B g cap n : Nat} {w0 : World} {L : List Int} (hn : 1 ≤ n ∧ n ≤ 1000000) (W : World) (h : IntR B g cap n w0 L W) :
    Calls Try.prog 38 #[.slice (some ⟨g, 0, none⟩) n cap] W fun e w' => e = .returned (.tuple #[]) ∧ IntR B g cap n w0 (revL L) w' := by
  have HS : Hid (IntR B g cap n w0 (revP L n 0) W) := Lib.hid (by rw [revP_zero h.len]; exact h)
  have HLN := Lib.hid h.len
  clear h
  have q0 : IntKind.i64.wrap ((n : Int) - 1) = (n : Int) - 1 := IntWalk.i64_in _ (by omega)
  go_enter Try.func38, Try.ntmps38
  go_wp2_with fail
  go_loopw [2, 3] (fun x y wr => ∃ i j : Nat, x = .int .i64 (i : Int) ∧ y = .int .i64 (j : Int) ∧ (i + j + 1 = n ∧ i ≤ j + 1) ∧ Hid (IntR B g cap n w0 (revP L n i) wr)) (fun x _ _ => n - (intOf x).toNat)
  case atStart => exact ⟨0, n - 1, by go_num, by congr 1; omega, by omega, HS⟩
  case round =>
    clear HS q0
    obtain ⟨i, j, rfl, rfl, hij, HI⟩ := hrel
    by_cases hlt : i < j
    · have k1 : (i : Int) < (j : Int) := by omega
      have k2 : (i : Int) < n := by omega
      have k3 : (j : Int) < n := by omega
      have I0 := Lib.hid HI.out
      have c1 := I0.out.cell (i := i) (by omega)
      have c2 := I0.out.cell (i := j) (by omega)
      have c3 := I0.out.drew.cell (i := i) (by omega)
      have c4 := I0.out.drew.cell (i := j) (by omega)
      have f1 := I0.out.free i
      have f2 := I0.out.free j
      have E1 : (revP L n i).getD i 0 = L.getD i 0 := by rw [revP_get L (by omega), if_neg (by omega)]
      have E2 : (revP L n i).getD j 0 = L.getD (n - 1 - i) 0 := by rw [revP_get L (by omega), if_neg (by omega), show j = n - 1 - i from by omega]
      rw [E1] at c1 c3
      rw [E2] at c2 c4
      obtain ⟨x, hx⟩ : ∃ x, x = L.getD i 0 := ⟨_, rfl⟩
      obtain ⟨y, hy⟩ : ∃ y, y = L.getD (n - 1 - i) 0 := ⟨_, rfl⟩
      rw [← hx] at c1 c3
      rw [← hy] at c2 c4
      have I2 : Hid (IntR B g cap n w0 (revP L n (i + 1)) ((wr.setCell ⟨g, i, none⟩ (.int .i64 y)).setCell ⟨g, j, none⟩ (.int .i64 x)).drew) := Lib.hid (by
        have k := ((I0.out.put i y).put j x).drew
        rw [hx, hy, show j = n - 1 - i from by omega, revP_step (by omega)] at k
        rw [hx, hy, show j = n - 1 - i from by omega]
        exact k)
      have d1 : ¬ i = j := by omega
      have d2 : ¬ j = i := by omega
      have HIJ := Lib.hid hij
      clear E1 E2 hx hy HI I0
      go_wp2_with fail
      go_region
      go_wp2_with fail
      go_roundw
      case rel => exact ⟨i + 1, j - 1, by go_num, by congr 1; omega, by have := HIJ.out; omega, I2⟩
      case measure => simp [intOf]; omega
    · have k1 : ¬ (i : Int) < (j : Int) := by omega
      have R : Hid (IntR B g cap n w0 (revL L) wr) := Lib.hid (by have := HI.out; rw [revP_end HLN.out (by omega) (by omega)] at this; exact this)
      go_wp2_with fail
      go_end0
      exact ⟨rfl, R.out⟩
end Go.Proofs.Ytneblpplkidkfaa
