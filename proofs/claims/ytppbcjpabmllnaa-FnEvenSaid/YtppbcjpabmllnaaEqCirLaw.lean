/- Contracts of slices.Repeat at one 1 twelve times, impl.EqualCircle and spec.EqualCircle. -/
import Derived.Test.YtppbcjpabmllnaaCirOk
import Derived.Test.YtppbcjpabmllnaaCirOkLaw
import Derived.Laws.CopyOwn
import Derived.Deep.RegionLaw
import Derived.Deep.DeepCutAuto
namespace Go.Proofs.Ytppbcjpabmllnaa
open Go.RowKit Go.Joins
set_option linter.unusedVariables false
theorem own_heap {w : World} {B : Nat} {e : TypeId} {g n : Nat} {xs : List Int} (h : w.ownsRow B e 1 (.slice (some ⟨g, 0, none⟩) n n) n (intCs xs)) : w.heap[g]? = some (.cells (intCs xs).toArray e (0, 0)) := by
  obtain ⟨hl, h | ⟨g', cap, cur, hv, hb, hg, h1, h2, h3, h4⟩⟩ := h
  · exact absurd h.1 (by simp)
  · simp only [Value.slice.injEq, Option.some.injEq, Addr.mk.injEq] at hv
    obtain ⟨⟨rfl, _⟩, _, rfl⟩ := hv
    rw [hg, ← h4, List.take_of_length_le (by simp [h3])]
theorem own_of_heap {w : World} {B : Nat} {e : TypeId} {g n : Nat} {xs : List Int} (hg : w.heap[g]? = some (.cells (intCs xs).toArray e (0, 0))) (hB : B ≤ g) (hn : xs.length = n) (hm : n ≤ maxLen) : w.ownsRow B e 1 (.slice (some ⟨g, 0, none⟩) n n) n (intCs xs) :=
  ⟨by rw [intCs_len]; omega, .inr ⟨g, n, _, rfl, hB, hg, Nat.le_refl _, hm, by simp [intCs_len, hn], by show List.take (n * 1) (intCs xs) = intCs xs; rw [List.take_of_length_le (by rw [intCs_len]; omega)]⟩⟩
/-- The equal circle's parts. -/
def onesL : List Int := [1, 1, 1, 1, 1, 1, 1, 1, 1, 1, 1, 1]
/-- k ones, the rest is 0. -/
def repOf (k : Nat) : List Int := List.replicate k 1 ++ List.replicate (12 - k) 0
set_option maxHeartbeats 1000000 in
theorem mul64_12 (w : World) : Calls Try.prog 60 #[.int .u64 1, .int .u64 12] w fun e w' => e = .returned (.tuple #[.int .u64 0, .int .u64 12]) ∧ w = w' := by
  go_enter Try.func60, Try.ntmps60
  go_wp2
  go_ret2
  exact ⟨by trivial, rfl⟩
set_option maxHeartbeats 1000000 in
theorem mul_12 (w : World) : Calls Try.prog 55 #[.int .u64 1, .int .u64 12] w fun e w' => e = .returned (.tuple #[.int .u64 0, .int .u64 12]) ∧ w = w' := by
  go_enter Try.func55, Try.ntmps55
  go_wp2_with fail
  refine (mul64_12 _).mono ?_
  rintro e w1 ⟨rfl, rfl⟩
  go_wp2_with fail
  go_ret2
  exact ⟨by trivial, rfl⟩
theorem intCs_splice (cur cs : List Int) (off : Nat) : splice (intCs cur) off (intCs cs) = intCs (splice cur off cs) := by simp [splice, intCs]
/-- copy onto a row that is known whole. -/
theorem run_copyI (w : World) (ty : TypeId) (g off dLen dCap sg so sLen sCap n : Nat) (cur cs : List Int) (hg : w.heap[g]? = some (.cells (intCs cur).toArray 3 (0, 0))) (hl : cs.length = n) (hn : n = Nat.min sLen dLen)
    (hsrc : ∀ j, j < n → w.cell? ⟨sg, so + j, none⟩ = some (.int .i64 (cs.getD j 0))) (hfit : off + n ≤ cur.length) :
    ∃ W, (Builtin.copy_ #[24, 24] ty #[.slice (some ⟨g, off, none⟩) dLen dCap, .slice (some ⟨sg, so, none⟩) sLen sCap]).run Try.prog w = .ok (goInt n) W ∧
      W.heap[g]? = some (.cells (intCs (splice cur off cs)).toArray 3 (0, 0)) ∧ ∀ B, B ≤ g → Below B w W := by
  subst hl
  have e := run_copy_row (P := Try.prog) w 24 24 ty 3 g off dLen dCap ⟨sg, so, none⟩ sLen sCap (intCs cur).toArray 3 (intCs cs) Try.underlying24 (by kernel_rfl) hg (by rw [intCs_len]; exact hn)
    (fun j v hv => by
      have hj : j < cs.length := by
        rcases Nat.lt_or_ge j cs.length with h | h
        · exact h
        · rw [List.getElem?_eq_none (by rw [intCs_len]; exact h)] at hv; cases hv
      rw [intCs_get cs j hj] at hv
      rw [← hv, show (⟨sg, so, none⟩ : Addr).add j = ⟨sg, so + j, none⟩ from by unfold Addr.add; split <;> simp_all]
      exact hsrc j hj) (by simp [intCs_len]; exact hfit) (fun v hv => by unfold intCs at hv; obtain ⟨x, _, rfl⟩ := List.mem_map.1 hv; rfl)
  rw [intCs_len] at e
  refine ⟨_, e, ?_, fun B hB => below_setRow (Below.refl _ _) hB _⟩
  rw [setRow_heap w g _ _ _ _ hg]
  have := intCs_splice cur cs off
  unfold splice at this
  rw [← intCs_splice]
  simp [splice, intCs_len]
theorem rep_splice : ∀ k, k ∈ [1, 2, 4, 8] → splice (repOf k) k (List.replicate (Nat.min k (12 - k)) 1) = repOf (k + Nat.min k (12 - k)) := by decide
theorem rep_first : splice (List.replicate 12 0) 0 [1] = repOf 1 := by decide
theorem rep_one (k j : Nat) (h : j < k) : (repOf k).getD j 0 = 1 := by
  unfold repOf
  simp [List.getD, List.getElem?_append_left, h]
theorem heap_cell {w : World} {g : Nat} {xs : List Int} {e : TypeId} (hg : w.heap[g]? = some (.cells (intCs xs).toArray e (0, 0))) (j : Nat) (hj : j < xs.length) : w.cell? ⟨g, j, none⟩ = some (.int .i64 (xs.getD j 0)) := by
  simp [World.cell?, hg, intCs_get xs j hj]
theorem rep_len (k : Nat) (h : k ≤ 12) : (repOf k).length = 12 := by simp [repOf]; omega
/-- One round of Repeat. -/
theorem rep_round (w : World) (ty : TypeId) (g k m : Nat) (hk : k ∈ [1, 2, 4, 8]) (hm : m = Nat.min k (12 - k)) (hg : w.heap[g]? = some (.cells (intCs (repOf k)).toArray 3 (0, 0))) :
    ∃ W, (Builtin.copy_ #[24, 24] ty #[.slice (some ⟨g, k, none⟩) (12 - k) (12 - k), .slice (some ⟨g, 0, none⟩) k 12]).run Try.prog w = .ok (goInt m) W ∧
      Hid (W.heap[g]? = some (.cells (intCs (repOf (k + m))).toArray 3 (0, 0))) ∧ Hid (∀ B, B ≤ g → Below B w W) := by
  have hk12 : k ≤ 12 := by simp at hk; omega
  obtain ⟨W, h1, h2, h3⟩ := run_copyI w ty g k (12 - k) (12 - k) g 0 k 12 m (repOf k) (List.replicate m 1) hg (by simp) hm
    (fun j hj => by
      have hjk : j < k := by subst hm; have := Nat.min_le_left k (12 - k); have e : Nat.min k (12 - k) = min k (12 - k) := rfl; rw [e] at hj; omega
      rw [Nat.zero_add, heap_cell hg j (by rw [rep_len k hk12]; omega), rep_one k j hjk]
      simp [hj]) (by rw [rep_len k hk12, hm]; have e : Nat.min k (12 - k) = min k (12 - k) := rfl; rw [e]; omega)
  rw [hm, rep_splice k hk, ← hm] at h2
  exact ⟨W, h1, Lib.hid h2, Lib.hid h3⟩
theorem rep_start (w w1 : World) (ty : TypeId) (e : TypeId) (g0 c0 : Nat) (h0 : g0 < w.heap.size) (q0 : w.cell? ⟨g0, 0, none⟩ = some (.int .i64 1)) (hown1 : w1.ownsRow w.heap.size 3 1 (.slice (some ⟨w.heap.size, 0, none⟩) 12 12) 12 (madeCells (Value.int .i64 0).cells (12 * 1)).toList) (hgrow1 : w.grownBy w1 none) :
    ∃ W, (Builtin.copy_ #[24, 24] ty #[.slice (some ⟨w.heap.size, 0, none⟩) 12 12, .slice (some ⟨g0, 0, none⟩) 1 c0]).run Try.prog w1 = .ok (goInt 1) W ∧
      Hid (W.heap[w.heap.size]? = some (.cells (intCs (repOf 1)).toArray 3 (0, 0))) ∧ Hid (Below w.heap.size w W) := by
  have B1 : Below w.heap.size w w1 := (Below.refl _ _).grown hgrow1 (Nat.le_refl _) (by simp)
  have o1 : w1.ownsRow w.heap.size 3 1 (.slice (some ⟨w.heap.size, 0, none⟩) 12 12) 12 (intCs (List.replicate 12 0)) := by simpa [intCs, toList_madeCells_one, Value.cells] using hown1
  have hg := own_heap o1
  obtain ⟨W, h1, h2, h3⟩ := run_copyI w1 ty w.heap.size 0 12 12 g0 0 1 c0 1 (List.replicate 12 0) [1] hg rfl rfl
    (fun j hj => by
      obtain rfl : j = 0 := by omega
      exact (B1.cell (p := ⟨g0, 0, none⟩) h0).trans q0) (by simp)
  rw [rep_first] at h2
  exact ⟨W, h1, Lib.hid h2, Lib.hid (B1.trans (h3 _ (Nat.le_refl _)))⟩
set_option maxHeartbeats 1000000 in
theorem repeat_12 (w : World) (b : Nat) (e : TypeId) (v : Value) (h : w.ownsRow b e 1 v 1 (intCs [1])) :
    Calls Try.prog 48 #[v, .int .i64 12] w (OwnPost 3 onesL w) := by
  obtain ⟨g0, c0, rfl, _, hg0⟩ := own_pos h (by omega)
  obtain ⟨i0, hi, hz0, hz1, hz2⟩ := info_parts infoInt
  have q0 := own_icell h 0 (by omega)
  go_enter Try.func48, Try.ntmps48
  go_wp2_with fail
  refine (mul_12 _).mono ?_
  rintro e w1 ⟨rfl, rfl⟩
  go_wp2_with (at_make; refine wpList_make_full _ rfl _ _ 24 rfl w.heap.size 3 i0 (.int .i64 0) 1 Try.underlying24 hi hz0 hz1 _ _ _ _ 12 rfl rfl rfl rfl (by rw [hz2]; omega) (by unfold maxLen; omega) (Nat.le_refl _) ?_; intro w1 hown1 hgrow1; obtain ⟨W2, hr2, HG2, HB2⟩ := rep_start w w1 3 3 g0 c0 hg0 q0 hown1 hgrow1)
  go_loopw [8] (fun i wr => ∃ k : Nat, k ∈ [1, 2, 4, 8, 12] ∧ i = .int .i64 k ∧ Hid (wr.heap[w.heap.size]? = some (.cells (intCs (repOf k)).toArray 3 (0, 0))) ∧ Hid (Below w.heap.size w wr)) (fun i _ => 12 - (intOf i).toNat)
  case atStart => exact ⟨1, by decide, rfl, HG2, HB2⟩
  case round =>
    obtain ⟨k, hk, rfl, HG, HB⟩ := hrel
    clear hown1 hgrow1 hr2 HG2 HB2 q0
    by_cases h12 : k = 12
    · subst h12
      clear hk
      go_wp2_with fail
      go_ret
      exact ⟨_, rfl, own_of_heap (xs := onesL) HG.out (Nat.le_refl _) (by decide) (by decide), HB.out⟩
    · have hc : k = 1 ∨ k = 2 ∨ k = 4 ∨ k = 8 := by simp at hk; omega
      clear hk h12
      rcases hc with rfl | rfl | rfl | rfl
      · obtain ⟨W3, hr3, HG3, HB3⟩ := rep_round wr.drew 3 w.heap.size 1 1 (by decide) rfl HG.out
        simp only [Nat.reduceSub, Nat.reduceAdd] at hr3 HG3
        go_wp2_with fail
        go_region
        go_wp2_with fail
        go_roundw
        case rel => exact ⟨2, by decide, by go_num, HG3, Lib.hid (HB.out.drew.trans (HB3.out _ (Nat.le_refl _)))⟩
        case measure => simp [intOf]
      · obtain ⟨W3, hr3, HG3, HB3⟩ := rep_round wr.drew 3 w.heap.size 2 2 (by decide) rfl HG.out
        simp only [Nat.reduceSub, Nat.reduceAdd] at hr3 HG3
        go_wp2_with fail
        go_region
        go_wp2_with fail
        go_roundw
        case rel => exact ⟨4, by decide, by go_num, HG3, Lib.hid (HB.out.drew.trans (HB3.out _ (Nat.le_refl _)))⟩
        case measure => simp [intOf]
      · obtain ⟨W3, hr3, HG3, HB3⟩ := rep_round wr.drew 3 w.heap.size 4 4 (by decide) rfl HG.out
        simp only [Nat.reduceSub, Nat.reduceAdd] at hr3 HG3
        go_wp2_with fail
        go_region
        go_wp2_with fail
        go_roundw
        case rel => exact ⟨8, by decide, by go_num, HG3, Lib.hid (HB.out.drew.trans (HB3.out _ (Nat.le_refl _)))⟩
        case measure => simp [intOf]
      · obtain ⟨W3, hr3, HG3, HB3⟩ := rep_round wr.drew 3 w.heap.size 8 4 (by decide) rfl HG.out
        simp only [Nat.reduceSub, Nat.reduceAdd] at hr3 HG3
        go_wp2_with fail
        go_region
        go_wp2_with fail
        go_roundw
        case rel => exact ⟨12, by decide, by go_num, HG3, Lib.hid (HB.out.drew.trans (HB3.out _ (Nat.le_refl _)))⟩
        case measure => simp [intOf]
end Go.Proofs.Ytppbcjpabmllnaa
/- Contracts of impl.EqualCircle and spec.EqualCircle; the walk of laws.FnExactEqualCircle. -/
namespace Go.Proofs.Ytppbcjpabmllnaa
open Go.RowKit Go.Joins
set_option linter.unusedVariables false
theorem alloc_at {w : World} {o o' : Obj} : ((w.alloc o).alloc o').heap[w.heap.size + 1]? = some o' := by
  have := heap_alloc_new (w.alloc o) o'
  rwa [show (w.alloc o).heap.size = w.heap.size + 1 from by simp] at this
theorem calls_cir {P : Program} {k : FuncId} {args : Array Value} {W w : World} {xs : List Int} (h : Below W.heap.size W w) (hk : Calls P k args w (CirPost xs w)) :
    Calls P k args w fun e w' => ∃ v, e = .returned (cirV v) ∧ w'.ownsRow w.heap.size 3 1 v xs.length (intCs xs) ∧ Below W.heap.size W w' :=
  hk.mono fun _ _ ⟨v, he, o, b⟩ => ⟨v, he, o, h.trans (b.mono h.size)⟩
theorem one_grown {w w' : World} {m : Nat} {v : Value} {r : Option Nat} (h : One m v w) (hg : w.grownBy w' r) (hr : r ≠ some m) : One m v w' := by
  have e := hg.block m h.1 (fun e => hr e.symm)
  exact ⟨Nat.lt_of_lt_of_le h.1 hg.size, (World.cell?_of_block (w := w) (a := ⟨m, 0, none⟩) e).trans h.2.1, fun o => (World.frozen?_of_block (w := w) (a := ⟨m, o, none⟩) e).trans (h.2.2 o)⟩
/-- A row is kept where another block is written. -/
theorem own_grownC {w w' : World} {base : Nat} {e : TypeId} {v : Value} {n : Nat} {xs : List Value} {r : Option Nat} (h : w.ownsRow base e 1 v n xs) (hg : w.grownBy w' r) (hr : ∀ g, v.ownBlock = some g → r ≠ some g) : w'.ownsRow base e 1 v n xs := by
  refine h.kept hg ?_
  cases hv : v.ownBlock
  · exact .inl rfl
  · exact .inr (fun e => hr _ hv e.symm)
end Go.Proofs.Ytppbcjpabmllnaa
