/- Contracts of TurnCircle, both sides. -/
import Derived.Test.YtohfepcdgbgojabDoorCirFifth
import Derived.Test.YtohfepcdgbgojabDoorEqCirLaw
namespace Go.Proofs.YtohfepcdgbgojabDoor
open Go.RowKit Go.Joins
set_option linter.unusedVariables false
/-- The first k parts of the turned circle. -/
def turnTo (xs : List Int) (n : Nat) : Nat → List Int
  | 0 => []
  | k + 1 => turnTo xs n k ++ [xs.getD ((k + n) % 12) 0]
theorem turn_len (xs : List Int) (n : Nat) : ∀ k, (turnTo xs n k).length = k
  | 0 => rfl
  | k + 1 => by simp [turnTo, turn_len xs n k]
theorem turn_get (xs : List Int) (n j : Nat) : ∀ k, j < k → (turnTo xs n k).getD j 0 = xs.getD ((j + n) % 12) 0
  | 0, h => by omega
  | k + 1, h => by
    have hl := turn_len xs n k
    rcases Nat.lt_or_ge j k with q | q
    · have e := turn_get xs n j k q
      rw [← e, turnTo, List.getD_eq_getElem?_getD, List.getElem?_append_left (by omega), ← List.getD_eq_getElem?_getD]
    · obtain rfl : j = k := by omega
      rw [turnTo, List.getD_eq_getElem?_getD, List.getElem?_append_right (by omega), hl]
      simp
/-- What TurnCircle answers. -/
def TuAt (xs : List Int) (n : Int) (ys : List Int) : Prop :=
  ((CirOk xs ∧ 0 ≤ n ∧ n ≤ 11) ∧ ys = turnTo xs n.toNat 12) ∨ ((cirB xs && decide (0 ≤ n ∧ n ≤ 11)) = false ∧ ys = [])
theorem tuAt_ex (xs : List Int) (n : Int) : ∃ ys, TuAt xs n ys := by
  rcases key_cases xs n with h | h
  · exact ⟨_, .inl ⟨h, rfl⟩⟩
  · exact ⟨_, .inr ⟨h, rfl⟩⟩
theorem tuAt_len {xs ys : List Int} {n : Int} (h : TuAt xs n ys) : ys.length ≤ 12 := by
  rcases h with ⟨_, rfl⟩ | ⟨_, rfl⟩
  · rw [turn_len]; omega
  · simp
/-- The parts ahead of the turn. -/
def headTo (xs : List Int) (j : Nat) : List Int := (List.range j).map fun t => xs.getD t 0
theorem head_len (xs : List Int) (j : Nat) : (headTo xs j).length = j := by simp [headTo]
theorem head_get (xs : List Int) (j t : Nat) (h : t < j) : (headTo xs j).getD t 0 = xs.getD t 0 := by simp [headTo, h]
theorem turn_both (xs : List Int) (j M : Nat) (hM : M + j = 12) : splice (splice (List.replicate 12 0) 0 (turnTo xs j M)) M (headTo xs j) = turnTo xs j 12 := by
  have hl := turn_len xs j M
  have e1 : splice (List.replicate 12 0) 0 (turnTo xs j M) = turnTo xs j M ++ List.replicate (12 - M) 0 := by unfold splice; rw [List.take_zero, List.nil_append, hl, Nat.zero_add, List.drop_replicate]
  have e2 : splice (turnTo xs j M ++ List.replicate (12 - M) 0) M (headTo xs j) = turnTo xs j M ++ headTo xs j := by
    unfold splice
    rw [head_len, List.take_append_of_le_length (by omega), List.take_of_length_le (by omega), List.drop_eq_nil_of_le (by simp [hl]; omega), List.append_nil]
  rw [e1, e2]
  refine ext_getD (by simp [hl, head_len, turn_len]; omega) fun t ht => ?_
  have ht' : t < 12 := by simp [hl, head_len] at ht; omega
  rw [turn_get xs j t 12 ht']
  rcases Nat.lt_or_ge t M with q | q
  · rw [← turn_get xs j t M q, List.getD_eq_getElem?_getD, List.getElem?_append_left (by omega), ← List.getD_eq_getElem?_getD]
  · rw [List.getD_eq_getElem?_getD, List.getElem?_append_right (by omega), ← List.getD_eq_getElem?_getD, hl, head_get xs j _ (by omega)]
    rw [show (t + j) % 12 = t - M from by omega]
theorem turn_first (w : World) (ty : TypeId) (t g j cap M : Nat) (xs : List Int) (hj : j < 12) (hM : M = 12 - j) (hg : w.heap[t]? = some (.cells (intCs (List.replicate 12 0)).toArray 3 (0, 0))) (hc : ∀ k, k < 12 → w.cell? ⟨g, k, none⟩ = some (.int .i64 (xs.getD k 0))) :
    ∃ W, (Builtin.copy_ #[24, 24] ty #[.slice (some ⟨t, 0, none⟩) 12 12, .slice (some ⟨g, j, none⟩) (12 - j) (cap - j)]).run Tryd.prog w = .ok (goInt M) W ∧
      Hid (W.heap[t]? = some (.cells (intCs (splice (List.replicate 12 0) 0 (turnTo xs j M))).toArray 3 (0, 0))) ∧ Hid (∀ B, B ≤ t → Below B w W) := by
  obtain ⟨W, h1, h2, h3⟩ := run_copyI w ty t 0 12 12 g j (12 - j) (cap - j) M (List.replicate 12 0) (turnTo xs j M) hg (turn_len _ _ _) (by show M = min (12 - j) 12; omega)
    (fun k hk => by rw [turn_get xs j k M hk, hc (j + k) (by omega), show (k + j) % 12 = j + k from by omega]) (by simp; omega)
  exact ⟨W, h1, Lib.hid h2, Lib.hid h3⟩
theorem turn_second (w : World) (ty : TypeId) (t g j cap M : Nat) (xs : List Int) (hM : M + j = 12) (hg : w.heap[t]? = some (.cells (intCs (splice (List.replicate 12 0) 0 (turnTo xs j M))).toArray 3 (0, 0))) (hc : ∀ k, k < 12 → w.cell? ⟨g, k, none⟩ = some (.int .i64 (xs.getD k 0))) :
    ∃ W, (Builtin.copy_ #[24, 24] ty #[.slice (some ⟨t, M, none⟩) (12 - M) (12 - M), .slice (some ⟨g, 0, none⟩) j cap]).run Tryd.prog w = .ok (goInt j) W ∧
      Hid (W.heap[t]? = some (.cells (intCs (turnTo xs j 12)).toArray 3 (0, 0))) ∧ Hid (∀ B, B ≤ t → Below B w W) := by
  obtain ⟨W, h1, h2, h3⟩ := run_copyI w ty t M (12 - M) (12 - M) g 0 j cap j _ (headTo xs j) hg (head_len _ _) (by show j = min j (12 - M); omega)
    (fun k hk => by rw [head_get xs j k hk, Nat.zero_add, hc k (by omega)]) (by rw [length_splice _ _ _ (by simp [turn_len]; omega)]; simp; omega)
  rw [turn_both xs j M hM] at h2
  exact ⟨W, h1, Lib.hid h2, Lib.hid h3⟩
theorem turn_none (w : World) (ty : TypeId) (d : Option Addr) (g cap dc : Nat) : (Builtin.copy_ #[24, 24] ty #[.slice d 0 dc, .slice (some ⟨g, 0, none⟩) 0 cap]).run Tryd.prog w = .ok (goInt 0) w :=
  run_copy_none (P := Tryd.prog) w 24 24 ty 3 d _ 0 dc 0 cap Tryd.underlying24 (by kernel_rfl) rfl
/-- The row that was made. -/
theorem made_heap {w w1 : World} (hown1 : w1.ownsRow w.heap.size 3 1 (.slice (some ⟨w.heap.size, 0, none⟩) 12 12) 12 (madeCells (Value.int .i64 0).cells (12 * 1)).toList) : w1.heap[w.heap.size]? = some (.cells (intCs (List.replicate 12 0)).toArray 3 (0, 0)) :=
  own_heap (B := w.heap.size) (by simpa [intCs, toList_madeCells_one, Value.cells] using hown1)
theorem turn_made {w w1 w2 : World} {g : Nat} {xs : List Int} {u v : Value} (HC1 : Hid (∀ t, t < 12 → w1.cell? ⟨g, t, none⟩ = some (.int .i64 (xs.getD t 0)))) (B1 : Hid (Below w.heap.size w w1)) (C1 : Hid (One w.heap.size u w1)) (Z1 : Hid (One (w.heap.size + 1) v w1)) (hg : g < w1.heap.size) (hgrow : w1.grownBy w2 none) :
    Hid (Below w1.heap.size w1 w2) ∧ Hid (One w.heap.size u w2) ∧ Hid (One (w.heap.size + 1) v w2) ∧ Hid (∀ t, t < 12 → w2.cell? ⟨g, t, none⟩ = some (.int .i64 (xs.getD t 0))) := by
  have B := (Below.refl w1.heap.size w1).grown hgrow (Nat.le_refl _) (by simp)
  exact ⟨Lib.hid B, Lib.hid (one_keep B C1.out), Lib.hid (one_keep B Z1.out), Lib.hid (fun t ht => (B.cell (p := ⟨g, t, none⟩) hg).trans (HC1.out t ht))⟩
set_option maxRecDepth 100000 in
set_option maxHeartbeats 2000000 in
theorem turn_impl {xs ys : List Int} {i : Int} (hf : TuAt xs i ys) (w : World) (b : Nat) (e : TypeId) (v : Value) (hl : xs.length ≤ 2000000) (h : w.ownsRow b e 1 v xs.length (intCs xs)) :
    Calls Tryd.prog 10 #[cirV v, .int .i64 i] w (CirPost ys w) := by
  have CO := Lib.hid (cirOk_impl _ b e v xs hl (own_below h (below_alloc2 w (.cells #[v] 26) (.cells #[.slice none 0 0] 26))))
  have CK := Lib.hid (isKey_any i)
  obtain ⟨i0, hif, hz0, hz1, hz2⟩ := info_parts infoInt
  rcases hf with ⟨⟨hc, hi⟩, hy⟩ | ⟨hb, hy⟩
  · rw [show cirB xs = true from decide_eq_true hc] at CO
    rw [decide_eq_true hi] at CK
    obtain ⟨j, hj⟩ : ∃ j, j = i.toNat := ⟨_, rfl⟩
    rw [← hj] at hy
    have hi' : i = (j : Int) := by omega
    have hj12 : j < 12 := by omega
    subst hi'
    clear hj hi hl
    obtain ⟨g, cap, rfl, hg, hcap, hcm, hcl⟩ := cir_row h hc
    have HC := Lib.hid hcl
    have HY := Lib.hid hy
    obtain ⟨M, hM⟩ : ∃ M, M = 12 - j := ⟨_, rfl⟩
    have hcj : j ≤ cap := by omega
    have hcj2 : ¬ cap = j := by omega
    have hcj3 : j ≤ 12 := by omega
    have hM2 : M ≤ 12 := by omega
    have HM := Lib.hid hM
    clear hy hcl h hc hM
    go_enter Tryd.func10, Tryd.ntmps10
    go_wp2_with fail
    refine CO.out.mono ?_
    rintro e1 w1 ⟨rfl, b1⟩
    have Z1 : Hid (One (w.heap.size + 1) (.slice none 0 0) w1) := Lib.hid (by simpa using one_keep b1 (one_alloc (w := w.alloc (.cells #[.slice (some ⟨g, 0, none⟩) 12 cap] 26)) (v := .slice none 0 0) (t := 26)))
    have C1 := Lib.hid (one_keep b1 (one_al (o := .cells #[.slice none 0 0] 26) (one_alloc (w := w) (v := .slice (some ⟨g, 0, none⟩) 12 cap) (t := 26))))
    have BB := (below_alloc2 w (.cells #[.slice (some ⟨g, 0, none⟩) 12 cap] 26) (.cells #[.slice none 0 0] 26)).trans (b1.mono (by simp; omega))
    have HC1 := Lib.hid (fun t (ht : t < 12) => (BB.cell (p := ⟨g, t, none⟩) hg).trans (HC.out t ht))
    have B1 := Lib.hid BB
    have hg1 : g < w1.heap.size := Nat.lt_of_lt_of_le hg BB.size
    clear b1 BB HC
    obtain ⟨_, c0, _⟩ := C1.out
    go_wp2_with fail
    refine (CK.out _).mono ?_
    rintro e2 w2 ⟨rfl, rfl⟩
    go_wp2_with (at_make; refine wpList_make_full _ rfl _ _ 24 rfl w1.heap.size 3 i0 (.int .i64 0) 1 Tryd.underlying24 hif hz0 hz1 _ _ _ _ 12 rfl rfl rfl rfl (by rw [hz2]; omega) (by unfold maxLen; omega) (Nat.le_refl _) ?_; intro w2 hown1 hgrow1; obtain ⟨B2, C2, Z2, HC2⟩ := turn_made HC1 B1 C1 Z1 hg1 hgrow1; obtain ⟨W3, hr3, HG3, HB3⟩ := turn_first w2 3 w1.heap.size g j cap M xs hj12 HM.out (made_heap hown1) HC2.out; obtain ⟨_, d0, _⟩ := C2.out)
    have hz1' : w.heap.size + 1 < w1.heap.size := Z1.out.1
    have B3 := Lib.hid (B2.out.trans (HB3.out w1.heap.size (Nat.le_refl _)))
    obtain ⟨_, e0, _⟩ := one_keep B3.out C1.out
    have HC3 := Lib.hid (fun t (ht : t < 12) => (B3.out.cell (p := ⟨g, t, none⟩) hg1).trans (HC1.out t ht))
    clear hown1 hgrow1 B2 C2 Z2 HC2 hr3 HB3 c0 d0 hz0 hz1 hz2 hif CO CK
    rcases Nat.eq_zero_or_pos j with hj0 | hj0
    · subst hj0
      obtain rfl : M = 12 := HM.out
      have hr4 : ∀ d dc, (Builtin.copy_ #[24, 24] 3 #[.slice d 0 dc, .slice (some ⟨g, 0, none⟩) 0 cap]).run Tryd.prog W3.drew = .ok (goInt 0) W3.drew := fun d dc => turn_none W3.drew _ d g cap dc
      go_region
      have HG4 : Hid (W3.drew.heap[w1.heap.size]? = some (.cells (intCs (turnTo xs 0 12)).toArray 3 (0, 0))) := Lib.hid (by
        have e := turn_both xs 0 12 rfl
        have e2 : splice (splice (List.replicate 12 0) 0 (turnTo xs 0 12)) 12 (headTo xs 0) = splice (List.replicate 12 0) 0 (turnTo xs 0 12) := by
          unfold splice headTo
          simp [turn_len]
        rw [← e, e2]
        exact HG3.out)
      have B4 : Hid (Below w1.heap.size w1 W3.drew) := Lib.hid B3.out.drew
      obtain ⟨W4, hW⟩ : ∃ W, W = W3.drew := ⟨_, rfl⟩
      rw [← hW] at HG4 B4 ⊢
      clear hW
      have Z4 := Lib.hid (one_keep B4.out Z1.out)
      clear hr4 HG3 HC3 B3 e0
      obtain ⟨_, x0, xf⟩ := Z4.out
      obtain ⟨_, x1, _⟩ := one_set (u := .slice (some ⟨w1.heap.size, 0, none⟩) 12 12) Z4.out
      have O4 := Lib.hid (own_of_heap (xs := turnTo xs 0 12) (B := w1.heap.size) (n := 12) HG4.out (Nat.le_refl _) (turn_len _ _ _) (by decide))
      have O5 := Lib.hid (ownsRow_setCell_below O4.out (a := ⟨w.heap.size + 1, 0, none⟩) hz1' (.slice (some ⟨w1.heap.size, 0, none⟩) 12 12))
      have B5 := Lib.hid ((B1.out.trans (B4.out.mono B1.out.size)).setCell (p := ⟨w.heap.size + 1, 0, none⟩) (by simp only; omega) (.slice (some ⟨w1.heap.size, 0, none⟩) 12 12))
      clear O4 HG4
      go_wp2_with fail
      refine bodyPost_ret (v := cirV (.slice (some ⟨w1.heap.size, 0, none⟩) 12 12)) (by simp [results, Tryd.results10, go_sem, x1]) rfl ⟨_, rfl, ?_, B5.out⟩
      rw [HY.out, turn_len]
      exact own_base O5.out B1.out.size
    · obtain ⟨W4, hr4, HG4, HB4⟩ := turn_second W3.drew 3 w1.heap.size g j cap M xs (by have := HM.out; omega) HG3.out HC3.out
      have hM3 : ¬ M = 12 := by have := HM.out; omega
      go_region
      have B4 : Hid (Below w1.heap.size w1 W4) := Lib.hid (B3.out.drew.trans (HB4.out _ (Nat.le_refl _)))
      have Z4 := Lib.hid (one_keep B4.out Z1.out)
      clear hr4 HG3 HC3 B3 e0 HB4
      obtain ⟨_, x0, xf⟩ := Z4.out
      obtain ⟨_, x1, _⟩ := one_set (u := .slice (some ⟨w1.heap.size, 0, none⟩) 12 12) Z4.out
      have O4 := Lib.hid (own_of_heap (xs := turnTo xs j 12) (B := w1.heap.size) (n := 12) HG4.out (Nat.le_refl _) (turn_len _ _ _) (by decide))
      have O5 := Lib.hid (ownsRow_setCell_below O4.out (a := ⟨w.heap.size + 1, 0, none⟩) hz1' (.slice (some ⟨w1.heap.size, 0, none⟩) 12 12))
      have B5 := Lib.hid ((B1.out.trans (B4.out.mono B1.out.size)).setCell (p := ⟨w.heap.size + 1, 0, none⟩) (by simp only; omega) (.slice (some ⟨w1.heap.size, 0, none⟩) 12 12))
      clear O4 HG4
      go_wp2_with fail
      refine bodyPost_ret (v := cirV (.slice (some ⟨w1.heap.size, 0, none⟩) 12 12)) (by simp [results, Tryd.results10, go_sem, x1]) rfl ⟨_, rfl, ?_, B5.out⟩
      rw [HY.out, turn_len]
      exact own_base O5.out B1.out.size
  · generalize cirB xs = y at CO hb
    generalize decide (0 ≤ i ∧ i ≤ 11) = z at CK hb
    obtain ⟨p0, c0, rfl⟩ := own_slice h
    subst hy
    clear h hl
    generalize xs.length = n at CO ⊢
    cases y
    · go_enter Tryd.func10, Tryd.ntmps10
      go_wp2_with fail
      refine CO.out.mono ?_
      rintro e1 w1 ⟨rfl, b1⟩
      obtain ⟨z0, z1, z2⟩ : One (w.heap.size + 1) (.slice none 0 0) w1 := by simpa using one_keep b1 (one_alloc (w := w.alloc (.cells #[.slice p0 n c0] 26)) (v := .slice none 0 0) (t := 26))
      have B1 := Lib.hid ((below_alloc2 w (.cells #[.slice p0 n c0] 26) (.cells #[.slice none 0 0] 26)).trans (b1.mono (by simp; omega)))
      clear b1
      go_wp2_with fail
      refine bodyPost_ret (v := cirV (.slice none 0 0)) (by simp [results, Tryd.results10, go_sem, z1]) rfl ⟨_, rfl, World.ownsRow_nil _ _ _ _, ?_⟩
      repeat' (first | exact B1.out | (refine Below.setCell ?_ (by simp) _))
    · simp only [Bool.true_and] at hb
      subst hb
      go_enter Tryd.func10, Tryd.ntmps10
      go_wp2_with fail
      refine CO.out.mono ?_
      rintro e1 w1 ⟨rfl, b1⟩
      obtain ⟨z0, z1, z2⟩ : One (w.heap.size + 1) (.slice none 0 0) w1 := by simpa using one_keep b1 (one_alloc (w := w.alloc (.cells #[.slice p0 n c0] 26)) (v := .slice none 0 0) (t := 26))
      have B1 := Lib.hid ((below_alloc2 w (.cells #[.slice p0 n c0] 26) (.cells #[.slice none 0 0] 26)).trans (b1.mono (by simp; omega)))
      clear b1
      go_wp2_with fail
      refine (CK.out _).mono ?_
      rintro e2 w2 ⟨rfl, rfl⟩
      go_wp2_with fail
      refine bodyPost_ret (v := cirV (.slice none 0 0)) (by simp [results, Tryd.results10, go_sem, z1]) rfl ⟨_, rfl, World.ownsRow_nil _ _ _ _, ?_⟩
      repeat' (first | exact B1.out | (refine Below.setCell ?_ (by simp) _))
end Go.Proofs.YtohfepcdgbgojabDoor
