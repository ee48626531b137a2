/- Rows of circles in memory of their own: a row of slices, each a row of ints in a block of its own; contracts of spec.l02Copy, laws.eqCircleS, laws.markCircleS and laws.heldCircleS. -/
import Derived.Test.YtjfeeppbbckneabEqCirLaw
import Derived.Test.YtjfeeppbbckneabCirOkLaw
import Derived.Maps.AppendAt
import Derived.Deep.RegionHeld3
import Derived.RangeFuncOwn
namespace Go.Proofs.Ytjfeeppbbckneab
open Go.RowKit Go.Joins
set_option linter.unusedVariables false
/-- The element at a place. -/
def uAt (us : List Value) (i : Nat) : Value := us.getD i (.slice none 0 0)
def lAt (L : List (List Int)) (i : Nat) : List Int := L.getD i []
structure CsRaw (w : World) (B : Nat) (v : Value) (us : List Value) (L : List (List Int)) : Prop where
  len : us.length = L.length
  row : w.ownsRow B 26 1 v L.length us
  els : ∀ i, i < L.length → w.ownsRow B 3 1 (uAt us i) (lAt L i).length (intCs (lAt L i))
  own : ∀ i, i < L.length → ∃ g, (uAt us i).ownBlock = some g ∧ v.ownBlock ≠ some g
  sep : ∀ i j, i < j → j < L.length → (uAt us i).ownBlock ≠ (uAt us j).ownBlock
section
variable {w w' : World} {B B' : Nat} {v : Value} {us : List Value} {L : List (List Int)}
theorem CsRaw.below (h : CsRaw w B v us L) (hb : Below w.heap.size w w') : CsRaw w' B v us L :=
  ⟨h.len, own_below h.row hb, fun i hi => own_below (h.els i hi) hb, h.own, h.sep⟩
theorem CsRaw.base (h : CsRaw w B v us L) (hB : B' ≤ B) : CsRaw w B' v us L :=
  ⟨h.len, own_base h.row hB, fun i hi => own_base (h.els i hi) hB, h.own, h.sep⟩
/-- Another block is written. -/
theorem CsRaw.grown {r : Option Nat} (h : CsRaw w B v us L) (hg : w.grownBy w' r) (hv : ∀ g, v.ownBlock = some g → r ≠ some g) (he : ∀ i, i < L.length → ∀ g, (uAt us i).ownBlock = some g → r ≠ some g) : CsRaw w' B v us L :=
  ⟨h.len, own_grownC h.row hg hv, fun i hi => own_grownC (h.els i hi) hg (he i hi), h.own, h.sep⟩
theorem uAt_left {us vs : List Value} {i : Nat} (h : i < us.length) : uAt (us ++ vs) i = uAt us i := by
  unfold uAt; rw [List.getD_eq_getElem?_getD, List.getElem?_append_left h, ← List.getD_eq_getElem?_getD]
theorem uAt_right {us vs : List Value} {i : Nat} (h : us.length ≤ i) : uAt (us ++ vs) i = uAt vs (i - us.length) := by
  unfold uAt; rw [List.getD_eq_getElem?_getD, List.getElem?_append_right h, ← List.getD_eq_getElem?_getD]
theorem lAt_left {L M : List (List Int)} {i : Nat} (h : i < L.length) : lAt (L ++ M) i = lAt L i := by
  unfold lAt; rw [List.getD_eq_getElem?_getD, List.getElem?_append_left h, ← List.getD_eq_getElem?_getD]
theorem lAt_right {L M : List (List Int)} {i : Nat} (h : L.length ≤ i) : lAt (L ++ M) i = lAt M (i - L.length) := by
  unfold lAt; rw [List.getD_eq_getElem?_getD, List.getElem?_append_right h, ← List.getD_eq_getElem?_getD]
/-- No circle. -/
theorem csRaw_nil (w : World) (hB : B ≤ w.heap.size) : CsRaw (w.alloc (.cells #[] 26)) B (.slice (some ⟨w.heap.size, 0, none⟩) 0 0) [] [] :=
  ⟨rfl, World.ownsRow_lit w #[] 0 hB (by unfold maxLen; omega) rfl, fun i hi => by simp at hi, fun i hi => by simp at hi, fun i j _ hj => by simp at hj⟩
/-- One circle. -/
theorem csRaw_one {u : Value} {xs : List Int} (hu : w.ownsRow B 3 1 u xs.length (intCs xs)) (hx : 0 < xs.length) (hB : B ≤ w.heap.size) :
    CsRaw (w.alloc (.cells #[u] 26)) B (.slice (some ⟨w.heap.size, 0, none⟩) 1 1) [u] [xs] := by
  obtain ⟨g, cap, rfl, _, hg⟩ := own_pos hu hx
  refine ⟨rfl, World.ownsRow_lit w #[_] 1 hB (by unfold maxLen; omega) rfl, fun i hi => ?_, fun i hi => ?_, fun i j h1 h2 => ?_⟩
  · obtain rfl : i = 0 := by simp at hi; omega
    exact own_below hu (below_alloc1 w _)
  · obtain rfl : i = 0 := by simp at hi; omega
    refine ⟨g, rfl, fun e => ?_⟩
    simp only [Value.ownBlock, Option.some.injEq] at e
    omega
  · simp at h2; omega
/-- One row of circles behind another: what append leaves. -/
theorem csRaw_app {wm : World} {B1 B2 : Nat} {v1 v2 v' : Value} {us1 us2 : List Value} {L1 L2 : List (List Int)} (h1 : CsRaw wm B1 v1 us1 L1) (hb : Below wm.heap.size wm w) (h2 : CsRaw w B2 v2 us2 L2) (hB : wm.heap.size ≤ B2) (hB1 : B1 ≤ wm.heap.size)
    (hown : w'.ownsRow B1 26 1 v' (L1.length + L2.length) (us1 ++ us2)) (hg : w.grownBy w' v1.ownBlock) (hor : v'.ownBlock = v1.ownBlock ∨ v'.ownBlock = some w.heap.size) : CsRaw w' B1 v' (us1 ++ us2) (L1 ++ L2) := by
  have k1 := h1.below hb
  have lt1 : ∀ i, i < L1.length → ∀ g, (uAt us1 i).ownBlock = some g → g < wm.heap.size := fun i hi g e => ((h1.els i hi).lt g e).2
  have lt2 : ∀ i, i < L2.length → ∀ g, (uAt us2 i).ownBlock = some g → B2 ≤ g ∧ g < w.heap.size := fun i hi g e => (h2.els i hi).lt g e
  have ltv : ∀ g, v1.ownBlock = some g → g < wm.heap.size := fun g e => (h1.row.lt g e).2
  have hs := hb.size
  have new : ∀ g, (∀ k, v1.ownBlock = some k → k ≠ g) → g < w.heap.size → v'.ownBlock ≠ some g := fun g hk hlt e => by
    rcases hor with h | h
    · exact hk g (h ▸ e) rfl
    · rw [h] at e; injection e; omega
  refine ⟨by rw [List.length_append, List.length_append, h1.len, h2.len], by rw [List.length_append]; exact hown, fun i hi => ?_, fun i hi => ?_, fun i j hij hj => ?_⟩
  · rw [List.length_append] at hi
    rcases Nat.lt_or_ge i L1.length with q | q
    · rw [uAt_left (by rw [h1.len]; exact q), lAt_left q]
      obtain ⟨g, e, hne⟩ := h1.own i q
      exact own_grownC (k1.els i q) hg (fun g' e' e2 => by rw [e] at e'; injection e' with e'; subst e'; exact hne e2)
    · rw [uAt_right (by rw [h1.len]; exact q), lAt_right q, h1.len]
      exact own_base (own_grownC (h2.els (i - L1.length) (by omega)) hg (fun g e e2 => by have a := ltv g e2; have b := (lt2 _ (by omega) g e).1; omega)) (by omega)
  · rw [List.length_append] at hi
    rcases Nat.lt_or_ge i L1.length with q | q
    · rw [uAt_left (by rw [h1.len]; exact q)]
      obtain ⟨g, e, hne⟩ := h1.own i q
      exact ⟨g, e, new g (fun k hk e2 => hne (e2 ▸ hk)) (by have := lt1 i q g e; omega)⟩
    · rw [uAt_right (by rw [h1.len]; exact q), h1.len]
      obtain ⟨g, e, _⟩ := h2.own (i - L1.length) (by omega)
      have b := lt2 _ (by omega) g e
      exact ⟨g, e, new g (fun k hk e2 => by have := ltv k hk; omega) b.2⟩
  · rw [List.length_append] at hj
    rcases Nat.lt_or_ge j L1.length with q | q
    · rw [uAt_left (by rw [h1.len]; omega), uAt_left (by rw [h1.len]; exact q)]
      exact h1.sep i j hij q
    · rw [uAt_right (i := j) (by rw [h1.len]; exact q), h1.len]
      rcases Nat.lt_or_ge i L1.length with p | p
      · rw [uAt_left (by rw [h1.len]; exact p)]
        obtain ⟨g, e, _⟩ := h1.own i p
        obtain ⟨g2, e2, _⟩ := h2.own (j - L1.length) (by omega)
        rw [e, e2]
        intro e3
        injection e3 with e3
        have := lt1 i p g e
        have := (lt2 _ (by omega) g2 e2).1
        omega
      · rw [uAt_right (i := i) (by rw [h1.len]; exact p), h1.len]
        exact h2.sep (i - L1.length) (j - L1.length) (by omega) (by omega)
end
theorem intCs_oneC (xs : List Int) : ∀ u ∈ intCs xs, u.oneCell' = true := fun u hu => by
  unfold intCs at hu
  obtain ⟨x, _, rfl⟩ := List.mem_map.1 hu
  rfl
theorem add_noneC (g off i : Nat) : (⟨g, off, none⟩ : Addr).add i = ⟨g, off + i, none⟩ := by unfold Addr.add; split <;> simp_all
theorem row_cellsC {w : World} {B g cap : Nat} {e : TypeId} {xs : List Int} {n : Nat} (h : w.ownsRow B e 1 (.slice (some ⟨g, 0, none⟩) n cap) n (intCs xs)) : ∀ j u, (intCs xs)[j]? = some u → w.cell? ⟨g, j, none⟩ = some u := fun j u hu => by
  have hl := h.1
  have hj : j < n := by
    rcases Nat.lt_or_ge j n with q | q
    · exact q
    · rw [List.getElem?_eq_none (by omega)] at hu
      cases hu
  rw [h.cellAt j (by omega), hu]
/-- Two circles of two rows. -/
def TwoC (g m k : Nat) (u v : Value) (w : World) : Prop := (g < w.heap.size ∧ m < w.heap.size) ∧ w.cell? ⟨g, k, none⟩ = some u ∧ w.cell? ⟨m, k, none⟩ = some v
theorem twoC_keep {g m k : Nat} {u v : Value} {w w' : World} (hb : Below w.heap.size w w') (h : TwoC g m k u v w) : TwoC g m k u v w' :=
  ⟨⟨Nat.lt_of_lt_of_le h.1.1 hb.size, Nat.lt_of_lt_of_le h.1.2 hb.size⟩, (hb.cell h.1.1).trans h.2.1, (hb.cell h.1.2).trans h.2.2⟩
theorem twoC_cells {g m k : Nat} {u v : Value} {w : World} (h : TwoC g m k u v w) : w.cell? ⟨g, k, none⟩ = some u ∧ w.cell? ⟨m, k, none⟩ = some v := h.2
theorem cs_cell {w : World} {B g cap n : Nat} {us : List Value} {L : List (List Int)} (h : CsRaw w B (.slice (some ⟨g, 0, none⟩) n cap) us L) (hn : n = L.length) {k : Nat} (hk : k < n) : w.cell? ⟨g, k, none⟩ = some (uAt us k) := by
  subst hn
  have hl := h.len
  rw [h.row.cellAt k (by omega)]
  unfold uAt
  rw [List.getD_eq_getElem?_getD, List.getElem?_eq_getElem (by omega)]
  rfl
end Go.Proofs.Ytjfeeppbbckneab
/- Rows of circles: one circle more; what owns a row abides the turn of what is no row. -/
namespace Go.Proofs.Ytjfeeppbbckneab
open Go.RowKit Go.Joins
set_option linter.unusedVariables false
/-- What owns a row is a block of cells. -/
theorem row_cells {w : World} {base : Nat} {e : TypeId} {size : Nat} {v : Value} {n : Nat} {xs : List Value} (h : w.ownsRow base e size v n xs) : ∀ g, v.ownBlock = some g → ∃ o : Obj, w.heap[g]? = some o ∧ o.isCells = true := fun g e' => by
  rcases h.2 with ⟨h1, _⟩ | ⟨g', cap, cur, h1, _, hgb, _⟩
  · rw [h1] at e'; simp [Value.ownBlock] at e'
  · rw [h1] at e'
    obtain rfl : g' = g := by simpa [Value.ownBlock] using e'
    exact ⟨_, hgb, rfl⟩
theorem csraw_own {w w' : World} {B : Nat} {v : Value} {us : List Value} {L : List (List Int)} {row : Option Nat} (h : CsRaw w B v us L) (hg : w.grownBy w' row) (hr : ∀ r, row = some r → ∃ o : Obj, w.heap[r]? = some o ∧ o.isCells = false) : CsRaw w' B v us L := by
  have ne : ∀ {e : TypeId} {u : Value} {n : Nat} {xs : List Value}, w.ownsRow B e 1 u n xs → ∀ g, u.ownBlock = some g → row ≠ some g := fun {e u n xs} o g e1 e2 => by
    obtain ⟨o1, h1, c1⟩ := row_cells o g e1
    obtain ⟨o2, h2, c2⟩ := hr g e2
    rw [h1] at h2
    cases h2
    rw [c1] at c2
    cases c2
  exact h.grown hg (ne h.row) (fun i hi => ne (h.els i hi))
/-- One circle more. -/
theorem csRaw_snoc {w w' : World} {B : Nat} {v v' u : Value} {us : List Value} {L : List (List Int)} {xs : List Int} (h : CsRaw w B v us L) (hu : w.ownsRow B 3 1 u xs.length (intCs xs)) (hpos : 0 < xs.length)
    (hnv : v.ownBlock ≠ u.ownBlock) (hne : ∀ i, i < L.length → (uAt us i).ownBlock ≠ u.ownBlock) (hown : w'.ownsRow B 26 1 v' (L.length + 1) (us ++ [u])) (hg : w.grownBy w' v.ownBlock) (hor : v'.ownBlock = v.ownBlock ∨ v'.ownBlock = some w.heap.size) : CsRaw w' B v' (us ++ [u]) (L ++ [xs]) := by
  obtain ⟨gu, cu, rfl, _, hgu⟩ := own_pos hu hpos
  have lt : ∀ i, i < L.length → ∀ g, (uAt us i).ownBlock = some g → g < w.heap.size := fun i hi g e => ((h.els i hi).lt g e).2
  have new : ∀ g, v.ownBlock ≠ some g → g < w.heap.size → v'.ownBlock ≠ some g := fun g hk hlt e => by
    rcases hor with h1 | h1
    · exact hk (h1 ▸ e)
    · rw [h1] at e; injection e; omega
  have e1 : ∀ i, i < L.length → uAt (us ++ [.slice (some ⟨gu, 0, none⟩) xs.length cu]) i = uAt us i := fun i hi => uAt_left (by rw [h.len]; exact hi)
  have e2 : uAt (us ++ [.slice (some ⟨gu, 0, none⟩) xs.length cu]) L.length = .slice (some ⟨gu, 0, none⟩) xs.length cu := by rw [uAt_right (by rw [h.len]; exact Nat.le_refl _), h.len, Nat.sub_self]; rfl
  have l1 : ∀ i, i < L.length → lAt (L ++ [xs]) i = lAt L i := fun i hi => lAt_left hi
  have l2 : lAt (L ++ [xs]) L.length = xs := by rw [lAt_right (Nat.le_refl _), Nat.sub_self]; rfl
  have ll : (L ++ [xs]).length = L.length + 1 := by simp
  refine ⟨by rw [ll]; simp [h.len], by rw [ll]; exact hown, fun i hi => ?_, fun i hi => ?_, fun i j hij hj => ?_⟩
  · rw [ll] at hi
    rcases Nat.lt_or_ge i L.length with q | q
    · rw [e1 i q, l1 i q]
      obtain ⟨g, e, hne'⟩ := h.own i q
      exact own_grownC (h.els i q) hg (fun g' e' e3 => by rw [e] at e'; injection e' with e'; subst e'; exact hne' e3)
    · obtain rfl : i = L.length := by omega
      rw [e2, l2]
      exact own_grownC hu hg (fun g' e' e3 => hnv (by rw [e3, e']))
  · rw [ll] at hi
    rcases Nat.lt_or_ge i L.length with q | q
    · rw [e1 i q]
      obtain ⟨g, e, hne'⟩ := h.own i q
      exact ⟨g, e, new g hne' (lt i q g e)⟩
    · obtain rfl : i = L.length := by omega
      rw [e2]
      exact ⟨gu, rfl, new gu hnv hgu⟩
  · rw [ll] at hj
    rcases Nat.lt_or_ge j L.length with q | q
    · rw [e1 i (by omega), e1 j q]
      exact h.sep i j hij q
    · obtain rfl : j = L.length := by omega
      rw [e1 i hij, e2]
      exact hne i hij
theorem csRaw_none (w : World) (B : Nat) : CsRaw w B (.slice none 0 0) [] [] := ⟨rfl, World.ownsRow_nil _ _ _ _, fun i hi => by simp at hi, fun i hi => by simp at hi, fun i j _ hj => by simp at hj⟩
theorem take_snoc {L : List (List Int)} {k : Nat} (hk : k < L.length) : L.take (k + 1) = L.take k ++ [lAt L k] := by
  have e : lAt L k = L[k] := by unfold lAt; rw [List.getD_eq_getElem?_getD, List.getElem?_eq_getElem hk]; rfl
  rw [e, List.take_add_one, List.getElem?_eq_getElem hk]
  rfl
end Go.Proofs.Ytjfeeppbbckneab
