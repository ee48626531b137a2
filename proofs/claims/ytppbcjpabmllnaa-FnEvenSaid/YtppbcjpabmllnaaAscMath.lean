/- Rows of ints in ascending order: one step of sorting in place, one step of leaving out numbers that repeat. -/
import Derived.Test.YtppbcjpabmllnaaScMath
namespace Go.Proofs.Ytppbcjpabmllnaa
open Go.RowKit Go.Joins
set_option linter.unusedVariables false
theorem getD_set {L : List Int} {i : Nat} (h : i < L.length) (y : Int) (j : Nat) : (L.set i y).getD j 0 = if i = j then y else L.getD j 0 := by
  by_cases e : i = j
  · subst e
    rw [if_pos rfl]
    simp [h]
  · rw [if_neg e]
    simp [List.getD, List.getElem?_set_ne e]
theorem mem_getD {L : List Int} {a : Int} : a ∈ L ↔ ∃ j, j < L.length ∧ L.getD j 0 = a := by
  rw [List.mem_iff_getElem]
  constructor
  · rintro ⟨j, hj, e⟩
    exact ⟨j, hj, by rw [← e]; simp [hj]⟩
  · rintro ⟨j, hj, e⟩
    exact ⟨j, hj, by rw [← e]; simp [hj]⟩
/-- The first k numbers ascend. -/
def AscI (L : List Int) (k : Nat) : Prop := ∀ p q, p < q → q < k → L.getD p 0 ≤ L.getD q 0
/-- The numbers up to the place i ascend, but that the one at the place j may be less than some ahead of it. -/
def DownI (L : List Int) (j i : Nat) : Prop := ∀ p q, p < q → q ≤ i → q ≠ j → L.getD p 0 ≤ L.getD q 0
/-- Two numbers side by side change their places. -/
def swL (L : List Int) (p : Nat) : List Int := (L.set (p + 1) (L.getD p 0)).set p (L.getD (p + 1) 0)
theorem swL_len (L : List Int) (p : Nat) : (swL L p).length = L.length := by simp [swL]
theorem swL_get {L : List Int} {p : Nat} (h : p + 1 < L.length) (j : Nat) : (swL L p).getD j 0 = if p = j then L.getD (p + 1) 0 else if p + 1 = j then L.getD p 0 else L.getD j 0 := by
  unfold swL
  rw [getD_set (by simp; omega), getD_set h]
theorem swL_mem {L : List Int} {p : Nat} (h : p + 1 < L.length) (a : Int) : a ∈ swL L p ↔ a ∈ L := by
  rw [mem_getD, mem_getD, swL_len]
  constructor
  · rintro ⟨j, hj, e⟩
    rw [swL_get h] at e
    by_cases e1 : p = j
    · rw [if_pos e1] at e; exact ⟨p + 1, h, e⟩
    · rw [if_neg e1] at e
      by_cases e2 : p + 1 = j
      · rw [if_pos e2] at e; exact ⟨p, by omega, e⟩
      · rw [if_neg e2] at e; exact ⟨j, hj, e⟩
  · rintro ⟨j, hj, e⟩
    by_cases e1 : p = j
    · subst e1; exact ⟨p + 1, h, by rw [swL_get h, if_neg (by omega), if_pos rfl]; exact e⟩
    · by_cases e2 : p + 1 = j
      · subst e2; exact ⟨p, by omega, by rw [swL_get h, if_pos rfl]; exact e⟩
      · exact ⟨j, hj, by rw [swL_get h, if_neg e1, if_neg e2]; exact e⟩
theorem asc_one (L : List Int) : AscI L 1 := fun p q h1 h2 => by omega
theorem down_start {L : List Int} {i : Nat} (h : AscI L i) : DownI L i i := fun p q h1 h2 h3 => h p q h1 (by omega)
theorem down_zero {L : List Int} {i : Nat} (h : DownI L 0 i) : AscI L (i + 1) := fun p q h1 h2 => h p q h1 (by omega) (by omega)
theorem down_stop {L : List Int} {p i : Nat} (h : DownI L (p + 1) i) (hi : p + 1 ≤ i) (hc : L.getD p 0 ≤ L.getD (p + 1) 0) : AscI L (i + 1) := fun a q h1 h2 => by
  by_cases e : q = p + 1
  · subst e
    by_cases e2 : a = p
    · subst e2; exact hc
    · exact Int.le_trans (h a p (by omega) (by omega) (by omega)) hc
  · exact h a q h1 (by omega) e
theorem down_swap {L : List Int} {p i : Nat} (h : DownI L (p + 1) i) (hi : p + 1 ≤ i) (hl : i < L.length) (hc : L.getD (p + 1) 0 < L.getD p 0) : DownI (swL L p) p i := fun a q h1 h2 h3 => by
  rw [swL_get (by omega), swL_get (by omega), if_neg (show ¬ p = q from fun e => h3 e.symm)]
  by_cases e : p + 1 = q
  · subst e
    rw [if_pos rfl]
    by_cases e2 : p = a
    · rw [if_pos e2]; omega
    · rw [if_neg e2, if_neg (by omega)]
      exact h a p (by omega) (by omega) (by omega)
  · rw [if_neg e]
    by_cases e2 : p = a
    · rw [if_pos e2]
      exact h (p + 1) q (by omega) h2 (by omega)
    · rw [if_neg e2]
      by_cases e3 : p + 1 = a
      · rw [if_pos e3]
        exact h p q (by omega) h2 (by omega)
      · rw [if_neg e3]
        exact h a q h1 h2 (by omega)
/-- The same numbers, in another order. -/
def SameM (M L : List Int) : Prop := M.length = L.length ∧ ∀ a, a ∈ M ↔ a ∈ L
theorem sameM_refl (L : List Int) : SameM L L := ⟨rfl, fun _ => Iff.rfl⟩
theorem sameM_swap {M L : List Int} {p : Nat} (h : SameM M L) (hp : p + 1 < L.length) : SameM (swL M p) L :=
  ⟨(swL_len M p).trans h.1, fun a => (swL_mem (by rw [h.1]; exact hp) a).trans (h.2 a)⟩
/-- Of the first t numbers of L, those that differ from the one ahead of them are the first k of M; behind them M is as L. -/
def CompI (L M : List Int) (k t : Nat) : Prop :=
  (M.length = L.length ∧ 1 ≤ k ∧ k ≤ t ∧ t ≤ L.length) ∧ (∀ j, k ≤ j → M.getD j 0 = L.getD j 0) ∧ (∀ p q, p < q → q < k → M.getD p 0 < M.getD q 0) ∧ M.getD (k - 1) 0 = L.getD (t - 1) 0 ∧
    ∀ a, (∃ j, j < k ∧ M.getD j 0 = a) ↔ ∃ j, j < t ∧ L.getD j 0 = a
theorem comp_one {L : List Int} (h : 1 ≤ L.length) : CompI L L 1 1 :=
  ⟨⟨rfl, Nat.le_refl _, Nat.le_refl _, h⟩, fun _ _ => rfl, fun p q h1 h2 => by omega, rfl, fun _ => Iff.rfl⟩
theorem comp_skip {L M : List Int} {k t : Nat} (h : CompI L M k t) (ht : t < L.length) (he : L.getD t 0 = L.getD (t - 1) 0) : CompI L M k (t + 1) := by
  obtain ⟨⟨a1, a2, a3, a4⟩, b, c, d, f⟩ := h
  refine ⟨⟨a1, a2, by omega, ht⟩, b, c, by rw [d, Nat.add_sub_cancel, he], fun a => (f a).trans ⟨fun ⟨j, hj, e⟩ => ⟨j, by omega, e⟩, fun ⟨j, hj, e⟩ => ?_⟩⟩
  by_cases ej : j = t
  · exact ⟨t - 1, by omega, by rw [← he, ← ej]; exact e⟩
  · exact ⟨j, by omega, e⟩
theorem comp_take {L M : List Int} {k t : Nat} (h : CompI L M k t) (hs : AscI L L.length) (ht : t < L.length) (he : L.getD t 0 ≠ L.getD (t - 1) 0) : CompI L (M.set k (L.getD t 0)) (k + 1) (t + 1) := by
  obtain ⟨⟨a1, a2, a3, a4⟩, b, c, d, f⟩ := h
  have hk : k < M.length := by omega
  have hlt : L.getD (t - 1) 0 < L.getD t 0 := by have := hs (t - 1) t (by omega) ht; omega
  have hle : ∀ p, p < k → M.getD p 0 ≤ L.getD (t - 1) 0 := fun p hp => by
    rw [← d]
    by_cases e : p = k - 1
    · rw [e]; exact Int.le_refl _
    · exact Int.le_of_lt (c p (k - 1) (by omega) (by omega))
  refine ⟨⟨by simp [a1], by omega, by omega, ht⟩, fun j hj => ?_, fun p q h1 h2 => ?_, ?_, fun a => ⟨fun ⟨j, hj, e⟩ => ?_, fun ⟨j, hj, e⟩ => ?_⟩⟩
  · rw [getD_set hk, if_neg (by omega)]; exact b j (by omega)
  · rw [getD_set hk, getD_set hk, if_neg (by omega)]
    by_cases e : k = q
    · rw [if_pos e]; have := hle p (by omega); omega
    · rw [if_neg e]; exact c p q h1 (by omega)
  · rw [getD_set hk, if_pos (by omega), Nat.add_sub_cancel]
  · rw [getD_set hk] at e
    by_cases ej : k = j
    · rw [if_pos ej] at e; exact ⟨t, by omega, e⟩
    · rw [if_neg ej] at e
      obtain ⟨j', hj', e'⟩ := (f a).1 ⟨j, by omega, e⟩
      exact ⟨j', by omega, e'⟩
  · by_cases ej : j = t
    · exact ⟨k, by omega, by rw [getD_set hk, if_pos rfl, ← ej]; exact e⟩
    · obtain ⟨j', hj', e'⟩ := (f a).2 ⟨j, by omega, e⟩
      exact ⟨j', by omega, by rw [getD_set hk, if_neg (by omega)]; exact e'⟩
theorem set_self (L : List Int) (t : Nat) (ht : t < L.length) : L.set t (L.getD t 0) = L := by
  refine ext_getD (by simp) fun i hi => ?_
  rw [getD_set ht]
  by_cases e : t = i
  · rw [if_pos e, e]
  · rw [if_neg e]
theorem comp_step {L : List Int} {t : Nat} (h : CompI L L t t) (hs : AscI L L.length) (ht : t < L.length) (he : L.getD t 0 ≠ L.getD (t - 1) 0) : CompI L L (t + 1) (t + 1) := by
  have k := comp_take h hs ht he
  rwa [set_self L t ht] at k
theorem comp_end {L M : List Int} {k : Nat} (h : CompI L M k L.length) : AscL (M.take k) ∧ (M.take k).length = k ∧ ∀ a, a ∈ M.take k ↔ a ∈ L := by
  obtain ⟨⟨a1, a2, a3, a4⟩, b, c, d, f⟩ := h
  have hl : (M.take k).length = k := by rw [List.length_take]; omega
  have hg : ∀ j, j < k → (M.take k).getD j 0 = M.getD j 0 := fun j hj => by simp [List.getD, List.getElem?_take_of_lt hj]
  refine ⟨?_, hl, fun a => ?_⟩
  · rw [AscL, List.pairwise_iff_getElem]
    intro i j hi hj hij
    have e := c i j hij (by omega)
    rw [← hg i (by omega), ← hg j (by omega)] at e
    have gi : (M.take k).getD i 0 = (M.take k)[i]'hi := by rw [List.getD, List.getElem?_eq_getElem hi]; rfl
    have gj : (M.take k).getD j 0 = (M.take k)[j]'hj := by rw [List.getD, List.getElem?_eq_getElem hj]; rfl
    rw [gi, gj] at e
    exact e
  · rw [mem_getD, mem_getD, hl, ← f a]
    exact ⟨fun ⟨j, hj, e⟩ => ⟨j, hj, by rw [← hg j hj]; exact e⟩, fun ⟨j, hj, e⟩ => ⟨j, hj, by rw [hg j hj]; exact e⟩⟩
end Go.Proofs.Ytppbcjpabmllnaa
