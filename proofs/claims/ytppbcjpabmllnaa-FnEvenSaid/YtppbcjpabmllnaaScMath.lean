/- Chapter 21 without the program: valid scales, spans around the octave, their different values in ascending order. -/
import Derived.Test.YtppbcjpabmllnaaCirOk
namespace Go.Proofs.Ytppbcjpabmllnaa
open Go.RowKit Go.Joins
set_option linter.unusedVariables false
/-- ScaleOk. -/
def ScOk (xs : List Int) : Prop := (1 ≤ xs.length ∧ xs.length ≤ 12) ∧ (∀ j, j < xs.length → 1 ≤ xs.getD j 0 ∧ xs.getD j 0 ≤ 20) ∧ sumTo xs xs.length ≤ 60
instance (xs : List Int) : Decidable (ScOk xs) := by unfold ScOk; infer_instance
def scB (xs : List Int) : Bool := decide (ScOk xs)
/-- Sums of sizes in a range. -/
theorem sum_bd20 {xs : List Int} {n : Nat} (h : ∀ j, j < n → 1 ≤ xs.getD j 0 ∧ xs.getD j 0 ≤ 20) : ∀ k, k ≤ n → 0 ≤ sumTo xs k ∧ sumTo xs k ≤ 20 * k
  | 0, _ => by simp [sumTo]
  | k + 1, hk => by
    have e := sum_bd20 h k (by omega)
    have f := h k (by omega)
    unfold sumTo
    omega
/-- k sizes from the one with the index i on, the first behind the last. -/
def spTo (xs : List Int) (i : Nat) : Nat → Int
  | 0 => 0
  | k + 1 => spTo xs i k + xs.getD ((i + k) % xs.length) 0
theorem sp_bd {xs : List Int} (h : ScOk xs) (i : Nat) : ∀ k, 0 ≤ spTo xs i k ∧ spTo xs i k ≤ 20 * k
  | 0 => by simp [spTo]
  | k + 1 => by
    have e := sp_bd h i k
    have f := h.2.1 ((i + k) % xs.length) (Nat.mod_lt _ h.1.1)
    unfold spTo
    omega
theorem sp_zero (xs : List Int) : ∀ k, k ≤ xs.length → spTo xs 0 k = sumTo xs k
  | 0, _ => rfl
  | k + 1, h => by
    unfold spTo sumTo
    rw [sp_zero xs k (by omega), Nat.zero_add, Nat.mod_eq_of_lt (show k < xs.length from by omega)]
theorem sp_add (xs : List Int) (i m : Nat) : ∀ n, spTo xs i (m + n) = spTo xs i m + spTo xs (i + m) n
  | 0 => by simp [spTo]
  | n + 1 => by
    have e := sp_add xs i m n
    show spTo xs i (m + n) + xs.getD ((i + (m + n)) % xs.length) 0 = spTo xs i m + (spTo xs (i + m) n + xs.getD ((i + m + n) % xs.length) 0)
    rw [e, show i + (m + n) = i + m + n from by omega]
    omega
theorem sp_mod (xs : List Int) (i : Nat) : ∀ k, spTo xs (i % xs.length) k = spTo xs i k
  | 0 => rfl
  | k + 1 => by
    unfold spTo
    rw [sp_mod xs i k, Nat.mod_add_mod]
theorem sp_shift (xs : List Int) (i : Nat) : ∀ k, spTo xs (i + 1) k + xs.getD (i % xs.length) 0 = spTo xs i (k + 1)
  | 0 => by simp [spTo]
  | k + 1 => by
    have e := sp_shift xs i k
    have a : spTo xs i (k + 1 + 1) = spTo xs i (k + 1) + xs.getD ((i + (k + 1)) % xs.length) 0 := rfl
    have b : spTo xs (i + 1) (k + 1) = spTo xs (i + 1) k + xs.getD ((i + 1 + k) % xs.length) 0 := rfl
    rw [a, b, ← e, show i + 1 + k = i + (k + 1) from by omega]
    omega
theorem sp_all (xs : List Int) : ∀ i, spTo xs i xs.length = sumTo xs xs.length
  | 0 => sp_zero xs _ (Nat.le_refl _)
  | i + 1 => by
    have e := sp_shift xs i xs.length
    have a : spTo xs i (xs.length + 1) = spTo xs i xs.length + xs.getD ((i + xs.length) % xs.length) 0 := rfl
    rw [a, Nat.add_mod_right, sp_all xs i] at e
    omega
/-- SpanAt. -/
def SpIn (xs : List Int) (i c : Int) : Prop := ScOk xs ∧ (0 ≤ i ∧ i < xs.length) ∧ 0 ≤ c ∧ c ≤ xs.length
instance (xs : List Int) (i c : Int) : Decidable (SpIn xs i c) := by unfold SpIn; infer_instance
def spanF (xs : List Int) (i c : Int) : Int := if SpIn xs i c then spTo xs i.toNat c.toNat else 0
theorem span_yes {xs : List Int} {i c : Nat} (h : ScOk xs) (hi : i < xs.length) (hc : c ≤ xs.length) : spanF xs i c = spTo xs i c := by
  unfold spanF
  rw [if_pos ⟨h, by omega, by omega⟩, Int.toNat_natCast, Int.toNat_natCast]
theorem span_no {xs : List Int} {i c : Int} (h : ¬ SpIn xs i c) : spanF xs i c = 0 := if_neg h
/-- ScaleSum. -/
def sumF (xs : List Int) : Int := if ScOk xs then sumTo xs xs.length else 0
/-- A number laid into an ascending row, once. -/
def insU (x : Int) : List Int → List Int
  | [] => [x]
  | y :: ys => if y < x then y :: insU x ys else if y = x then y :: ys else x :: y :: ys
theorem insU_mem (x a : Int) : ∀ L, a ∈ insU x L ↔ a = x ∨ a ∈ L
  | [] => by simp [insU]
  | y :: ys => by
    have e := insU_mem x a ys
    unfold insU
    by_cases h1 : y < x
    · rw [if_pos h1, List.mem_cons, e, List.mem_cons]
      constructor
      · rintro (h | h | h)
        · exact .inr (.inl h)
        · exact .inl h
        · exact .inr (.inr h)
      · rintro (h | h | h)
        · exact .inr (.inl h)
        · exact .inl h
        · exact .inr (.inr h)
    · rw [if_neg h1]
      by_cases h2 : y = x
      · rw [if_pos h2]
        constructor
        · exact .inr
        · rintro (h | h)
          · rw [h, ← h2]; exact List.mem_cons_self
          · exact h
      · rw [if_neg h2, List.mem_cons]
/-- Strictly ascending. -/
def AscL (L : List Int) : Prop := L.Pairwise (· < ·)
theorem insU_asc (x : Int) : ∀ L, AscL L → AscL (insU x L)
  | [], _ => by simp [insU, AscL]
  | y :: ys, h => by
    have hc := List.pairwise_cons.1 h
    unfold insU
    by_cases h1 : y < x
    · rw [if_pos h1]
      refine List.pairwise_cons.2 ⟨fun a ha => ?_, insU_asc x ys hc.2⟩
      rcases (insU_mem x a ys).1 ha with e | e
      · rw [e]; exact h1
      · exact hc.1 a e
    · rw [if_neg h1]
      by_cases h2 : y = x
      · rw [if_pos h2]; exact h
      · rw [if_neg h2]
        have h3 : x < y := by omega
        refine List.pairwise_cons.2 ⟨fun a ha => ?_, h⟩
        rcases List.mem_cons.1 ha with e | e
        · rw [e]; exact h3
        · have := hc.1 a e; omega
theorem insU_len (x : Int) : ∀ L, (insU x L).length ≤ L.length + 1
  | [] => by simp [insU]
  | y :: ys => by
    have e := insU_len x ys
    unfold insU
    by_cases h1 : y < x
    · rw [if_pos h1]; simp only [List.length_cons]; omega
    · rw [if_neg h1]
      by_cases h2 : y = x
      · rw [if_pos h2]; omega
      · rw [if_neg h2]; simp only [List.length_cons]; omega
/-- Ascending rows with the same numbers are the same. -/
theorem asc_same : ∀ {L M : List Int}, AscL L → AscL M → (∀ a, a ∈ L ↔ a ∈ M) → L = M
  | [], [], _, _, _ => rfl
  | [], y :: ys, _, _, h => absurd ((h y).2 List.mem_cons_self) (by simp)
  | x :: xs, [], _, _, h => absurd ((h x).1 List.mem_cons_self) (by simp)
  | x :: xs, y :: ys, hl, hm, h => by
    have a := List.pairwise_cons.1 hl
    have b := List.pairwise_cons.1 hm
    have e : x = y := by
      rcases List.mem_cons.1 ((h x).1 List.mem_cons_self) with p | p
      · exact p
      · rcases List.mem_cons.1 ((h y).2 List.mem_cons_self) with q | q
        · exact q.symm
        · have := a.1 y q; have := b.1 x p; omega
    subst e
    rw [asc_same a.2 b.2 fun c => ?_]
    constructor
    · intro hc
      rcases List.mem_cons.1 ((h c).1 (List.mem_cons_of_mem _ hc)) with p | p
      · have := a.1 c hc; omega
      · exact p
    · intro hc
      rcases List.mem_cons.1 ((h c).2 (List.mem_cons_of_mem _ hc)) with p | p
      · have := b.1 c hc; omega
      · exact p
/-- A row with one number more at the place i. -/
def gapL (L : List Int) (i : Nat) (y : Int) : List Int := L.take i ++ y :: L.drop i
theorem gap_len {L : List Int} {i : Nat} {y : Int} (h : i ≤ L.length) : (gapL L i y).length = L.length + 1 := by
  unfold gapL
  rw [List.length_append, List.length_take, List.length_cons, List.length_drop]
  omega
theorem gap_set {L : List Int} {i : Nat} {y z : Int} (h : i ≤ L.length) : (gapL L i y).set i z = gapL L i z := by
  unfold gapL
  rw [List.set_append_right _ _ (by rw [List.length_take]; omega), List.length_take, Nat.min_eq_left h, Nat.sub_self, List.set_cons_zero]
theorem gap_get {L : List Int} {i : Nat} {y : Int} (h : i < L.length) : (gapL L (i + 1) y).getD i 0 = L.getD i 0 := by
  unfold gapL
  rw [List.getD_eq_getElem?_getD, List.getD_eq_getElem?_getD, List.getElem?_append_left (by rw [List.length_take]; omega), List.getElem?_take_of_lt (by omega)]
theorem gap_prev {L : List Int} {i : Nat} (h : i < L.length) : gapL L (i + 1) (L.getD i 0) = gapL L i (L.getD i 0) := by
  unfold gapL
  have e : L.getD i 0 = L[i] := by rw [List.getD_eq_getElem?_getD, List.getElem?_eq_getElem h, Option.getD_some]
  rw [e, List.take_succ_eq_append_getElem h, List.append_assoc, List.singleton_append, List.drop_eq_getElem_cons h]
theorem gap_end {L : List Int} {y : Int} : gapL L L.length y = L ++ [y] := by
  unfold gapL
  rw [List.take_length, List.drop_length]
/-- The place of a number in an ascending row. -/
def PosU (L : List Int) (x : Int) (p : Nat) : Prop := p ≤ L.length ∧ (∀ j, j < p → L.getD j 0 < x) ∧ ∀ j, p ≤ j → j < L.length → x ≤ L.getD j 0
theorem pos_ex : ∀ (L : List Int) (x : Int), AscL L → ∃ p, PosU L x p
  | [], x, _ => ⟨0, Nat.le_refl _, fun j hj => by omega, fun j _ hj => by simp at hj⟩
  | y :: ys, x, h => by
    have hc := List.pairwise_cons.1 h
    by_cases hy : y < x
    · obtain ⟨p, h1, h2, h3⟩ := pos_ex ys x hc.2
      refine ⟨p + 1, by simp only [List.length_cons]; omega, fun j hj => ?_, fun j h4 h5 => ?_⟩
      · cases j with
        | zero => exact hy
        | succ j => exact h2 j (by omega)
      · cases j with
        | zero => omega
        | succ j => exact h3 j (by omega) (by simp only [List.length_cons] at h5; omega)
    · refine ⟨0, Nat.zero_le _, fun j hj => by omega, fun j _ h5 => ?_⟩
      cases j with
      | zero => show x ≤ y; omega
      | succ j =>
        have hj : j < ys.length := by simp only [List.length_cons] at h5; omega
        have hm : ys.getD j 0 ∈ ys := by rw [List.getD_eq_getElem?_getD, List.getElem?_eq_getElem hj, Option.getD_some]; exact List.getElem_mem _
        have := hc.1 _ hm
        show x ≤ ys.getD j 0
        omega
theorem insU_have : ∀ {L : List Int} {x : Int} {p : Nat}, PosU L x p → p < L.length → L.getD p 0 = x → insU x L = L
  | [], x, p, _, h, _ => by simp at h
  | y :: ys, x, 0, _, _, e => by
    have e' : y = x := e
    unfold insU
    rw [if_neg (by omega), if_pos e']
  | y :: ys, x, p + 1, h, hl, e => by
    have hy : y < x := h.2.1 0 (by omega)
    unfold insU
    rw [if_pos hy, insU_have (p := p) ⟨by have := h.1; simp only [List.length_cons] at this; omega, fun j hj => h.2.1 (j + 1) (by omega), fun j h1 h2 => h.2.2 (j + 1) (by omega) (by simp only [List.length_cons]; omega)⟩ (by simp only [List.length_cons] at hl; omega) e]
theorem insU_gap : ∀ {L : List Int} {x : Int} {p : Nat}, PosU L x p → ¬ (p < L.length ∧ L.getD p 0 = x) → insU x L = gapL L p x
  | [], x, p, h, _ => by
    have : p = 0 := by have := h.1; simp at this; omega
    subst this; rfl
  | y :: ys, x, 0, h, n => by
    have h1 : x ≤ y := h.2.2 0 (Nat.le_refl _) (by simp)
    have h2 : ¬ y = x := fun e => n ⟨by simp, e⟩
    unfold insU
    rw [if_neg (by omega), if_neg h2]
    rfl
  | y :: ys, x, p + 1, h, n => by
    have hy : y < x := h.2.1 0 (by omega)
    unfold insU
    rw [if_pos hy, insU_gap (p := p) ⟨by have := h.1; simp only [List.length_cons] at this; omega, fun j hj => h.2.1 (j + 1) (by omega), fun j h1 h2 => h.2.2 (j + 1) (by omega) (by simp only [List.length_cons]; omega)⟩ (fun q => n ⟨by simp only [List.length_cons]; omega, q.2⟩)]
    rfl
/-- The different spans of c sizes among the first k keys. -/
def spsTo (xs : List Int) (c : Nat) : Nat → List Int
  | 0 => []
  | k + 1 => insU (spTo xs k c) (spsTo xs c k)
theorem sps_asc (xs : List Int) (c : Nat) : ∀ k, AscL (spsTo xs c k)
  | 0 => List.Pairwise.nil
  | k + 1 => insU_asc _ _ (sps_asc xs c k)
theorem sps_mem (xs : List Int) (c : Nat) (a : Int) : ∀ k, a ∈ spsTo xs c k ↔ ∃ i, i < k ∧ a = spTo xs i c
  | 0 => by simp [spsTo]
  | k + 1 => by
    unfold spsTo
    rw [insU_mem, sps_mem xs c a k]
    constructor
    · rintro (h | ⟨i, hi, h⟩)
      · exact ⟨k, by omega, h⟩
      · exact ⟨i, by omega, h⟩
    · rintro ⟨i, hi, h⟩
      rcases (show i = k ∨ i < k from by omega) with e | e
      · subst e; exact .inl h
      · exact .inr ⟨i, e, h⟩
theorem sps_len (xs : List Int) (c : Nat) : ∀ k, (spsTo xs c k).length ≤ k
  | 0 => by simp [spsTo]
  | k + 1 => by
    have e := sps_len xs c k
    have f := insU_len (spTo xs k c) (spsTo xs c k)
    unfold spsTo
    omega
/-- SpansOf. -/
def SpsIn (xs : List Int) (c : Int) : Prop := ScOk xs ∧ 0 ≤ c ∧ c ≤ xs.length
instance (xs : List Int) (c : Int) : Decidable (SpsIn xs c) := by unfold SpsIn; infer_instance
def spsL (xs : List Int) (c : Int) : List Int := if SpsIn xs c then spsTo xs c.toNat xs.length else []
theorem sps_yes {xs : List Int} {c : Nat} (h : ScOk xs) (hc : c ≤ xs.length) : spsL xs c = spsTo xs c xs.length := by
  unfold spsL
  rw [if_pos ⟨h, by omega, by omega⟩, Int.toNat_natCast]
theorem sps_no {xs : List Int} {c : Int} (h : ¬ SpsIn xs c) : spsL xs c = [] := if_neg h
theorem spsL_len (xs : List Int) (c : Int) : (spsL xs c).length ≤ 12 := by
  unfold spsL
  by_cases h : SpsIn xs c
  · rw [if_pos h]
    have := sps_len xs c.toNat xs.length
    have := h.1.1
    omega
  · rw [if_neg h]; simp
/-- Of all sizes there is one span. -/
theorem sps_whole {xs : List Int} (h : ScOk xs) : spsTo xs xs.length xs.length = [sumTo xs xs.length] := by
  refine asc_same (sps_asc _ _ _) (by simp [AscL]) fun a => ?_
  rw [sps_mem, List.mem_singleton]
  constructor
  · rintro ⟨i, _, e⟩
    rw [e, sp_all]
  · intro e
    exact ⟨0, h.1.1, by rw [e, sp_all]⟩
/-- HasTwoSizes. -/
def TwoS (xs : List Int) : Prop := ScOk xs ∧ ∀ k, k < xs.length + 1 → (spsTo xs k xs.length).length ≤ 2
instance (xs : List Int) : Decidable (TwoS xs) := by unfold TwoS; infer_instance
def twoB (xs : List Int) : Bool := decide (TwoS xs)
theorem two_end {xs : List Int} (h : ∀ j, j < xs.length + 1 → (spsL xs j).length ≤ 2) : twoB xs = scB xs := by
  by_cases hs : ScOk xs
  · rw [show scB xs = true from decide_eq_true hs]
    exact decide_eq_true ⟨hs, fun k hk => by have := h k hk; rwa [sps_yes hs (by omega)] at this⟩
  · rw [show scB xs = false from decide_eq_false hs]
    exact decide_eq_false (fun q => hs q.1)
theorem two_bad {xs : List Int} {j : Nat} (hj : j < xs.length + 1) (h : ¬ (spsL xs j).length ≤ 2) : twoB xs = false :=
  decide_eq_false (fun q : TwoS xs => h (by rw [sps_yes q.1 (by omega)]; exact q.2 j hj))
/-- MajorScale. -/
def majL : List Int := [2, 2, 1, 2, 2, 2, 1]
theorem maj_two : twoB majL = true := by decide +kernel
theorem maj_ok : ScOk majL := by decide
/-- What the functions answer, a word each. -/
def ScAt (xs : List Int) (y : Bool) : Prop := y = scB xs
theorem scAt_ex (xs : List Int) : ∃ y, ScAt xs y := ⟨_, rfl⟩
def SumAt21 (xs : List Int) (y : Int) : Prop := y = sumF xs
theorem sumAt_ex (xs : List Int) : ∃ y, SumAt21 xs y := ⟨_, rfl⟩
def TwoAt (xs : List Int) (y : Bool) : Prop := y = twoB xs
theorem twoAt_ex (xs : List Int) : ∃ y, TwoAt xs y := ⟨_, rfl⟩
def SpanAt21 (xs : List Int) (i k y : Int) : Prop := y = spanF xs i k
theorem spanAt_ex (xs : List Int) (i k : Int) : ∃ y, SpanAt21 xs i k y := ⟨_, rfl⟩
def SpsAt (xs : List Int) (i : Int) (ys : List Int) : Prop := ys = spsL xs i
theorem spsAt_ex (xs : List Int) (i : Int) : ∃ ys, SpsAt xs i ys := ⟨_, rfl⟩
theorem spsAt_len {xs : List Int} {i : Int} {ys : List Int} (h : SpsAt xs i ys) : ys.length ≤ 12 := by rw [h]; exact spsL_len xs i
end Go.Proofs.Ytppbcjpabmllnaa
