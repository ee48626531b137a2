/- The keys of a circle in descending order of a number, by insertion: rows as functions of places. -/
import Derived.Test.YtjfeeppbbckneabBestCir
namespace Go.Proofs.Ytjfeeppbbckneab
open Go.RowKit Go.Joins
set_option linter.unusedVariables false
/-- The numbers at the places 0 to n - 1. -/
def rowI (n : Nat) (f : Nat → Int) : List Int := (List.range n).map f
theorem rowI_len (n : Nat) (f : Nat → Int) : (rowI n f).length = n := by simp [rowI]
theorem rowI_get {n i : Nat} (f : Nat → Int) (h : i < n) : (rowI n f).getD i 0 = f i := by simp [rowI, h]
theorem rowI_set {n j : Nat} (f : Nat → Int) (x : Int) (h : j < n) : (intCs (rowI n f)).set j (.int .i64 x) = intCs (rowI n (fun t => if t = j then x else f t)) := by
  refine List.ext_getElem (by simp [rowI, intCs]) fun i h1 h2 => ?_
  simp only [rowI, intCs, List.getElem_set, List.getElem_map, List.getElem_range]
  by_cases hij : j = i
  · subst hij; simp
  · rw [if_neg hij, if_neg (fun h => hij h.symm)]
theorem rowI_congr {n : Nat} {f f' : Nat → Int} (h : ∀ t, t < n → f t = f' t) : rowI n f = rowI n f' := by
  refine List.ext_getElem (by simp [rowI]) fun i h1 h2 => ?_
  simp only [rowI, List.getElem_map, List.getElem_range]
  exact h i (by simpa [rowI] using h1)
theorem rowI_snoc (k : Nat) (f : Nat → Int) : rowI (k + 1) f = rowI k f ++ [f k] := by
  unfold rowI
  rw [List.range_succ, List.map_append]
  rfl
/-- Where x goes among the first j numbers of L: ahead of those with a smaller key. -/
def insAt (K : Int → Int) (L : Nat → Int) (x : Int) : Nat → Nat
  | 0 => 0
  | j + 1 => if K (L j) < K x then insAt K L x j else j + 1
/-- The number x at the place p, those behind it one place further, as far as i. -/
def insF (L : Nat → Int) (x : Int) (i p : Nat) : Nat → Int := fun t => if t < p then L t else if t = p then x else if t ≤ i then L (t - 1) else L t
/-- The keys 0 to i - 1 in order, those behind them as they were. -/
def bestF (K : Int → Int) : Nat → (Nat → Int)
  | 0 => fun t => (t : Int)
  | i + 1 => insF (bestF K i) i i (insAt K (bestF K i) i i)
theorem insAt_le (K : Int → Int) (L : Nat → Int) (x : Int) : ∀ j, insAt K L x j ≤ j
  | 0 => Nat.le_refl _
  | j + 1 => by
    have := insAt_le K L x j
    unfold insAt
    split <;> omega
theorem insAt_yes {K : Int → Int} {L : Nat → Int} {x : Int} {j : Nat} (h : K (L j) < K x) : insAt K L x (j + 1) = insAt K L x j := by
  show (if K (L j) < K x then _ else _) = _
  rw [if_pos h]
theorem insAt_no {K : Int → Int} {L : Nat → Int} {x : Int} {j : Nat} (h : ¬ K (L j) < K x) : insAt K L x (j + 1) = j + 1 := by
  show (if K (L j) < K x then _ else _) = _
  rw [if_neg h]
/-- Ahead of the place there is no smaller key at the end, behind it all are smaller. -/
theorem insAt_says (K : Int → Int) (L : Nat → Int) (x : Int) : ∀ j, (∀ t, insAt K L x j ≤ t → t < j → K (L t) < K x) ∧ (∀ p, insAt K L x j = p + 1 → ¬ K (L p) < K x)
  | 0 => ⟨fun t _ h => by omega, fun p h => by cases h⟩
  | j + 1 => by
    obtain ⟨a, b⟩ := insAt_says K L x j
    by_cases h : K (L j) < K x
    · rw [insAt_yes h]
      refine ⟨fun t h1 h2 => ?_, b⟩
      rcases Nat.lt_or_ge t j with q | q
      · exact a t h1 q
      · obtain rfl : t = j := by omega
        exact h
    · rw [insAt_no h]
      refine ⟨fun t h1 h2 => by omega, fun p hp => ?_⟩
      obtain rfl : j = p := by omega
      exact h
theorem bestF_out (K : Int → Int) : ∀ i t, i ≤ t → bestF K i t = (t : Int)
  | 0, t, _ => rfl
  | i + 1, t, h => by
    have := insAt_le K (bestF K i) i i
    show insF _ _ _ _ t = _
    unfold insF
    rw [if_neg (by omega), if_neg (by omega), if_neg (by omega)]
    exact bestF_out K i t (by omega)
theorem bestF_in (K : Int → Int) : ∀ i t, t < i → ∃ u : Nat, bestF K i t = (u : Int) ∧ u < i
  | 0, t, h => by omega
  | i + 1, t, h => by
    have := insAt_le K (bestF K i) i i
    show ∃ u : Nat, insF _ _ _ _ t = _ ∧ _
    unfold insF
    split
    · obtain ⟨u, e, hu⟩ := bestF_in K i t (by omega)
      exact ⟨u, e, by omega⟩
    · split
      · exact ⟨i, rfl, by omega⟩
      · rw [if_pos (by omega)]
        obtain ⟨u, e, hu⟩ := bestF_in K i (t - 1) (by omega)
        exact ⟨u, e, by omega⟩
/-- All are keys of the circle. -/
theorem bestF_key (K : Int → Int) {i t n : Nat} (hi : i ≤ n) (h : t < n) : ∃ u : Nat, bestF K i t = (u : Int) ∧ u < n := by
  rcases Nat.lt_or_ge t i with q | q
  · obtain ⟨u, e, hu⟩ := bestF_in K i t q
    exact ⟨u, e, by omega⟩
  · exact ⟨t, bestF_out K i t q, h⟩
theorem insF_start (K : Int → Int) (i t : Nat) : insF (bestF K i) i i i t = bestF K i t := by
  unfold insF
  split
  · rfl
  · split
    · rename_i h
      rw [h, bestF_out K i i (Nat.le_refl _)]
    · rw [if_neg (by omega)]
theorem insF_at (L : Nat → Int) (x : Int) (i p : Nat) : insF L x i p p = x := by
  unfold insF
  rw [if_neg (Nat.lt_irrefl _), if_pos rfl]
theorem insF_ahead (L : Nat → Int) (x : Int) (i p : Nat) : insF L x i (p + 1) p = L p := by
  unfold insF
  rw [if_pos (Nat.lt_succ_self _)]
/-- Two neighbours exchanged. -/
theorem insF_step (L : Nat → Int) (x : Int) {i p : Nat} (h : p + 1 ≤ i) (t : Nat) : (if t = p then x else if t = p + 1 then L p else insF L x i (p + 1) t) = insF L x i p t := by
  unfold insF
  by_cases h1 : t = p
  · rw [if_pos h1, if_neg (by omega), if_pos h1]
  · rw [if_neg h1]
    by_cases h2 : t = p + 1
    · rw [if_pos h2, if_neg (by omega), if_neg h1, if_pos (by omega), h2, Nat.add_sub_cancel]
    · rw [if_neg h2]
      by_cases h3 : t < p
      · rw [if_pos (by omega), if_pos h3]
      · rw [if_neg (by omega), if_neg h2, if_neg h3, if_neg h1]
/-- The order of the keys: descending, equal ones as they were. -/
def KeyOrd (K : Int → Int) (L : Nat → Int) (i : Nat) : Prop := ∀ s t, s < t → t < i → K (L t) < K (L s) ∨ (K (L t) = K (L s) ∧ L s < L t)
theorem bestF_ord (K : Int → Int) : ∀ i, KeyOrd K (bestF K i) i
  | 0 => fun s t _ h => by omega
  | i + 1 => by
    have O := bestF_ord K i
    have N := bestF_in K i
    have pl := insAt_le K (bestF K i) i i
    obtain ⟨sa, sb⟩ := insAt_says K (bestF K i) i i
    show KeyOrd K (insF (bestF K i) i i (insAt K (bestF K i) i i)) (i + 1)
    generalize insAt K (bestF K i) i i = p at pl sa sb
    generalize bestF K i = L at O N sa sb
    have ahead : ∀ s, s < p → K i ≤ K (L s) := fun s hs => by
      obtain ⟨q, rfl⟩ : ∃ q, p = q + 1 := ⟨p - 1, by omega⟩
      have h1 := sb q rfl
      rcases Nat.lt_or_ge s q with h | h
      · rcases O s q h (by omega) with h2 | ⟨h2, _⟩ <;> omega
      · obtain rfl : s = q := by omega
        omega
    have small : ∀ s, s < i → L s < (i : Int) := fun s hs => by
      obtain ⟨u, e, hu⟩ := N s hs
      rw [e]; omega
    intro s t hst ht
    unfold insF
    by_cases t1 : t < p
    · rw [if_pos t1, if_pos (by omega)]
      exact O s t hst (by omega)
    · rw [if_neg t1]
      by_cases t2 : t = p
      · rw [if_pos t2, if_pos (by omega)]
        have h1 := ahead s (by omega)
        have h2 := small s (by omega)
        omega
      · rw [if_neg t2, if_pos (show t ≤ i from by omega)]
        have h3 := sa (t - 1) (by omega) (by omega)
        by_cases s1 : s < p
        · rw [if_pos s1]
          have h1 := ahead s s1
          left; omega
        · rw [if_neg s1]
          by_cases s2 : s = p
          · rw [if_pos s2]
            exact .inl h3
          · rw [if_neg s2, if_pos (show s ≤ i from by omega)]
            exact O (s - 1) (t - 1) (by omega) (by omega)
/-- What BestKeys answers. -/
def BkAt (xs : List Int) (ys : List Int) : Prop := (CirOk xs ∧ ys = rowI 12 (bestF (keyC xs) 12)) ∨ (cirB xs = false ∧ ys = [])
theorem bkAt_ex (xs : List Int) : ∃ ys, BkAt xs ys := by
  by_cases h : CirOk xs
  · exact ⟨_, .inl ⟨h, rfl⟩⟩
  · exact ⟨_, .inr ⟨decide_eq_false h, rfl⟩⟩
theorem bkAt_len {xs ys : List Int} (h : BkAt xs ys) : ys.length ≤ 12 := by
  rcases h with ⟨_, rfl⟩ | ⟨_, rfl⟩
  · rw [rowI_len]; omega
  · simp
end Go.Proofs.Ytjfeeppbbckneab
