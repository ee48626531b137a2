/- Chapter 23 without the program: even places and scales, how uneven a scale is; no scale is more even than an even one, and only even ones are as even. -/
import Derived.Test.YtppbcjpabmllnaaModeFacts2
namespace Go.Proofs.Ytppbcjpabmllnaa
open Go.RowKit Go.Joins
set_option linter.unusedVariables false
/-- EvenPlaces. -/
def EvIn (c s : Int) : Prop := (1 ≤ c ∧ c ≤ 12) ∧ c ≤ s ∧ s ≤ 60
instance (c s : Int) : Decidable (EvIn c s) := by unfold EvIn; infer_instance
def plTo (c s : Nat) : Nat → List Int
  | 0 => []
  | m + 1 => plTo c s m ++ [((m * s / c : Nat) : Int)]
theorem plTo_len (c s : Nat) : ∀ m, (plTo c s m).length = m
  | 0 => rfl
  | m + 1 => by unfold plTo; rw [List.length_append, plTo_len c s m]; rfl
theorem plTo_get (c s : Nat) : ∀ m j, j < m → (plTo c s m).getD j 0 = ((j * s / c : Nat) : Int)
  | 0, j, h => by omega
  | m + 1, j, h => by
    have hl := plTo_len c s m
    unfold plTo
    rcases (show j < m ∨ j = m from by omega) with e | e
    · rw [List.getD_eq_getElem?_getD, List.getElem?_append_left (by omega), ← List.getD_eq_getElem?_getD]
      exact plTo_get c s m j e
    · subst e
      rw [List.getD_eq_getElem?_getD, List.getElem?_append_right (by omega), hl, Nat.sub_self]
      rfl
def evF (c s : Int) : List Int := if EvIn c s then plTo c.toNat s.toNat c.toNat else []
theorem evF_len (c s : Int) : (evF c s).length ≤ 12 := by
  unfold evF
  by_cases h : EvIn c s
  · rw [if_pos h, plTo_len]; have := h.1; omega
  · rw [if_neg h]; simp
def EvAt (c s : Int) (ys : List Int) : Prop := ys = evF c s
/-- EvenScale. -/
def dfTo (c s : Nat) : Nat → List Int
  | 0 => []
  | m + 1 => dfTo c s m ++ [(((m + 1) * s / c : Nat) : Int) - ((m * s / c : Nat) : Int)]
theorem dfTo_len (c s : Nat) : ∀ m, (dfTo c s m).length = m
  | 0 => rfl
  | m + 1 => by unfold dfTo; rw [List.length_append, dfTo_len c s m]; rfl
theorem dfTo_get (c s : Nat) : ∀ m j, j < m → (dfTo c s m).getD j 0 = (((j + 1) * s / c : Nat) : Int) - ((j * s / c : Nat) : Int)
  | 0, j, h => by omega
  | m + 1, j, h => by
    have hl := dfTo_len c s m
    unfold dfTo
    rcases (show j < m ∨ j = m from by omega) with e | e
    · rw [List.getD_eq_getElem?_getD, List.getElem?_append_left (by omega), ← List.getD_eq_getElem?_getD]
      exact dfTo_get c s m j e
    · subst e
      rw [List.getD_eq_getElem?_getD, List.getElem?_append_right (by omega), hl, Nat.sub_self]
      rfl
def dfL (c s : Nat) : List Int := dfTo c s c
def esF (c s : Int) : List Int := if EvIn c s ∧ ScOk (dfL c.toNat s.toNat) then dfL c.toNat s.toNat else []
theorem esF_len (c s : Int) : (esF c s).length ≤ 12 := by
  unfold esF
  by_cases h : EvIn c s ∧ ScOk (dfL c.toNat s.toNat)
  · rw [if_pos h]; exact h.2.1.2
  · rw [if_neg h]; simp
def EsAt (c s : Int) (ys : List Int) : Prop := ys = esF c s
/-- The least and the greatest span of k sizes. -/
def loS (xs : List Int) (k : Nat) : Int := (spsTo xs k xs.length).getD 0 0
def hiS (xs : List Int) (k : Nat) : Int := (spsTo xs k xs.length).getD ((spsTo xs k xs.length).length - 1) 0
theorem asc_get {L : List Int} (h : AscL L) {i j : Nat} (hij : i < j) (hj : j < L.length) : L.getD i 0 < L.getD j 0 := by
  have := List.pairwise_iff_getElem.1 h i j (by omega) hj hij
  rwa [List.getD_eq_getElem?_getD, List.getD_eq_getElem?_getD, List.getElem?_eq_getElem (show i < L.length from by omega), List.getElem?_eq_getElem hj]
theorem mem_get {L : List Int} {x : Int} (h : x ∈ L) : ∃ i, i < L.length ∧ x = L.getD i 0 := by
  obtain ⟨i, hi, e⟩ := List.getElem_of_mem h
  exact ⟨i, hi, by rw [List.getD_eq_getElem?_getD, List.getElem?_eq_getElem hi, Option.getD_some, e]⟩
theorem get_mem {L : List Int} {i : Nat} (h : i < L.length) : L.getD i 0 ∈ L := by
  rw [List.getD_eq_getElem?_getD, List.getElem?_eq_getElem h, Option.getD_some]
  exact List.getElem_mem _
theorem sps_pos {xs : List Int} (h : 0 < xs.length) (k : Nat) : 0 < (spsTo xs k xs.length).length := by
  have : spTo xs 0 k ∈ spsTo xs k xs.length := (sps_mem xs k _ _).2 ⟨0, h, rfl⟩
  exact List.length_pos_of_mem this
/-- Every span lies between, wherever it begins. -/
theorem span_bd {xs : List Int} (h : 0 < xs.length) (k i : Nat) : loS xs k ≤ spTo xs i k ∧ spTo xs i k ≤ hiS xs k := by
  have hm : spTo xs i k ∈ spsTo xs k xs.length := (sps_mem xs k _ _).2 ⟨i % xs.length, Nat.mod_lt _ h, (sp_mod xs i k).symm⟩
  obtain ⟨t, ht, e⟩ := mem_get hm
  have ha := sps_asc xs k xs.length
  have hp := sps_pos h k
  unfold loS hiS
  rw [e]
  constructor
  · rcases (show t = 0 ∨ 0 < t from by omega) with q | q
    · rw [q]; omega
    · have := asc_get ha q ht; omega
  · rcases (show t = (spsTo xs k xs.length).length - 1 ∨ t < (spsTo xs k xs.length).length - 1 from by omega) with q | q
    · rw [q]; omega
    · have := asc_get ha q (by omega); omega
theorem lo_has {xs : List Int} (h : 0 < xs.length) (k : Nat) : ∃ i, i < xs.length ∧ loS xs k = spTo xs i k :=
  (sps_mem xs k _ _).1 (get_mem (sps_pos h k))
theorem hi_has {xs : List Int} (h : 0 < xs.length) (k : Nat) : ∃ i, i < xs.length ∧ hiS xs k = spTo xs i k :=
  (sps_mem xs k _ _).1 (get_mem (by have := sps_pos h k; omega))
/-- All spans of k sizes together are k times the sum. -/
def totS (xs : List Int) (k : Nat) : Nat → Int
  | 0 => 0
  | m + 1 => totS xs k m + spTo xs m k
theorem tot_step (xs : List Int) (k : Nat) : ∀ m, totS xs (k + 1) m = totS xs k m + spTo xs k m
  | 0 => by simp [totS, spTo]
  | m + 1 => by
    have e := tot_step xs k m
    have e1 : totS xs (k + 1) (m + 1) = totS xs (k + 1) m + spTo xs m (k + 1) := rfl
    have e2 : totS xs k (m + 1) = totS xs k m + spTo xs m k := rfl
    rw [e1, e2, e, sp_ring, sp_ring, Nat.add_comm m k]
    omega
theorem tot_all (xs : List Int) : ∀ k, totS xs k xs.length = k * sumTo xs xs.length
  | 0 => by
    have : ∀ m, totS xs 0 m = 0 := by
      intro m
      induction m with
      | zero => rfl
      | succ m ih => show totS xs 0 m + spTo xs m 0 = 0; rw [ih]; rfl
    rw [this]; simp
  | k + 1 => by
    rw [tot_step, tot_all xs k, sp_all]
    rw [Int.natCast_add, Int.add_mul]
    simp
theorem tot_bd {xs : List Int} {k : Nat} {a b : Int} (h : ∀ i, a ≤ spTo xs i k ∧ spTo xs i k ≤ b) : ∀ m : Nat, (m : Int) * a ≤ totS xs k m ∧ totS xs k m ≤ (m : Int) * b
  | 0 => by simp [totS]
  | m + 1 => by
    have e := tot_bd h m
    have f := h m
    have e1 : totS xs k (m + 1) = totS xs k m + spTo xs m k := rfl
    rw [e1, Int.natCast_add, Int.add_mul, Int.add_mul]
    simp only [Int.natCast_one, Int.one_mul]
    omega
/-- The average lies between the least and the greatest span. -/
theorem avg_bd {xs : List Int} (h : 0 < xs.length) (k : Nat) : (xs.length : Int) * loS xs k ≤ k * sumTo xs xs.length ∧ (k : Int) * sumTo xs xs.length ≤ xs.length * hiS xs k := by
  have := tot_bd (span_bd h k) xs.length
  rw [tot_all] at this
  exact this
theorem lo_hi {xs : List Int} (h : 0 < xs.length) (k : Nat) : loS xs k ≤ hiS xs k := by
  have := span_bd h k 0
  omega
/-- IsEven. -/
def EvenS (xs : List Int) : Prop := ScOk xs ∧ ∀ k, k < xs.length + 1 → hiS xs k - loS xs k ≤ 1
instance (xs : List Int) : Decidable (EvenS xs) := by unfold EvenS; infer_instance
theorem even_two {xs : List Int} (h : EvenS xs) : TwoS xs := by
  refine ⟨h.1, fun k hk => ?_⟩
  have hp := sps_pos h.1.1.1 k
  refine Classical.byContradiction fun q => ?_
  have ha := sps_asc xs k xs.length
  have h1 := asc_get ha (show 0 < 1 from by omega) (show 1 < (spsTo xs k xs.length).length from by omega)
  have h2 := asc_get ha (show 1 < (spsTo xs k xs.length).length - 1 from by omega) (by omega)
  have := h.2 k hk
  unfold hiS loS at this
  omega
/-- One where the number of notes does not divide k times the sum. -/
def oneU (n : Nat) (S : Int) (k : Nat) : Int := if ((k : Int) * S) % (n : Int) = 0 then 0 else 1
theorem diff_ge {xs : List Int} (h : 0 < xs.length) (k : Nat) : oneU xs.length (sumTo xs xs.length) k ≤ hiS xs k - loS xs k := by
  have a := avg_bd h k
  have l := lo_hi h k
  unfold oneU
  split
  · omega
  · rename_i hn
    refine Classical.byContradiction fun q => hn ?_
    have e : hiS xs k = loS xs k := by omega
    rw [e] at a
    have e2 : (k : Int) * sumTo xs xs.length = xs.length * loS xs k := by omega
    rw [e2, Int.mul_emod_right]
theorem diff_even {xs : List Int} (h : EvenS xs) {k : Nat} (hk : k < xs.length + 1) : hiS xs k - loS xs k = oneU xs.length (sumTo xs xs.length) k := by
  have h0 : 0 < xs.length := h.1.1.1
  have a := avg_bd h0 k
  have l := lo_hi h0 k
  have d := h.2 k hk
  have g := diff_ge h0 k
  unfold oneU at g ⊢
  by_cases q : ((k : Int) * sumTo xs xs.length) % (xs.length : Int) = 0
  · rw [if_pos q]
    refine Classical.byContradiction fun u => ?_
    have e : hiS xs k = loS xs k + 1 := by omega
    -- the average is a whole number, so it is the least or the greatest span: then all are
    obtain ⟨i, hi, ei⟩ := lo_has h0 k
    obtain ⟨j, hj, ej⟩ := hi_has h0 k
    have strict : ∀ (m : Nat), (i < m → totS xs k m + 1 ≤ (m : Int) * (loS xs k + 1)) ∧ (j < m → (m : Int) * loS xs k + 1 ≤ totS xs k m) := by
      intro m
      induction m with
      | zero => exact ⟨fun q => by omega, fun q => by omega⟩
      | succ m ih =>
        have b1 := tot_bd (span_bd h0 k) m
        have f := span_bd h0 k m
        have e1 : totS xs k (m + 1) = totS xs k m + spTo xs m k := rfl
        rw [e] at b1 f
        rw [e1, Int.natCast_add, Int.add_mul, Int.add_mul]
        simp only [Int.natCast_one, Int.one_mul]
        constructor
        · intro him
          rcases (show i < m ∨ i = m from by omega) with t | t
          · have := ih.1 t; omega
          · subst t; omega
        · intro hjm
          rcases (show j < m ∨ j = m from by omega) with t | t
          · have := ih.2 t; omega
          · subst t; omega
    have s1 := (strict xs.length).1 hi
    have s2 := (strict xs.length).2 hj
    rw [tot_all] at s1 s2
    obtain ⟨t, ht⟩ := Int.dvd_of_emod_eq_zero q
    rw [ht] at s1 s2
    have p1 : (xs.length : Int) * loS xs k < xs.length * t := by omega
    have p2 : (xs.length : Int) * t < xs.length * (loS xs k + 1) := by omega
    have n0 : (0 : Int) < xs.length := by omega
    have r1 := Int.lt_of_mul_lt_mul_left p1 (by omega)
    have r2 := Int.lt_of_mul_lt_mul_left p2 (by omega)
    omega
  · rw [if_neg q] at g ⊢
    omega
/-- Unevenness. -/
def unTo (xs : List Int) : Nat → Int
  | 0 => 0
  | k + 1 => unTo xs k + (hiS xs (k + 1) - loS xs (k + 1))
def unF (xs : List Int) : Int := if ScOk xs then unTo xs xs.length else 0
def baseU (n : Nat) (S : Int) : Nat → Int
  | 0 => 0
  | k + 1 => baseU n S k + oneU n S (k + 1)
theorem un_ge {xs : List Int} (h : 0 < xs.length) : ∀ k, baseU xs.length (sumTo xs xs.length) k ≤ unTo xs k
  | 0 => Int.le_refl _
  | k + 1 => by
    have e := un_ge h k
    have d := diff_ge h (k + 1)
    unfold baseU unTo
    omega
theorem un_even {xs : List Int} (h : EvenS xs) : ∀ k, k ≤ xs.length → unTo xs k = baseU xs.length (sumTo xs xs.length) k
  | 0, _ => rfl
  | k + 1, hk => by
    have e := un_even h k (by omega)
    have d := diff_even h (show k + 1 < xs.length + 1 from by omega)
    unfold baseU unTo
    omega
theorem un_eq {xs : List Int} (h : 0 < xs.length) : ∀ m, unTo xs m = baseU xs.length (sumTo xs xs.length) m → ∀ k, 1 ≤ k → k ≤ m → hiS xs k - loS xs k = oneU xs.length (sumTo xs xs.length) k
  | 0, _, k, h1, h2 => by omega
  | m + 1, e, k, h1, h2 => by
    have g := un_ge h m
    have d := diff_ge h (m + 1)
    unfold baseU unTo at e
    rcases (show k ≤ m ∨ k = m + 1 from by omega) with q | q
    · exact un_eq h m (by omega) k h1 q
    · subst q; omega
/-- A scale is as even as can be just if it is even. -/
theorem even_iff {xs : List Int} (hs : ScOk xs) : EvenS xs ↔ unTo xs xs.length = baseU xs.length (sumTo xs xs.length) xs.length := by
  have h : 0 < xs.length := hs.1.1
  constructor
  · exact fun e => un_even e _ (Nat.le_refl _)
  · intro e
    refine ⟨hs, fun k hk => ?_⟩
    rcases (show k = 0 ∨ 1 ≤ k from by omega) with q | q
    · obtain ⟨i, _, e1⟩ := lo_has h k
      obtain ⟨j, _, e2⟩ := hi_has h k
      subst q
      rw [e1, e2]
      show (0 : Int) - 0 ≤ 1
      omega
    · have := un_eq h _ e k q (by omega)
      rw [this]
      unfold oneU
      split <;> omega
end Go.Proofs.Ytppbcjpabmllnaa
