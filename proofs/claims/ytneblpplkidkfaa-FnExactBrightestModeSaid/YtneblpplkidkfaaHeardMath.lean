/- The thirds of a circle as a list; circles that are heard, the nearest one (chapter 15), without the program. -/
import Derived.Test.YtneblpplkidkfaaSFamily
import Derived.Test.YtneblpplkidkfaaThirdParts
import Derived.Test.YtneblpplkidkfaaIntRows
import Derived.Deep.RegionHeld3
namespace Go.Proofs.Ytneblpplkidkfaa
open Go.RowKit Go.Joins
set_option linter.unusedVariables false
/-- The thirds of the first k keys. -/
def thTo (xs : List Int) (k : Nat) : List Int := (List.range k).map fun i => cycTo xs i 4
theorem thTo_len (xs : List Int) (k : Nat) : (thTo xs k).length = k := by simp [thTo]
theorem thTo_succ (xs : List Int) (k : Nat) : thTo xs (k + 1) = thTo xs k ++ [cycTo xs k 4] := by simp [thTo, List.range_succ]
theorem thTo_at (xs : List Int) {k i : Nat} (h : i < k) : (thTo xs k).getD i 0 = cycTo xs i 4 := by simp [thTo, h]
def thirdsL (xs : List Int) : List Int := if CirOk xs then thTo xs 12 else []
theorem thirdsL_ok {xs : List Int} (h : CirOk xs) : thirdsL xs = thTo xs 12 := if_pos h
theorem thirdsL_no {xs : List Int} (h : ¬ CirOk xs) : thirdsL xs = [] := if_neg h
theorem thirdsL_len (xs : List Int) : (thirdsL xs).length ≤ 12 := by
  unfold thirdsL; split
  · rw [thTo_len]; omega
  · simp
/-- The circles among the first k that have the thirds. -/
def heardL (L : List (List Int)) (ts : List Int) : Nat → List (List Int)
  | 0 => []
  | k + 1 => if thirdsL (lAt L k) = ts then heardL L ts k ++ [lAt L k] else heardL L ts k
theorem heardL_len (L : List (List Int)) (ts : List Int) : ∀ k, (heardL L ts k).length ≤ k
  | 0 => by simp [heardL]
  | k + 1 => by
    have := heardL_len L ts k
    unfold heardL; split
    · rw [List.length_append]; simp; omega
    · omega
theorem heardL_mem {L : List (List Int)} {ts x : List Int} : ∀ {k : Nat}, x ∈ heardL L ts k → ∃ i, i < k ∧ x = lAt L i ∧ thirdsL x = ts
  | 0, h => by simp [heardL] at h
  | k + 1, h => by
    unfold heardL at h
    split at h
    · rename_i ht
      rcases List.mem_append.1 h with q | q
      · obtain ⟨i, hi, e, et⟩ := heardL_mem q
        exact ⟨i, by omega, e, et⟩
      · simp at q
        exact ⟨k, by omega, q, by rw [q]; exact ht⟩
    · obtain ⟨i, hi, e, et⟩ := heardL_mem h
      exact ⟨i, by omega, e, et⟩
theorem heardL_some {L : List (List Int)} {ts : List Int} {i : Nat} (ht : thirdsL (lAt L i) = ts) : ∀ {k : Nat}, i < k → 0 < (heardL L ts k).length
  | 0, h => by omega
  | k + 1, h => by
    unfold heardL
    rcases Nat.lt_or_ge i k with q | q
    · have := heardL_some ht q
      split
      · rw [List.length_append]; omega
      · exact this
    · obtain rfl : i = k := by omega
      rw [if_pos ht, List.length_append]; simp
def heardOf (p : Int) (ts : List Int) : List (List Int) := if ts.length = 12 then heardL (famOf p) ts (famOf p).length else []
theorem lAt_mem {L : List (List Int)} {i : Nat} (h : i < L.length) : lAt L i ∈ L := by
  have e : lAt L i = L[i] := by unfold lAt; rw [List.getD_eq_getElem?_getD, List.getElem?_eq_getElem h]; rfl
  rw [e]; exact List.getElem_mem h
theorem heardOf_len (p : Int) (ts : List Int) : (heardOf p ts).length ≤ 4096 := by
  unfold heardOf; split
  · exact Nat.le_trans (heardL_len _ _ _) (famOf_len p)
  · simp
theorem heardOf_at {p : Int} {ts : List Int} {i : Nat} (h : i < (heardOf p ts).length) : ts.length = 12 ∧ ∃ j, j < (famOf p).length ∧ lAt (heardOf p ts) i = lAt (famOf p) j ∧ thirdsL (lAt (heardOf p ts) i) = ts := by
  have hm := lAt_mem h
  generalize lAt (heardOf p ts) i = x at hm
  unfold heardOf at hm
  split at hm
  · rename_i h12
    obtain ⟨j, hj, e, et⟩ := heardL_mem hm
    exact ⟨h12, j, hj, e, et⟩
  · simp at hm
theorem heardOf_each (p : Int) (ts : List Int) : ∀ i, i < (heardOf p ts).length → (lAt (heardOf p ts) i).length = 12 := fun i hi => by
  obtain ⟨_, j, hj, e, _⟩ := heardOf_at hi
  rw [e]; exact famOf_each p j hj
/-- How far two lists are apart, over the first k places. -/
def dTo (a b : List Int) : Nat → Int
  | 0 => 0
  | k + 1 => dTo a b k + max (a.getD k 0 - b.getD k 0) (b.getD k 0 - a.getD k 0)
theorem dTo_nonneg (a b : List Int) : ∀ k, 0 ≤ dTo a b k
  | 0 => Int.le_refl _
  | k + 1 => by have := dTo_nonneg a b k; unfold dTo; omega
theorem dTo_bd {a b : List Int} {m M : Int} (h : ∀ i, (m ≤ a.getD i 0 ∧ a.getD i 0 ≤ M) ∧ m ≤ b.getD i 0 ∧ b.getD i 0 ≤ M) : ∀ k : Nat, dTo a b k ≤ k * (M - m)
  | 0 => by simp [dTo]
  | k + 1 => by
    have h1 := dTo_bd h k
    have h2 := h k
    unfold dTo
    rw [Int.natCast_succ, Int.add_mul, Int.one_mul]
    generalize (k : Int) * (M - m) = z at h1 ⊢
    omega
theorem dTo_mono (a b : List Int) (i : Nat) : ∀ d, dTo a b i ≤ dTo a b (i + d)
  | 0 => Int.le_refl _
  | d + 1 => by have := dTo_mono a b i d; show dTo a b i ≤ dTo a b (i + d) + _; omega
theorem dTo_zero {a b : List Int} : ∀ {k : Nat}, dTo a b k = 0 ↔ ∀ i, i < k → a.getD i 0 = b.getD i 0
  | 0 => ⟨fun _ i hi => by omega, fun _ => rfl⟩
  | k + 1 => by
    have ih := dTo_zero (a := a) (b := b) (k := k)
    have hn := dTo_nonneg a b k
    constructor
    · intro h i hi
      unfold dTo at h
      rcases (show i < k ∨ i = k from by omega) with q | rfl
      · exact ih.1 (by omega) i q
      · omega
    · intro h
      have h1 := ih.2 (fun i hi => h i (by omega))
      have h2 := h k (by omega)
      unfold dTo
      omega
theorem list_ext12 {a b : List Int} (ha : a.length = 12) (hb : b.length = 12) : dTo a b 12 = 0 ↔ a = b := by
  rw [dTo_zero]
  constructor
  · intro h
    refine List.ext_getElem (by omega) fun i h1 h2 => ?_
    have := h i (by omega)
    rw [List.getD_eq_getElem?_getD, List.getD_eq_getElem?_getD, List.getElem?_eq_getElem h1, List.getElem?_eq_getElem h2] at this
    exact this
  · rintro rfl i _
    rfl
/-- The nearest circle's place among the first n: the first of the least. -/
def NearTo (f : Nat → Int) (n i : Nat) : Prop := i < n ∧ (∀ j, j < i → f i < f j) ∧ ∀ j, j < n → f i ≤ f j
theorem near_ex1 (f : Nat → Int) : ∀ n, 0 < n → ∃ i, NearTo f n i
  | 0, h => by omega
  | n + 1, _ => by
    rcases Nat.eq_zero_or_pos n with h0 | h0
    · subst h0
      exact ⟨0, by omega, fun j hj => by omega, fun j hj => by
        obtain rfl : j = 0 := by omega
        exact Int.le_refl _⟩
    · obtain ⟨i, h1, h2, h3⟩ := near_ex1 f n h0
      by_cases hc : f n < f i
      · refine ⟨n, by omega, fun j hj => by have := h3 j hj; omega, fun j hj => ?_⟩
        rcases (show j < n ∨ j = n from by omega) with q | rfl
        · have := h3 j q; omega
        · omega
      · refine ⟨i, by omega, h2, fun j hj => ?_⟩
        rcases (show j < n ∨ j = n from by omega) with q | rfl
        · exact h3 j q
        · omega
theorem near_unique1 {f : Nat → Int} {n i j : Nat} (h : NearTo f n i) (g : NearTo f n j) : i = j := by
  rcases (show i < j ∨ i = j ∨ j < i from by omega) with q | q | q
  · have := g.2.1 i q; have := h.2.2 j g.1; omega
  · exact q
  · have := h.2.1 j q; have := g.2.2 i h.1; omega
/-- The one step of the search. -/
theorem near_step {f : Nat → Int} {n i : Nat} (h : NearTo f n i) : NearTo f (n + 1) (if f n < f i then n else i) := by
  obtain ⟨h1, h2, h3⟩ := h
  split
  · refine ⟨by omega, fun j hj => by have := h3 j hj; omega, fun j hj => ?_⟩
    rcases (show j < n ∨ j = n from by omega) with q | rfl
    · have := h3 j q; omega
    · omega
  · refine ⟨by omega, h2, fun j hj => ?_⟩
    rcases (show j < n ∨ j = n from by omega) with q | rfl
    · exact h3 j q
    · omega
/-- Thirds that may be asked. -/
def ThirdsIn (ts : List Int) : Prop := ts.length = 12 ∧ ∀ k, k < 12 → -200 ≤ ts.getD k 0 ∧ ts.getD k 0 ≤ 200
instance (ts : List Int) : Decidable (ThirdsIn ts) := by unfold ThirdsIn; infer_instance
def disF (L : List (List Int)) (ts : List Int) (k : Nat) : Int := dTo (thirdsL (lAt L k)) ts (thirdsL (lAt L k)).length
def NearAt15 (p : Int) (ts xs : List Int) (d : Int) (z : Bool) : Prop :=
  (z = false ∧ xs = [] ∧ d = 0 ∧ ¬ (0 < (famOf p).length ∧ ThirdsIn ts)) ∨
  (z = true ∧ (0 < (famOf p).length ∧ ThirdsIn ts) ∧ ∃ i, NearTo (disF (famOf p) ts) (famOf p).length i ∧ xs = lAt (famOf p) i ∧ d = disF (famOf p) ts i)
theorem near15_ex (p : Int) (ts : List Int) : ∃ xs d z, NearAt15 p ts xs d z := by
  by_cases h : 0 < (famOf p).length ∧ ThirdsIn ts
  · obtain ⟨i, hi⟩ := near_ex1 (disF (famOf p) ts) _ h.1
    exact ⟨_, _, _, .inr ⟨rfl, h, i, hi, rfl, rfl⟩⟩
  · exact ⟨_, _, _, .inl ⟨rfl, rfl, rfl, h⟩⟩
theorem near15_unique {p : Int} {ts xs ys : List Int} {d e : Int} {z y : Bool} (h : NearAt15 p ts xs d z) (g : NearAt15 p ts ys e y) : xs = ys ∧ d = e ∧ z = y := by
  rcases h with ⟨rfl, rfl, rfl, hn⟩ | ⟨rfl, hc, i, hi, rfl, rfl⟩
  · rcases g with ⟨rfl, rfl, rfl, _⟩ | ⟨_, hc, _⟩
    · exact ⟨rfl, rfl, rfl⟩
    · exact absurd hc hn
  · rcases g with ⟨_, _, _, hn⟩ | ⟨rfl, _, j, hj, rfl, rfl⟩
    · exact absurd hc hn
    · obtain rfl := near_unique1 hi hj
      exact ⟨rfl, rfl, rfl⟩
theorem near15_len {p : Int} {ts xs : List Int} {d : Int} {z : Bool} (h : NearAt15 p ts xs d z) : xs.length ≤ 12 := by
  rcases h with ⟨_, rfl, _⟩ | ⟨_, _, i, hi, rfl, _⟩
  · simp
  · rw [famOf_each p i hi.1]; omega
/-- How far two circles are apart. -/
def DiffAt (a b : List Int) (d : Int) : Prop := ((CirOk a ∧ CirOk b) ∧ d = dTo (thTo a 12) (thTo b 12) 12) ∨ (¬ (CirOk a ∧ CirOk b) ∧ d = -1)
theorem diffAt_ex (a b : List Int) : ∃ d, DiffAt a b d := by
  by_cases h : CirOk a ∧ CirOk b
  · exact ⟨_, .inl ⟨h, rfl⟩⟩
  · exact ⟨_, .inr ⟨h, rfl⟩⟩
theorem thTo_in {xs : List Int} (h : CirOk xs) (i : Nat) : 0 ≤ (thTo xs 12).getD i 0 ∧ (thTo xs 12).getD i 0 ≤ 12 := by
  rcases Nat.lt_or_ge i 12 with q | q
  · rw [thTo_at xs q]; exact cyc_bd h i (by omega)
  · rw [List.getD_eq_getElem?_getD, List.getElem?_eq_none (by rw [thTo_len]; exact q)]; simp
/-- Circles with the same thirds differ by the same in every fourth place. -/
theorem fourth {a b : List Int} (h : thTo a 12 = thTo b 12) {i : Nat} (hi : i < 12) : a.getD i 0 - b.getD i 0 = a.getD ((i + 4) % 12) 0 - b.getD ((i + 4) % 12) 0 := by
  have e : ∀ k, k < 12 → cycTo a k 4 = cycTo b k 4 := fun k hk => by rw [← thTo_at a hk, ← thTo_at b hk, h]
  have s1 : cycTo a (i + 1) 4 + a.getD (i % 12) 0 = cycTo a i 5 := cyc_shift a i 4
  have s2 : cycTo b (i + 1) 4 + b.getD (i % 12) 0 = cycTo b i 5 := cyc_shift b i 4
  have n1 : cycTo a i 5 = cycTo a i 4 + a.getD ((i + 4) % 12) 0 := rfl
  have n2 : cycTo b i 5 = cycTo b i 4 + b.getD ((i + 4) % 12) 0 := rfl
  have c : ∀ x : List Int, cycTo x 12 4 = cycTo x 0 4 := fun x => by simp [cycTo]
  have e0 := e i hi
  rw [Nat.mod_eq_of_lt hi] at s1 s2
  rcases (show i + 1 < 12 ∨ i + 1 = 12 from by omega) with q | q
  · have e1 := e (i + 1) q
    omega
  · rw [q] at s1 s2
    have e1 := e 0 (by omega)
    rw [c] at s1 s2
    omega
end Go.Proofs.Ytneblpplkidkfaa
/- Contract of spec.l15Distance at two lists of twelve small numbers. -/
namespace Go.Proofs.Ytneblpplkidkfaa
open Go.RowKit Go.Joins
set_option linter.unusedVariables false
/-- Numbers of which the differences are small. -/
def SmallI (xs : List Int) : Prop := ∀ i, -200 ≤ xs.getD i 0 ∧ xs.getD i 0 ≤ 200
theorem dTo_small {a b : List Int} (ha : SmallI a) (hb : SmallI b) (k : Nat) : 0 ≤ dTo a b k ∧ dTo a b k ≤ k * 400 :=
  ⟨dTo_nonneg a b k, dTo_bd (m := -200) (M := 200) (fun i => ⟨ha i, hb i⟩) k⟩
/-- Two numbers of two rows. -/
def TwoI (g h k : Nat) (x y : Int) (w : World) : Prop := (g < w.heap.size ∧ h < w.heap.size) ∧ w.cell? ⟨g, k, none⟩ = some (.int .i64 x) ∧ w.cell? ⟨h, k, none⟩ = some (.int .i64 y)
theorem twoI_cells {g h k : Nat} {x y : Int} {w : World} (q : TwoI g h k x y w) : w.cell? ⟨g, k, none⟩ = some (.int .i64 x) ∧ w.cell? ⟨h, k, none⟩ = some (.int .i64 y) := q.2
end Go.Proofs.Ytneblpplkidkfaa
/- The circles of a family are valid (by the kernel). -/
namespace Go.Proofs.Ytneblpplkidkfaa
open Go.RowKit Go.Joins
set_option linter.unusedVariables false
/-- The circles of a family are valid. -/
def famChk (p : Int) : Bool := (famL p 12 [] 12).all cirB
theorem fam_chk : famChk 2 = true ∧ famChk 3 = true ∧ famChk 4 = true ∧ famChk 6 = true ∧ famChk 12 = true := by decide +kernel
theorem fam_cirOk {p : Int} {i : Nat} (h : i < (famOf p).length) : CirOk (lAt (famOf p) i) := by
  have hm := lAt_mem h
  generalize lAt (famOf p) i = x at hm
  unfold famOf at hm
  split at hm
  · rename_i hp
    obtain ⟨⟨h1, h2⟩, h3⟩ := hp
    obtain ⟨c2, c3, c4, c6, c12⟩ := fam_chk
    have key : ∀ q, famChk q = true → x ∈ famL q 12 [] 12 → CirOk x := fun q hq hx => of_decide_eq_true (List.all_eq_true.1 hq x hx)
    rcases (show p = 2 ∨ p = 3 ∨ p = 4 ∨ p = 5 ∨ p = 6 ∨ p = 7 ∨ p = 8 ∨ p = 9 ∨ p = 10 ∨ p = 11 ∨ p = 12 from by omega) with rfl | rfl | rfl | rfl | rfl | rfl | rfl | rfl | rfl | rfl | rfl
    · exact key _ c2 hm
    · exact key _ c3 hm
    · exact key _ c4 hm
    · exact absurd h3 (by decide)
    · exact key _ c6 hm
    · exact absurd h3 (by decide)
    · exact absurd h3 (by decide)
    · exact absurd h3 (by decide)
    · exact absurd h3 (by decide)
    · exact absurd h3 (by decide)
    · exact key _ c12 hm
  · simp at hm
theorem fam_pos {p : Int} (h : p = 3 ∨ p = 4 ∨ p = 6 ∨ p = 12 ∨ p = 2) : 0 < (famOf p).length := by
  rcases h with rfl | rfl | rfl | rfl | rfl
  · exact (by decide +kernel : 0 < (famOf 3).length)
  · exact (by decide +kernel : 0 < (famOf 4).length)
  · exact (by decide +kernel : 0 < (famOf 6).length)
  · exact (by decide +kernel : 0 < (famOf 12).length)
  · exact (by decide +kernel : 0 < (famOf 2).length)
end Go.Proofs.Ytneblpplkidkfaa
