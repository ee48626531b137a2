/- Chapter 22 without the program: modes of modes, the period of a scale, the greatest mode, scales that are mirrors. -/
import Derived.Test.YtppbcjpabmllnaaModeMath
namespace Go.Proofs.Ytppbcjpabmllnaa
open Go.RowKit Go.Joins
set_option linter.unusedVariables false
/-- The sizes, around. -/
def ringF (xs : List Int) (j : Nat) : Int := xs.getD (j % xs.length) 0
theorem ring_mod (xs : List Int) (i j : Nat) : ringF xs (i % xs.length + j) = ringF xs (i + j) := by
  unfold ringF
  rw [Nat.mod_add_mod]
theorem ring_n (xs : List Int) (j e : Nat) : ringF xs (j + xs.length * e) = ringF xs j := by
  unfold ringF
  rw [Nat.add_mul_mod_self_left]
theorem modL_get (xs : List Int) (k j : Nat) (h : j < xs.length) : (modL xs k).getD j 0 = ringF xs (k + j) := mdTo_get xs k _ j h
theorem ring_mode (xs : List Int) (a j : Nat) (h : 0 < xs.length) : ringF (modL xs a) j = ringF xs (a + j) := by
  have e : ringF (modL xs a) j = (modL xs a).getD (j % xs.length) 0 := by unfold ringF; rw [modL_len]
  rw [e, modL_get xs a _ (Nat.mod_lt _ h), Nat.add_comm a, ring_mod, Nat.add_comm]
theorem ext_ring {xs ys : List Int} (hl : xs.length = ys.length) (h : ∀ j, j < xs.length → xs.getD j 0 = ys.getD j 0) : xs = ys := by
  refine List.ext_getElem hl fun i h1 h2 => ?_
  have := h i h1
  rwa [List.getD_eq_getElem?_getD, List.getD_eq_getElem?_getD, List.getElem?_eq_getElem h1, List.getElem?_eq_getElem h2] at this
/-- Two modes are the same where the rings are. -/
theorem mode_iff {xs ys : List Int} (hl : xs.length = ys.length) (h : 0 < xs.length) (i k : Nat) : modL xs i = modL ys k ↔ ∀ t, ringF xs (i + t) = ringF ys (k + t) := by
  constructor
  · intro e t
    have e1 : (modL xs i).getD (t % xs.length) 0 = (modL ys k).getD (t % xs.length) 0 := by rw [e]
    rw [modL_get xs i _ (Nat.mod_lt _ h), modL_get ys k _ (by rw [← hl]; exact Nat.mod_lt _ h)] at e1
    rw [Nat.add_comm i, ring_mod, Nat.add_comm k, hl, ring_mod, Nat.add_comm t, Nat.add_comm t] at e1
    exact e1
  · intro e
    refine ext_ring (by rw [modL_len, modL_len, hl]) fun j hj => ?_
    rw [modL_len] at hj
    rw [modL_get xs i j hj, modL_get ys k j (by omega)]
    exact e j
theorem mode_zero {xs : List Int} (h : 0 < xs.length) : modL xs 0 = xs := by
  refine ext_ring (modL_len xs 0) fun j hj => ?_
  rw [modL_len] at hj
  rw [modL_get xs 0 j hj]
  unfold ringF
  rw [Nat.zero_add, Nat.mod_eq_of_lt hj]
theorem mode_whole {xs : List Int} (h : 0 < xs.length) : modL xs xs.length = xs := by
  have e : modL xs xs.length = modL xs 0 := (mode_iff rfl h _ _).2 fun t => by
    rw [Nat.zero_add, Nat.add_comm, show xs.length = xs.length * 1 from by rw [Nat.mul_one], Nat.mul_one, show t + xs.length = t + xs.length * 1 from by rw [Nat.mul_one], ring_n]
  rw [e, mode_zero h]
theorem mode_mod (xs : List Int) (h : 0 < xs.length) (k : Nat) : modL xs (k % xs.length) = modL xs k := (mode_iff rfl h _ _).2 fun t => ring_mod xs k t
/-- Modes of modes are modes. -/
theorem mode_mode {xs : List Int} (h : 0 < xs.length) (a b : Nat) : modL (modL xs a) b = modL xs (a + b) := by
  refine (mode_iff (modL_len xs a) (by rw [modL_len]; exact h) b (a + b)).2 fun t => ?_
  rw [ring_mode xs a _ h, Nat.add_assoc]
theorem mode_shift {xs : List Int} (h : 0 < xs.length) {i k : Nat} (e : Nat) : modL xs (i + e) = modL xs (k + e) ↔ modL xs i = modL xs k := by
  rw [mode_iff rfl h, mode_iff rfl h]
  constructor
  · intro H t
    have := H (xs.length * e - e + t)
    have h1 : e ≤ xs.length * e := Nat.le_mul_of_pos_left e h
    rw [show i + e + (xs.length * e - e + t) = i + t + xs.length * e from by omega, show k + e + (xs.length * e - e + t) = k + t + xs.length * e from by omega, ring_n, ring_n] at this
    exact this
  · intro H t
    have := H (e + t)
    rwa [← Nat.add_assoc, ← Nat.add_assoc] at this
/-- A mode has the same number of modes. -/
theorem new_mode {xs : List Int} (h : 0 < xs.length) (a k : Nat) : NewM (modL xs a) k ↔ NewM xs k := by
  unfold NewM
  constructor
  · intro H i hi e
    refine H i hi ?_
    rw [mode_mode h, mode_mode h, Nat.add_comm a, Nat.add_comm a]
    exact (mode_shift h a).2 e
  · intro H i hi e
    rw [mode_mode h, mode_mode h, Nat.add_comm a, Nat.add_comm a] at e
    exact H i hi ((mode_shift h a).1 e)
theorem cm_mode {xs : List Int} (h : 0 < xs.length) (a : Nat) : ∀ k, cmTo (modL xs a) k = cmTo xs k
  | 0 => rfl
  | k + 1 => by
    show cmTo (modL xs a) k + (if NewM (modL xs a) k then 1 else 0) = cmTo xs k + (if NewM xs k then 1 else 0)
    rw [cm_mode h a k]
    by_cases hn : NewM xs k
    · rw [if_pos hn, if_pos ((new_mode h a k).2 hn)]
    · rw [if_neg hn, if_neg (fun q => hn ((new_mode h a k).1 q))]
/-- The least distance after which a scale is the same. -/
theorem period_ex {xs : List Int} (h : 0 < xs.length) : ∃ p, 0 < p ∧ p ≤ xs.length ∧ modL xs p = modL xs 0 ∧ ∀ d, 0 < d → d < p → ¬ modL xs d = modL xs 0 := by
  have H : ∀ m, (∃ p, 0 < p ∧ p ≤ m ∧ modL xs p = modL xs 0 ∧ ∀ d, 0 < d → d < p → ¬ modL xs d = modL xs 0) ∨ ∀ d, 0 < d → d ≤ m → ¬ modL xs d = modL xs 0 := by
    intro m
    induction m with
    | zero => exact .inr fun d h1 h2 => by omega
    | succ m ih =>
      rcases ih with ⟨p, h1, h2, h3, h4⟩ | ih
      · exact .inl ⟨p, h1, by omega, h3, h4⟩
      · by_cases e : modL xs (m + 1) = modL xs 0
        · exact .inl ⟨m + 1, by omega, Nat.le_refl _, e, fun d h1 h2 => ih d h1 (by omega)⟩
        · refine .inr fun d h1 h2 => ?_
          rcases (show d ≤ m ∨ d = m + 1 from by omega) with q | q
          · exact ih d h1 q
          · rw [q]; exact e
  rcases H xs.length with q | q
  · exact q
  · exact absurd (by rw [mode_whole h, mode_zero h]) (q xs.length h (Nat.le_refl _))
theorem new_period {xs : List Int} (h : 0 < xs.length) {p : Nat} (hp : 0 < p) (h1 : modL xs p = modL xs 0) (h2 : ∀ d, 0 < d → d < p → ¬ modL xs d = modL xs 0) (k : Nat) : NewM xs k ↔ k < p := by
  constructor
  · intro H
    refine Classical.byContradiction fun q => ?_
    refine H (k - p) (by omega) ?_
    have e := (mode_shift h (k - p)).2 h1
    rw [show p + (k - p) = k from by omega, Nat.zero_add] at e
    exact e.symm
  · intro H i hi e
    have e1 : modL xs (0 + i) = modL xs ((k - i) + i) := by rw [Nat.zero_add, show k - i + i = k from by omega]; exact e
    exact h2 (k - i) (by omega) (by omega) ((mode_shift h i).1 e1).symm
theorem cm_period {xs : List Int} (h : 0 < xs.length) {p : Nat} (hn : ∀ k, NewM xs k ↔ k < p) : ∀ m, cmTo xs m = min m p
  | 0 => by simp [cmTo]
  | m + 1 => by
    show cmTo xs m + (if NewM xs m then 1 else 0) = _
    rw [cm_period h hn m]
    by_cases q : m < p
    · rw [if_pos ((hn m).2 q)]; omega
    · rw [if_neg (fun u => q ((hn m).1 u))]; omega
theorem mode_mul {xs : List Int} (h : 0 < xs.length) {p : Nat} (h1 : modL xs p = modL xs 0) : ∀ q r, modL xs (p * q + r) = modL xs r
  | 0, r => by rw [Nat.mul_zero, Nat.zero_add]
  | q + 1, r => by
    have e := (mode_shift h (p * q + r)).2 h1
    rw [Nat.zero_add, mode_mul h h1 q r] at e
    rw [Nat.mul_succ, show p * q + p + r = p + (p * q + r) from by omega]
    exact e
/-- The number of modes divides the number of notes. -/
theorem cm_divides {xs : List Int} (h : 0 < xs.length) : 1 ≤ cmTo xs xs.length ∧ xs.length % cmTo xs xs.length = 0 := by
  obtain ⟨p, hp, hle, h1, h2⟩ := period_ex h
  rw [cm_period h (new_period h hp h1 h2), Nat.min_eq_right hle]
  refine ⟨hp, Classical.byContradiction fun q => ?_⟩
  have hr := Nat.mod_lt xs.length hp
  refine h2 (xs.length % p) (by omega) hr ?_
  have e := mode_mul h h1 (xs.length / p) (xs.length % p)
  rw [Nat.div_add_mod] at e
  rw [← e, mode_whole h, mode_zero h]
/-- Which row comes later. -/
theorem gt_irrefl : ∀ a : List Int, gtL a a = false
  | [] => rfl
  | x :: xs => by
    show (if x = x then gtL xs xs else decide (x < x)) = false
    rw [if_pos rfl, gt_irrefl xs]
theorem gt_trans : ∀ a b c : List Int, gtL a b = true → gtL b c = true → gtL a c = true
  | [], b, c, h, _ => by simp [gtL] at h
  | x :: xs, [], c, h, _ => by simp [gtL] at h
  | x :: xs, y :: ys, [], _, h => by simp [gtL] at h
  | x :: xs, y :: ys, z :: zs, h1, h2 => by
    have k1 : (if x = y then gtL xs ys else decide (y < x)) = true := h1
    have k2 : (if y = z then gtL ys zs else decide (z < y)) = true := h2
    show (if x = z then gtL xs zs else decide (z < x)) = true
    by_cases e1 : x = y
    · rw [if_pos e1] at k1
      by_cases e2 : y = z
      · rw [if_pos e2] at k2
        rw [if_pos (e1.trans e2)]
        exact gt_trans xs ys zs k1 k2
      · rw [if_neg e2] at k2
        rw [if_neg (by rw [e1]; exact e2), e1]
        exact k2
    · rw [if_neg e1] at k1
      have k1' := of_decide_eq_true k1
      by_cases e2 : y = z
      · rw [if_neg (by rw [← e2]; exact e1), ← e2]
        exact k1
      · rw [if_neg e2] at k2
        have k2' := of_decide_eq_true k2
        rw [if_neg (by omega)]
        exact decide_eq_true (by omega)
/-- No mode comes later than the brightest one. -/
theorem br_top (xs : List Int) : ∀ k i, i < k → gtL (modL xs i) (modL xs (brTo xs k)) = false
  | 0, i, h => by omega
  | 1, i, h => by
    obtain rfl : i = 0 := by omega
    exact gt_irrefl _
  | k + 2, i, h => by
    have ih := br_top xs (k + 1)
    show gtL (modL xs i) (modL xs (if k + 1 = 0 then 0 else if gtL (modL xs (k + 1)) (modL xs (brTo xs (k + 1))) = true then k + 1 else brTo xs (k + 1))) = false
    rw [if_neg (by omega)]
    by_cases g : gtL (modL xs (k + 1)) (modL xs (brTo xs (k + 1))) = true
    · rw [if_pos g]
      rcases (show i < k + 1 ∨ i = k + 1 from by omega) with e | e
      · refine Bool.eq_false_iff.2 fun q => ?_
        have := gt_trans _ _ _ q g
        rw [ih i e] at this
        cases this
      · rw [e]; exact gt_irrefl _
    · rw [if_neg g]
      rcases (show i < k + 1 ∨ i = k + 1 from by omega) with e | e
      · exact ih i e
      · rw [e]; exact Bool.eq_false_iff.2 g
/-- SameMode. -/
def smTo (xs ys : List Int) : Nat → Int
  | 0 => -1
  | k + 1 => if 0 ≤ smTo xs ys k then smTo xs ys k else if modL xs k = ys then (k : Int) else -1
def smF (xs ys : List Int) : Int := if ScOk xs then smTo xs ys xs.length else -1
theorem smTo_has {xs ys : List Int} : ∀ k a, a < k → modL xs a = ys → 0 ≤ smTo xs ys k ∧ smTo xs ys k ≤ a
  | 0, a, h, _ => by omega
  | k + 1, a, h, e => by
    show 0 ≤ (if 0 ≤ smTo xs ys k then smTo xs ys k else if modL xs k = ys then (k : Int) else -1) ∧ (if 0 ≤ smTo xs ys k then smTo xs ys k else if modL xs k = ys then (k : Int) else -1) ≤ a
    rcases (show a < k ∨ a = k from by omega) with q | q
    · have ih := smTo_has k a q e
      rw [if_pos ih.1]
      exact ih
    · subst q
      by_cases g : 0 ≤ smTo xs ys a
      · rw [if_pos g]
        refine ⟨g, ?_⟩
        have hlt : ∀ m, smTo xs ys m < m + 1 := by
          intro m
          induction m with
          | zero => show (-1 : Int) < 0 + 1; omega
          | succ m ih =>
            show (if 0 ≤ smTo xs ys m then smTo xs ys m else if modL xs m = ys then (m : Int) else -1) < _
            split
            · omega
            · split <;> omega
        have := hlt a
        omega
      · rw [if_neg g, if_pos e]
        omega
theorem smTo_no {xs ys : List Int} : ∀ k, (∀ a, a < k → ¬ modL xs a = ys) → smTo xs ys k = -1
  | 0, _ => rfl
  | k + 1, h => by
    show (if 0 ≤ smTo xs ys k then smTo xs ys k else if modL xs k = ys then (k : Int) else -1) = -1
    rw [smTo_no k (fun a ha => h a (by omega)), if_neg (by omega), if_neg (h k (by omega))]
theorem sm_iff {xs ys : List Int} (hs : ScOk xs) : 0 ≤ smF xs ys ↔ ∃ a, a < xs.length ∧ modL xs a = ys := by
  unfold smF
  rw [if_pos hs]
  constructor
  · intro h
    refine Classical.byContradiction fun q => ?_
    rw [smTo_no xs.length (fun a ha e => q ⟨a, ha, e⟩)] at h
    omega
  · rintro ⟨a, ha, e⟩
    exact (smTo_has _ a ha e).1
end Go.Proofs.Ytppbcjpabmllnaa
