/- Chapter 22 without the program: what a mode shares with its scale; the scale backwards; mirrors. -/
import Derived.Test.YtppbcjpabmllnaaModeFacts
namespace Go.Proofs.Ytppbcjpabmllnaa
open Go.RowKit Go.Joins
set_option linter.unusedVariables false
theorem sp_ring (xs : List Int) (i k : Nat) : spTo xs i (k + 1) = spTo xs i k + ringF xs (i + k) := rfl
theorem sp_mode {xs : List Int} (h : 0 < xs.length) (a i : Nat) : ∀ k, spTo (modL xs a) i k = spTo xs (a + i) k
  | 0 => rfl
  | k + 1 => by rw [sp_ring, sp_ring, sp_mode h a i k, ring_mode xs a _ h, Nat.add_assoc]
theorem sum_mode {xs : List Int} (h : 0 < xs.length) (a : Nat) : sumTo (modL xs a) (modL xs a).length = sumTo xs xs.length := by
  rw [← sp_zero _ _ (Nat.le_refl _), sp_mode h, modL_len, Nat.add_zero, sp_all]
theorem scOk_mode {xs : List Int} (hs : ScOk xs) (a : Nat) : ScOk (modL xs a) := by
  have h : 0 < xs.length := hs.1.1
  refine ⟨by rw [modL_len]; exact hs.1, fun j hj => ?_, by rw [sum_mode h]; exact hs.2.2⟩
  rw [modL_len] at hj
  rw [modL_get xs a j hj]
  exact hs.2.1 _ (Nat.mod_lt _ h)
theorem sps_mode {xs : List Int} (h : 0 < xs.length) (a c : Nat) : spsTo (modL xs a) c xs.length = spsTo xs c xs.length := by
  refine asc_same (sps_asc _ _ _) (sps_asc _ _ _) fun y => ?_
  rw [sps_mem, sps_mem]
  constructor
  · rintro ⟨i, hi, e⟩
    exact ⟨(a + i) % xs.length, Nat.mod_lt _ h, by rw [e, sp_mode h, sp_mod]⟩
  · rintro ⟨i, hi, e⟩
    have h1 : a ≤ xs.length * a := Nat.le_mul_of_pos_left a h
    refine ⟨(i + (xs.length * a - a)) % xs.length, Nat.mod_lt _ h, ?_⟩
    rw [e, sp_mode h, ← sp_mod xs (a + _), Nat.add_mod_mod, show a + (i + (xs.length * a - a)) = i + xs.length * a from by omega, Nat.add_mul_mod_self_left, sp_mod]
theorem two_mode {xs : List Int} (hs : ScOk xs) (a : Nat) : twoB (modL xs a) = twoB xs := by
  have h : 0 < xs.length := hs.1.1
  refine decide_eq_decide.2 ⟨fun q => ⟨hs, fun k hk => ?_⟩, fun q => ⟨scOk_mode hs a, fun k hk => ?_⟩⟩
  · have := q.2 k (by rw [modL_len]; exact hk)
    rwa [modL_len, sps_mode h] at this
  · rw [modL_len] at hk ⊢
    rw [sps_mode h]
    exact q.2 k hk
theorem cnt_mode {xs : List Int} (hs : ScOk xs) (a : Nat) : cntF (modL xs a) = cntF xs := by
  unfold cntF
  rw [if_pos hs, if_pos (scOk_mode hs a), modL_len, cm_mode hs.1.1]
theorem rvTo_get (xs : List Int) : ∀ m j, j < m → (rvTo xs m).getD j 0 = xs.getD (xs.length - 1 - j) 0
  | 0, j, h => by omega
  | m + 1, j, h => by
    have hl := rvTo_len xs m
    unfold rvTo
    rcases (show j < m ∨ j = m from by omega) with e | e
    · rw [List.getD_eq_getElem?_getD, List.getElem?_append_left (by omega), ← List.getD_eq_getElem?_getD]
      exact rvTo_get xs m j e
    · subst e
      rw [List.getD_eq_getElem?_getD, List.getElem?_append_right (by omega), hl, Nat.sub_self]
      rfl
/-- The scale backwards. -/
def revL (xs : List Int) : List Int := rvTo xs xs.length
theorem revL_len (xs : List Int) : (revL xs).length = xs.length := rvTo_len xs _
theorem revL_get {xs : List Int} {j : Nat} (h : j < xs.length) : (revL xs).getD j 0 = xs.getD (xs.length - 1 - j) 0 := rvTo_get xs _ j h
theorem rev_rev (xs : List Int) : revL (revL xs) = xs := by
  refine ext_ring (by rw [revL_len, revL_len]) fun j hj => ?_
  rw [revL_len, revL_len] at hj
  rw [revL_get (by rw [revL_len]; exact hj), revL_len, revL_get (by omega), show xs.length - 1 - (xs.length - 1 - j) = j from by omega]
theorem sum_rev (xs : List Int) : ∀ m, m ≤ xs.length → sumTo (revL xs) m + sumTo xs (xs.length - m) = sumTo xs xs.length
  | 0, _ => by simp [sumTo]
  | m + 1, h => by
    have e := sum_rev xs m (by omega)
    have e1 : sumTo (revL xs) (m + 1) = sumTo (revL xs) m + (revL xs).getD m 0 := rfl
    have e2 : sumTo xs (xs.length - m) = sumTo xs (xs.length - (m + 1)) + xs.getD (xs.length - (m + 1)) 0 := by
      rw [show xs.length - m = (xs.length - (m + 1)) + 1 from by omega]
      rfl
    rw [revL_get (by omega), show xs.length - 1 - m = xs.length - (m + 1) from by omega] at e1
    omega
theorem scOk_rev {xs : List Int} (hs : ScOk xs) : ScOk (revL xs) := by
  refine ⟨by rw [revL_len]; exact hs.1, fun j hj => ?_, ?_⟩
  · rw [revL_len] at hj
    rw [revL_get hj]
    exact hs.2.1 _ (by omega)
  · have e := sum_rev xs xs.length (Nat.le_refl _)
    rw [Nat.sub_self] at e
    have e0 : sumTo xs 0 = 0 := rfl
    rw [revL_len]
    have := hs.2.2
    omega
theorem rev_yes {xs : List Int} (hs : ScOk xs) : revF xs = revL xs := if_pos hs
theorem rev_twice {xs : List Int} (hs : ScOk xs) : revF (revF xs) = xs := by rw [rev_yes hs, rev_yes (scOk_rev hs), rev_rev]
/-- IsMirror. -/
def mirB (xs : List Int) : Bool := decide (0 ≤ smF (revF xs) xs)
/-- Sizes at two places that are together a given one are the same. -/
def MirK (xs : List Int) (k : Nat) : Prop := ∀ i j, (i + j + k + 1) % xs.length = 0 → ringF xs i = ringF xs j
theorem mod_sum {n a r : Nat} (ha : a < n) (hr : r < n) (h : (a + r + 1) % n = 0) : a = n - 1 - r := by
  have h1 := Nat.mod_add_div (a + r + 1) n
  rw [h] at h1
  generalize (a + r + 1) / n = t at h1
  match t with
  | 0 => rw [Nat.mul_zero] at h1; omega
  | 1 => rw [Nat.mul_one] at h1; omega
  | t + 2 =>
    have := Nat.le_mul_of_pos_right n (show 0 < t + 1 from by omega)
    rw [show t + 2 = (t + 1) + 1 from rfl, Nat.mul_succ] at h1
    omega
theorem mirK_iff {xs : List Int} (h : 0 < xs.length) (k : Nat) : modL (revL xs) k = xs ↔ MirK xs k := by
  have hl : (modL (revL xs) k).length = xs.length := by rw [modL_len, revL_len]
  have hg : ∀ j, j < xs.length → (modL (revL xs) k).getD j 0 = xs.getD (xs.length - 1 - (k + j) % xs.length) 0 := fun j hj => by
    rw [modL_get _ _ _ (by rw [revL_len]; exact hj)]
    unfold ringF
    rw [revL_len, revL_get (Nat.mod_lt _ h)]
  constructor
  · intro e i j hij
    have hj := Nat.mod_lt j h
    have e1 := hg (j % xs.length) hj
    rw [e] at e1
    have e2 : i % xs.length = xs.length - 1 - (k + j % xs.length) % xs.length := by
      refine mod_sum (Nat.mod_lt _ h) (Nat.mod_lt _ h) ?_
      rw [Nat.add_assoc, Nat.mod_add_mod, show i + ((k + j % xs.length) % xs.length + 1) = (k + j % xs.length) % xs.length + (i + 1) from by omega, Nat.mod_add_mod, show k + j % xs.length + (i + 1) = j % xs.length + (k + i + 1) from by omega, Nat.mod_add_mod, show j + (k + i + 1) = i + j + k + 1 from by omega]
      exact hij
    unfold ringF
    rw [e2, ← e1]
  · intro e
    refine ext_ring hl fun j hj => ?_
    rw [hl] at hj
    rw [hg j hj]
    have hr := Nat.mod_lt (k + j) h
    have e1 := e (xs.length - 1 - (k + j) % xs.length) j (by
      rw [show xs.length - 1 - (k + j) % xs.length + j + k + 1 = xs.length - (k + j) % xs.length + (k + j) from by omega]
      have hd := Nat.div_add_mod (k + j) xs.length
      rw [show xs.length - (k + j) % xs.length + (k + j) = xs.length + xs.length * ((k + j) / xs.length) from by omega, Nat.add_mul_mod_self_left, Nat.mod_self])
    unfold ringF at e1
    rwa [Nat.mod_eq_of_lt (show xs.length - 1 - (k + j) % xs.length < xs.length from by omega), Nat.mod_eq_of_lt hj] at e1
theorem mirB_iff {xs : List Int} (hs : ScOk xs) : mirB xs = true ↔ ∃ k, MirK xs k := by
  have h : 0 < xs.length := hs.1.1
  unfold mirB
  rw [decide_eq_true_iff, rev_yes hs, sm_iff (scOk_rev hs), revL_len]
  constructor
  · rintro ⟨k, _, e⟩
    exact ⟨k, (mirK_iff h k).1 e⟩
  · rintro ⟨k, e⟩
    refine ⟨k % xs.length, Nat.mod_lt _ h, ?_⟩
    have := mode_mod (revL xs) (by rw [revL_len]; exact h) k
    rw [revL_len] at this
    rw [this]
    exact (mirK_iff h k).2 e
theorem mir_mode {xs : List Int} (hs : ScOk xs) (a : Nat) : mirB (modL xs a) = mirB xs := by
  have h : 0 < xs.length := hs.1.1
  refine Bool.eq_iff_iff.2 ?_
  rw [mirB_iff hs, mirB_iff (scOk_mode hs a)]
  constructor
  · rintro ⟨k, e⟩
    have h1 : a ≤ xs.length * a := Nat.le_mul_of_pos_left a h
    refine ⟨k + 2 * (xs.length * a - a), fun i j hij => ?_⟩
    have e1 := e (i + (xs.length * a - a)) (j + (xs.length * a - a)) (by rw [modL_len, show i + (xs.length * a - a) + (j + (xs.length * a - a)) + k + 1 = i + j + (k + 2 * (xs.length * a - a)) + 1 from by omega]; exact hij)
    rw [ring_mode xs a _ h, ring_mode xs a _ h, show a + (i + (xs.length * a - a)) = i + xs.length * a from by omega, show a + (j + (xs.length * a - a)) = j + xs.length * a from by omega, ring_n, ring_n] at e1
    exact e1
  · rintro ⟨k, e⟩
    refine ⟨k + 2 * a, fun i j hij => ?_⟩
    rw [modL_len] at hij
    rw [ring_mode xs a _ h, ring_mode xs a _ h]
    exact e (a + i) (a + j) (by rw [show a + i + (a + j) + k + 1 = i + j + (k + 2 * a) + 1 from by omega]; exact hij)
end Go.Proofs.Ytppbcjpabmllnaa
