/- Chapter 16 without the program: the parts are together twelve; three thirds are an octave; the part that differs from all others; regular circles. -/
import Derived.Test.YtjfeeppbbckneabThirdParts
namespace Go.Proofs.Ytjfeeppbbckneab
open Go.RowKit Go.Joins
set_option linter.unusedVariables false
def ClosOk (xs : List Int) : Prop := xs.length = 12 ∧ (∀ j, j < 12 → -1000 ≤ xs.getD j 0 ∧ xs.getD j 0 ≤ 1000) ∧ sumTo xs 12 = 12
instance (xs : List Int) : Decidable (ClosOk xs) := by unfold ClosOk; infer_instance
def closB (xs : List Int) : Bool := decide (ClosOk xs)
theorem clos_len {xs : List Int} (h : xs.length ≠ 12) : closB xs = false := decide_eq_false (fun q => h q.1)
theorem clos_bad {xs : List Int} {j : Nat} (hj : j < 12) (h : ¬ (-1000 ≤ xs.getD j 0 ∧ xs.getD j 0 ≤ 1000)) : closB xs = false := decide_eq_false (fun q => h (q.2.1 j hj))
theorem clos_sum {xs : List Int} (h : xs.length = 12) (hb : ∀ j, j < 12 → -1000 ≤ xs.getD j 0 ∧ xs.getD j 0 ≤ 1000) : closB xs = (sumTo xs 12 == 12) := by
  by_cases hs : sumTo xs 12 = 12
  · rw [show closB xs = true from decide_eq_true (⟨h, hb, hs⟩ : ClosOk xs), hs]; rfl
  · rw [show closB xs = false from decide_eq_false (fun q : ClosOk xs => hs q.2.2)]
    exact (beq_eq_false_iff_ne.2 hs).symm
theorem clos_bd {xs : List Int} {n : Nat} (h : ∀ j, j < n → -1000 ≤ xs.getD j 0 ∧ xs.getD j 0 ≤ 1000) : ∀ k, k ≤ n → -1000 * k ≤ sumTo xs k ∧ sumTo xs k ≤ 1000 * k
  | 0, _ => by simp [sumTo]
  | k + 1, hk => by
    have a := clos_bd h k (by omega)
    have b := h k (by omega)
    unfold sumTo
    omega
theorem cir_clos {xs : List Int} (h : CirOk xs) : closB xs = true := decide_eq_true ⟨h.1, fun j hj => by have := h.2.1 j hj; omega, h.2.2⟩
/-- A sum of parts in two pieces. -/
theorem cyc_add (xs : List Int) (i m : Nat) : ∀ n, cycTo xs i (m + n) = cycTo xs i m + cycTo xs (i + m) n
  | 0 => by simp [cycTo]
  | n + 1 => by
    have e := cyc_add xs i m n
    show cycTo xs i (m + n) + xs.getD ((i + (m + n)) % 12) 0 = cycTo xs i m + (cycTo xs (i + m) n + xs.getD ((i + m + n) % 12) 0)
    rw [e, show i + (m + n) = i + m + n from by omega]
    omega
theorem three_sum {xs : List Int} (h : CirOk xs) (i : Nat) : cycTo xs i 4 + cycTo xs (i + 4) 4 + cycTo xs (i + 8) 4 = 12 := by
  have a := cyc_add xs i 4 8
  have b := cyc_add xs (i + 4) 4 4
  have c := cyc_all xs i
  rw [h.2.2] at c
  rw [show i + 4 + 4 = i + 8 from by omega] at b
  simp only [Nat.reduceAdd] at a b
  omega
/-- What GroupThirds answers. -/
def GtAt (xs : List Int) (i a b c : Int) : Prop :=
  ((CirOk xs ∧ 0 ≤ i ∧ i ≤ 3) ∧ a = cycTo xs i.toNat 4 ∧ b = cycTo xs (i.toNat + 4) 4 ∧ c = cycTo xs (i.toNat + 8) 4) ∨ ((cirB xs && decide (0 ≤ i ∧ i ≤ 3)) = false ∧ a = 0 ∧ b = 0 ∧ c = 0)
theorem gtAt_ex (xs : List Int) (i : Int) : ∃ a b c, GtAt xs i a b c := by
  by_cases h : CirOk xs ∧ 0 ≤ i ∧ i ≤ 3
  · exact ⟨_, _, _, .inl ⟨h, rfl, rfl, rfl⟩⟩
  · refine ⟨_, _, _, .inr ⟨?_, rfl, rfl, rfl⟩⟩
    by_cases hc : CirOk xs
    · rw [decide_eq_false (fun q => h ⟨hc, q⟩), Bool.and_false]
    · rw [show cirB xs = false from decide_eq_false hc, Bool.false_and]
theorem gt_sum {xs : List Int} {i a b c : Int} (h : GtAt xs i a b c) (hc : CirOk xs) (hi : 0 ≤ i ∧ i ≤ 3) : a + b + c = 12 ∧ (0 ≤ a ∧ a ≤ 12) ∧ (0 ≤ b ∧ b ≤ 12) ∧ (0 ≤ c ∧ c ≤ 12) := by
  rcases h with ⟨_, rfl, rfl, rfl⟩ | ⟨h, _⟩
  · exact ⟨three_sum hc _, cyc_bd hc _ (by omega), cyc_bd hc _ (by omega), cyc_bd hc _ (by omega)⟩
  · rw [show cirB xs = true from decide_eq_true hc, decide_eq_true hi] at h; cases h
/-- Three thirds whose parts are together twelve are an octave: one table. -/
def octChk (p q : Nat) : Bool :=
  (addV (thV p) (thV q)).2 && (addV (addV (thV p) (thV q)).1 (thV (12 - (p : Int) - q))).2 && eqV (addV (addV (thV p) (thV q)).1 (thV (12 - (p : Int) - q))).1 ⟨1, 0, 0, 1⟩
theorem oct_chk : ∀ p, p < 13 → ∀ q, q < 13 → p + q < 13 → octChk p q = true := by decide +kernel
theorem oct_three {p q r : Int} (hp : 0 ≤ p) (hq : 0 ≤ q) (hr : 0 ≤ r) (hs : p + q + r = 12) : ∃ x, addV (thV p) (thV q) = (x, true) ∧ addV x (thV r) = (⟨1, 0, 0, 1⟩, true) := by
  obtain ⟨i, rfl⟩ : ∃ j : Nat, p = (j : Int) := ⟨p.toNat, by omega⟩
  obtain ⟨j, rfl⟩ : ∃ j : Nat, q = (j : Int) := ⟨q.toNat, by omega⟩
  have k := oct_chk i (by omega) j (by omega) (by omega)
  unfold octChk at k
  simp only [Bool.and_eq_true] at k
  obtain ⟨⟨k1, k2⟩, k3⟩ := k
  obtain rfl : r = 12 - (i : Int) - j := by omega
  exact ⟨_, Prod.ext rfl k1, Prod.ext (eqV_eq k3) k2⟩
/-- What GroupSum answers. -/
def GsAt (xs : List Int) (i p q r s : Int) : Prop :=
  ((CirOk xs ∧ 0 ≤ i ∧ i ≤ 3) ∧ p = 1 ∧ q = 0 ∧ r = 0 ∧ s = 1) ∨ ((cirB xs && decide (0 ≤ i ∧ i ≤ 3)) = false ∧ p = 0 ∧ q = 0 ∧ r = 0 ∧ s = 0)
theorem gsAt_ex (xs : List Int) (i : Int) : ∃ p q r s, GsAt xs i p q r s := by
  obtain ⟨_, _, _, h⟩ := gtAt_ex xs i
  rcases h with ⟨h, _⟩ | ⟨h, _⟩
  · exact ⟨_, _, _, _, .inl ⟨h, rfl, rfl, rfl, rfl⟩⟩
  · exact ⟨_, _, _, _, .inr ⟨h, rfl, rfl, rfl, rfl⟩⟩
/-- The part at k differs from all others, which are the same. -/
def WolfIs (xs : List Int) (k : Nat) : Prop := xs.getD k 0 ≠ xs.getD ((k + 1) % 12) 0 ∧ ∀ j, j < 12 → j = k ∨ xs.getD j 0 = xs.getD ((k + 1) % 12) 0
theorem wolf_one {xs : List Int} {k l : Nat} (hk : k < 12) (hl : l < 12) (h : WolfIs xs k) (g : WolfIs xs l) : k = l := by
  refine Classical.byContradiction fun hne => ?_
  obtain ⟨j, hj, h1, h2⟩ : ∃ j, j < 12 ∧ j ≠ k ∧ j ≠ l := by
    by_cases a : 0 ≠ k ∧ 0 ≠ l
    · exact ⟨0, by omega, a.1, a.2⟩
    · by_cases b : 1 ≠ k ∧ 1 ≠ l
      · exact ⟨1, by omega, b.1, b.2⟩
      · exact ⟨2, by omega, by omega, by omega⟩
  have e1 := (h.2 j hj).resolve_left h1
  have e2 := (g.2 j hj).resolve_left h2
  have e3 := (h.2 l hl).resolve_left (fun e => hne e.symm)
  exact g.1 (by rw [e3, ← e1, e2])
/-- What WolfAt answers. -/
def WolfTo (xs : List Int) (y : Int) : Prop := (CirOk xs ∧ ∃ k : Nat, k < 12 ∧ WolfIs xs k ∧ y = k) ∨ (¬ (CirOk xs ∧ ∃ k : Nat, k < 12 ∧ WolfIs xs k) ∧ y = -1)
theorem wolfTo_ex (xs : List Int) : ∃ y, WolfTo xs y := by
  by_cases h : CirOk xs ∧ ∃ k : Nat, k < 12 ∧ WolfIs xs k
  · obtain ⟨hc, k, hk, hw⟩ := h
    exact ⟨k, .inl ⟨hc, k, hk, hw, rfl⟩⟩
  · exact ⟨-1, .inr ⟨h, rfl⟩⟩
theorem wolf_at {xs : List Int} {y : Int} {k : Nat} (h : WolfTo xs y) (hc : CirOk xs) (hk : k < 12) (hw : WolfIs xs k) : y = k := by
  rcases h with ⟨_, l, hl, gw, rfl⟩ | ⟨h, _⟩
  · rw [wolf_one hk hl hw gw]
  · exact absurd ⟨hc, k, hk, hw⟩ h
theorem wolf_no {xs : List Int} {y : Int} (h : WolfTo xs y) (hw : CirOk xs → ∀ k, k < 12 → ¬ WolfIs xs k) : y = -1 := by
  rcases h with ⟨hc, l, hl, gw, rfl⟩ | ⟨_, h⟩
  · exact absurd gw (hw hc l hl)
  · exact h
/-- All parts other than one are the same. -/
def RegIs (xs : List Int) : Prop := CirOk xs ∧ ∃ k : Nat, k < 12 ∧ ∀ i, i < 12 → ∀ j, j < 12 → i = k ∨ j = k ∨ xs.getD i 0 = xs.getD j 0
def RegTo (xs : List Int) (y : Bool) : Prop := (RegIs xs ∧ y = true) ∨ (¬ RegIs xs ∧ y = false)
theorem regTo_ex (xs : List Int) : ∃ y, RegTo xs y := (Classical.em (RegIs xs)).elim (fun h => ⟨true, .inl ⟨h, rfl⟩⟩) (fun h => ⟨false, .inr ⟨h, rfl⟩⟩)
theorem reg_wolf {xs : List Int} (hc : CirOk xs) {k : Nat} (hk : k < 12) (h : WolfIs xs k) : RegIs xs :=
  ⟨hc, k, hk, fun i hi j hj => (h.2 i hi).elim .inl fun a => .inr ((h.2 j hj).elim .inl fun b => .inr (a.trans b.symm))⟩
/-- Where no part differs from all others, a regular circle is the equal one. -/
theorem reg_same {xs : List Int} (h : RegIs xs) (hw : ∀ k, k < 12 → ¬ WolfIs xs k) : xs = List.replicate 12 1 := by
  obtain ⟨⟨hl, hp, hs⟩, k, hk, h⟩ := h
  have ho : ∀ j, j < 12 → j = k ∨ xs.getD j 0 = xs.getD ((k + 1) % 12) 0 := fun j hj => (h j hj ((k + 1) % 12) (by omega)).elim .inl fun a => a.elim (fun b => by omega) .inr
  have hk' : xs.getD k 0 = xs.getD ((k + 1) % 12) 0 := Classical.byContradiction fun q => hw k hk ⟨q, ho⟩
  have hall : ∀ j, j < 12 → xs.getD j 0 = xs.getD 0 0 := fun j hj => by
    have a : xs.getD j 0 = xs.getD ((k + 1) % 12) 0 := (ho j hj).elim (fun e => by rw [e, hk']) id
    have b : xs.getD 0 0 = xs.getD ((k + 1) % 12) 0 := (ho 0 (by omega)).elim (fun e => by rw [e, hk']) id
    rw [a, b]
  have h1 : xs.getD 0 0 = 1 := by
    simp only [sumTo] at hs
    have e : ∀ j, j < 12 → xs.getD j 0 = xs.getD 0 0 := hall
    rw [e 1 (by omega), e 2 (by omega), e 3 (by omega), e 4 (by omega), e 5 (by omega), e 6 (by omega), e 7 (by omega), e 8 (by omega), e 9 (by omega), e 10 (by omega), e 11 (by omega)] at hs
    omega
  refine List.ext_getElem (by rw [hl, List.length_replicate]) fun j a b => ?_
  have c := hall j (by omega)
  rw [h1, List.getD_eq_getElem?_getD, List.getElem?_eq_getElem a, Option.getD_some] at c
  rw [c, List.getElem_replicate]
theorem reg_ones : RegIs (List.replicate 12 1) := by
  refine ⟨by decide, 0, by omega, fun i hi j hj => .inr (.inr ?_)⟩
  have e : ∀ i, i < 12 → (List.replicate 12 (1 : Int)).getD i 0 = 1 := by decide
  rw [e i hi, e j hj]
theorem reg_val {xs : List Int} {y : Bool} {k : Int} (h : RegTo xs y) (hk : WolfTo xs k) (hc : CirOk xs) : y = (decide (0 ≤ k) || decide (xs = List.replicate 12 1)) := by
  rcases hk with ⟨_, l, hl, hw, rfl⟩ | ⟨hn, rfl⟩
  · rw [decide_eq_true (show (0 : Int) ≤ l from by omega), Bool.true_or]
    exact h.elim (fun q => q.2) (fun q => absurd (reg_wolf hc hl hw) q.1)
  · rw [decide_eq_false (by omega), Bool.false_or]
    rcases h with ⟨h, rfl⟩ | ⟨h, rfl⟩
    · exact (decide_eq_true (reg_same h (fun k hk hw => hn ⟨hc, k, hk, hw⟩))).symm
    · exact (decide_eq_false (fun e => h (by rw [e]; exact reg_ones))).symm
theorem reg_no {xs : List Int} {y : Bool} (h : RegTo xs y) (hc : ¬ CirOk xs) : y = false := h.elim (fun q => absurd q.1.1 hc) (fun q => q.2)
theorem wolf_reg {xs : List Int} {y : Int} (h : WolfTo xs y) (h0 : 0 ≤ y) : RegIs xs := by
  rcases h with ⟨hc, k, hk, hw, _⟩ | ⟨_, rfl⟩
  · exact reg_wolf hc hk hw
  · omega
end Go.Proofs.Ytjfeeppbbckneab
