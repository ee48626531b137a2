/- How many different sizes a list of intervals has; an interval as a map's key. -/
import Derived.Test.YtdnlebijmiaclabDoorTonesMath
import Derived.Test.YtdnlebijmiaclabDoorIvRows
import Derived.Maps.OwnSet
import Derived.DeepKeys5
namespace Go.Proofs.YtdnlebijmiaclabDoor
open Go.RowKit Go.Joins Go.Maps
set_option linter.unusedVariables false
/-- Two intervals are the same, as a Boolean. -/
def eqB (x y : Iv) : Bool := x.two == y.two && (x.three == y.three) && (x.five == y.five) && (x.root == y.root)
theorem eqB_iff {x y : Iv} : eqB x y = true ↔ x = y := by
  cases x; cases y; simp [eqB, and_assoc]
/-- No element before place i is of element k's size. -/
def freshTo (xs : List Iv) (k : Nat) : Nat → Bool
  | 0 => true
  | i + 1 => freshTo xs k i && !(eqB (simV (ivAt xs i)) (simV (ivAt xs k)))
/-- The different sizes of the first k. -/
def sizTo (xs : List Iv) : Nat → Nat
  | 0 => 0
  | k + 1 => if freshTo xs k k = true then sizTo xs k + 1 else sizTo xs k
def okTo (xs : List Iv) : Nat → Bool
  | 0 => true
  | k + 1 => okTo xs k && okV (ivAt xs k)
def cntV (xs : List Iv) : Int := if okTo xs xs.length = true then (sizTo xs xs.length : Int) else 0
theorem okTo_all {xs : List Iv} : ∀ {k : Nat}, okTo xs k = true → ∀ j, j < k → okV (ivAt xs j) = true
  | 0, _, j, hj => by omega
  | k + 1, h, j, hj => by
    unfold okTo at h
    rw [Bool.and_eq_true] at h
    rcases Nat.lt_or_ge j k with q | q
    · exact okTo_all h.1 j q
    · rw [show j = k by omega]; exact h.2
theorem okTo_step {xs : List Iv} {k : Nat} (h : okTo xs k = true) (hk : okV (ivAt xs k) = true) : okTo xs (k + 1) = true := by
  unfold okTo; rw [h, hk]; rfl
theorem okTo_bad {xs : List Iv} {k : Nat} (hk : okV (ivAt xs k) = false) : ∀ n, k < n → okTo xs n = false
  | 0, h => by omega
  | n + 1, h => by
    unfold okTo
    rcases Nat.lt_or_ge k n with q | q
    · rw [okTo_bad hk n q]; rfl
    · rw [show n = k by omega, hk, Bool.and_false]
theorem cntV_bad {xs : List Iv} {k : Nat} (h : k < xs.length) (hk : okV (ivAt xs k) = false) : cntV xs = 0 := by
  unfold cntV; rw [okTo_bad hk _ h]; rfl
theorem cntV_ok {xs : List Iv} (h : okTo xs xs.length = true) : cntV xs = (sizTo xs xs.length : Int) := by
  unfold cntV; rw [if_pos h]
theorem cntV_nil {xs : List Iv} (h : xs.length = 0) : cntV xs = 0 := by
  unfold cntV; rw [h]; rfl
theorem sizTo_le (xs : List Iv) : ∀ k, sizTo xs k ≤ k
  | 0 => Nat.le_refl _
  | k + 1 => by
    have := sizTo_le xs k
    unfold sizTo
    split <;> omega
theorem sizTo_yes {xs : List Iv} {k : Nat} (h : freshTo xs k k = true) : sizTo xs (k + 1) = sizTo xs k + 1 := by
  show (if _ then _ else _) = _; rw [if_pos h]
theorem sizTo_no {xs : List Iv} {k : Nat} (h : freshTo xs k k = false) : sizTo xs (k + 1) = sizTo xs k := by
  show (if _ then _ else _) = _; rw [if_neg (by simp [h])]
theorem freshTo_iff {xs : List Iv} {k : Nat} : ∀ {i : Nat}, freshTo xs k i = true ↔ ∀ j, j < i → simV (ivAt xs j) ≠ simV (ivAt xs k)
  | 0 => by simp [freshTo]
  | i + 1 => by
    unfold freshTo
    rw [Bool.and_eq_true, freshTo_iff (i := i), Bool.not_eq_true']
    constructor
    · rintro ⟨h1, h2⟩ j hj e
      rcases Nat.lt_or_ge j i with q | q
      · exact h1 j q e
      · rw [show j = i by omega] at e
        rw [eqB_iff.2 e] at h2
        simp at h2
    · intro h
      refine ⟨fun j hj => h j (by omega), ?_⟩
      cases hb : eqB (simV (ivAt xs i)) (simV (ivAt xs k))
      · rfl
      · exact absurd (eqB_iff.1 hb) (h i (by omega))
/-- What an interval reads as, as a key. -/
def klI (x : Iv) : Lit := .string (keyBytes [.int .i64 x.two, .int .i64 x.three, .int .i64 x.five, .int .i64 x.root])
theorem ktIv : Tryd.prog.keyType 25 = true := by kernel_rfl
theorem tszIv : ∃ n, Tryd.prog.types.size = n + 1 := ⟨(Tryd.prog.types.size - 1), by kernel_rfl⟩
theorem cellsIv : Tryd.prog.cellsOf 25 = 4 := by kernel_rfl
theorem cellsInt : Tryd.prog.cellsOf 3 = 1 := by kernel_rfl
theorem okV_nums {x : Iv} (h : okV x = true) : (-9223372036854775808 ≤ x.two ∧ x.two ≤ 9223372036854775807) ∧ (-9223372036854775808 ≤ x.three ∧ x.three ≤ 9223372036854775807) ∧ (-9223372036854775808 ≤ x.five ∧ x.five ≤ 9223372036854775807) ∧ (-9223372036854775808 ≤ x.root ∧ x.root ≤ 9223372036854775807) := by
  have := okI_nums h
  omega
theorem key_iv {x : Iv} (h : okV x = true) : keyOf Tryd.prog 25 (ivV x.two x.three x.five x.root) = some (klI x) := by
  obtain ⟨h1, h2, h3, h4⟩ := okV_nums h
  obtain ⟨n, hn⟩ := tszIv
  have w1 := WalkArith.wf_i64 h1
  have w2 := WalkArith.wf_i64 h2
  have w3 := WalkArith.wf_i64 h3
  have w4 := WalkArith.wf_i64 h4
  unfold keyOf
  rw [Tryd.underlying25]
  simp only [ktIv, Value.formed, Tryd.underlying25, cellsIv, hn]
  simp [Program.keyLits, Tryd.underlying25, Tryd.underlying3, cellsIv, cellsInt, Value.cells, w1, w2, w3, w4, klI]
theorem lawIv : Keyed Tryd.prog 25 := Keyed.of_law (deep_law_gate (by kernel_rfl) (by decide +kernel) (by decide +kernel) ktIv (by kernel_rfl))
theorem key_inj {x y : Iv} (hx : okV x = true) (hy : okV y = true) (h : klI x = klI y) : x = y := by
  have := lawIv.inj (key_iv hx) (by rw [h]; exact key_iv hy)
  cases x; cases y
  simp at this
  simp [this]
/-- The keys that the first k elements have. -/
def keysTo (xs : List Iv) : Nat → List Lit
  | 0 => []
  | k + 1 => keysTo xs k ++ [klI (simV (ivAt xs k))]
theorem keysTo_key (xs : List Iv) : ∀ k, ∀ x ∈ keysTo xs k, WideAt.IsKeyLit x
  | 0, x, h => by simp [keysTo] at h
  | k + 1, x, h => by
    unfold keysTo at h
    rcases List.mem_append.1 h with h | h
    · exact keysTo_key xs k x h
    · rw [List.mem_singleton.1 h]; exact trivial
theorem keysTo_mem (xs : List Iv) (y : Lit) : ∀ k, y ∈ keysTo xs k ↔ ∃ j, j < k ∧ klI (simV (ivAt xs j)) = y
  | 0 => by simp [keysTo]
  | k + 1 => by
    unfold keysTo
    rw [List.mem_append, keysTo_mem xs y k, List.mem_singleton]
    constructor
    · rintro (⟨j, h1, h2⟩ | h)
      · exact ⟨j, by omega, h2⟩
      · exact ⟨k, by omega, h.symm⟩
    · rintro ⟨j, h1, h2⟩
      rcases Nat.lt_or_ge j k with q | q
      · exact Or.inl ⟨j, q, h2⟩
      · rw [show j = k by omega] at h2
        exact Or.inr h2.symm
/-- The set that impl fills. -/
def setTo (xs : List Iv) (k : Nat) : DataW Unit := setOf (.lit (.bool true)) (keysTo xs k)
theorem setTo_step (xs : List Iv) (k : Nat) : (setTo xs k).put (klI (simV (ivAt xs k))) (.lit (.bool true)) = setTo xs (k + 1) := (setOf_snoc _ _ _).symm
theorem size_set {xs : List Iv} : ∀ {k : Nat}, okTo xs k = true → Maps.size (setTo xs k) = sizTo xs k
  | 0, _ => rfl
  | k + 1, h => by
    have hall := okTo_all h
    have h0 : okTo xs k = true := by unfold okTo at h; rw [Bool.and_eq_true] at h; exact h.1
    rw [← setTo_step]
    unfold setTo
    rw [size_put (tidy_setOf _ _ (keysTo_key xs k)), has_setOf _ _ _ (keysTo_key xs k)]
    have ih := size_set h0
    unfold setTo at ih
    rw [ih]
    have key : (keysTo xs k).any (fun x => x.sameKey (klI (simV (ivAt xs k)))) = !(freshTo xs k k) := by
      cases hf : freshTo xs k k
      · rw [Bool.not_false, List.any_eq_true]
        have hn : ¬ ∀ j, j < k → simV (ivAt xs j) ≠ simV (ivAt xs k) := fun hh => by rw [freshTo_iff.2 hh] at hf; simp at hf
        have : ∃ j, j < k ∧ simV (ivAt xs j) = simV (ivAt xs k) := by
          refine Classical.byContradiction fun hh => hn fun j hj e => hh ⟨j, hj, e⟩
        obtain ⟨j, hj, e⟩ := this
        exact ⟨klI (simV (ivAt xs k)), (keysTo_mem xs _ k).2 ⟨j, hj, by rw [e]⟩, WideAt.sameKey_self trivial⟩
      · rw [Bool.not_true, List.any_eq_false]
        intro y hy hs
        obtain ⟨j, hj, e⟩ := (keysTo_mem xs _ k).1 hy
        have e2 := WideAt.sameKey_eq hs
        rw [← e] at e2
        exact (freshTo_iff.1 hf) j hj (key_inj (simV_ok (hall j (by omega))) (simV_ok (hall k (by omega))) e2)
    rw [key]
    cases hf : freshTo xs k k
    · rw [sizTo_no hf]; rfl
    · rw [sizTo_yes hf]; rfl
theorem neq_cases (P Q : Iv) : (P.two == Q.two) = false ∨ ((P.two == Q.two) = true ∧ (P.three == Q.three) = false) ∨ ((P.two == Q.two) = true ∧ (P.three == Q.three) = true ∧ (P.five == Q.five) = false) ∨ ((P.two == Q.two) = true ∧ (P.three == Q.three) = true ∧ (P.five == Q.five) = true ∧ (P.root == Q.root) = false) ∨ ((P.two == Q.two) = true ∧ (P.three == Q.three) = true ∧ (P.five == Q.five) = true ∧ (P.root == Q.root) = true) := by
  cases (P.two == Q.two) <;> cases (P.three == Q.three) <;> cases (P.five == Q.five) <;> cases (P.root == Q.root) <;> simp
end Go.Proofs.YtdnlebijmiaclabDoor
