/- The spread of errors in numbers. -/
import Derived.Test.YtbklnlmijkclmaaPlanDraws
namespace Go.Proofs.Ytbklnlmijkclmaa
open Go.RowKit Go.Joins
set_option linter.unusedVariables false
/-- How deep a key lies. -/
def DepOk (xs : List Iv) (key : Int) : Prop := PlOk xs ∧ 0 ≤ key ∧ key ≤ xs.length
instance (xs : List Iv) (key : Int) : Decidable (DepOk xs key) := by unfold DepOk; infer_instance
def depV (xs : List Iv) (key : Int) : Int := if DepOk xs key then key else -1
def deepV (xs : List Iv) : Int := if PlOk xs then xs.length else -1
/-- A step's beats are changed. -/
def misX (xs : List Iv) (k : Nat) (ch : Int) : List Iv := xs.set k ⟨(ivAt xs k).two, (ivAt xs k).three, (ivAt xs k).five, (ivAt xs k).root + ch⟩
def AtOk (xs : List Iv) (a : Int) : Prop := PlOk xs ∧ 0 ≤ a ∧ a < xs.length
instance (xs : List Iv) (a : Int) : Decidable (AtOk xs a) := by unfold AtOk; infer_instance
def MisOk (xs : List Iv) (a ch : Int) : Prop := (AtOk xs a ∧ -5000 ≤ ch ∧ ch ≤ 5000) ∧ PlOk (misX xs a.toNat ch)
instance (xs : List Iv) (a ch : Int) : Decidable (MisOk xs a ch) := by unfold MisOk; infer_instance
def misL (xs : List Iv) (a ch : Int) : List Iv := if MisOk xs a ch then misX xs a.toNat ch else xs
def misB (xs : List Iv) (a ch : Int) : Bool := decide (MisOk xs a ch)
theorem misX_len (xs : List Iv) (k : Nat) (ch : Int) : (misX xs k ch).length = xs.length := by simp [misX]
theorem misL_len (xs : List Iv) (a ch : Int) : (misL xs a ch).length = xs.length := by unfold misL; split; exact misX_len _ _ _; rfl
/-- The keys behind step a. -/
def affTo (n a i : Nat) : List Int := ((List.range (min i (n + 1))).filter fun j => a < j).map fun (j : Nat) => (j : Int)
def affL (xs : List Iv) (a : Int) : List Int := if AtOk xs a then affTo xs.length a.toNat 12 else []
theorem affTo_yes {n a i : Nat} (h : a < i ∧ i ≤ n) : affTo n a (i + 1) = affTo n a i ++ [(i : Int)] := by
  unfold affTo
  rw [show min (i + 1) (n + 1) = i + 1 from by omega, show min i (n + 1) = i from by omega, List.range_succ, List.filter_append, List.map_append]
  simp [h.1]
theorem affTo_no {n a i : Nat} (h : ¬ (a < i ∧ i ≤ n)) : affTo n a (i + 1) = affTo n a i := by
  unfold affTo
  by_cases q : i ≤ n
  · rw [show min (i + 1) (n + 1) = i + 1 from by omega, show min i (n + 1) = i from by omega, List.range_succ, List.filter_append, List.map_append]
    simp [show ¬ a < i from fun r => h ⟨r, q⟩]
  · rw [show min (i + 1) (n + 1) = n + 1 from by omega, show min i (n + 1) = n + 1 from by omega]
theorem affTo_len (n a i : Nat) : (affTo n a i).length ≤ i := by
  unfold affTo
  rw [List.length_map]
  refine Nat.le_trans (List.length_filter_le _ _) ?_
  simp; omega
theorem affL_len (xs : List Iv) (a : Int) : (affL xs a).length ≤ 12 := by
  unfold affL
  split
  · exact affTo_len _ _ _
  · simp
theorem mem_aff {xs : List Iv} {a i : Nat} (h : AtOk xs (a : Int)) : (i : Int) ∈ affL xs (a : Int) ↔ a < i ∧ i ≤ xs.length := by
  unfold affL
  rw [if_pos h]
  unfold affTo
  have k11 := h.1.1
  simp only [List.mem_map, List.mem_filter, List.mem_range, Int.toNat_natCast, decide_eq_true_eq]
  constructor
  · rintro ⟨j, ⟨h1, h2⟩, h3⟩; omega
  · intro q; exact ⟨i, ⟨by omega, q.1⟩, rfl⟩
/-- How far a mistake may reach. -/
def errK (xs : List Iv) (wr : Int) : Nat → Int
  | 0 => 0
  | k + 1 => (3 * errK xs wr k + wr) / (2 * (ivAt xs k).five) + 1
def errV (xs : List Iv) (key wr : Int) : Int := if DepOk xs key ∧ 0 ≤ wr ∧ wr ≤ 5000 then errK xs wr key.toNat else -1
theorem errK_bd {xs : List Iv} (h : PlOk xs) {wr : Int} (hw : 0 ≤ wr ∧ wr ≤ 5000) : ∀ k, k ≤ xs.length → 0 ≤ errK xs wr k ∧ errK xs wr k ≤ (2 ^ k - 1) * 10000
  | 0, _ => by simp [errK]
  | k + 1, hk => by
    obtain ⟨q1, q2⟩ := errK_bd h hw k (by omega)
    have g := h.2 k (by omega)
    have kd : (ivAt xs k).five = 1 ∨ (ivAt xs k).five = 2 := by have := g.2.1; omega
    have e : errK xs wr (k + 1) = (3 * errK xs wr k + wr) / (2 * (ivAt xs k).five) + 1 := rfl
    have p : ((2 : Int) ^ (k + 1) - 1) * 10000 = 2 * ((2 ^ k - 1) * 10000) + 10000 := by rw [Int.pow_succ]; omega
    rw [p]
    generalize ((2 : Int) ^ k - 1) * 10000 = M at q2 ⊢
    rcases kd with kd | kd
    · rw [kd] at e; omega
    · rw [kd] at e; omega
theorem errK_small {xs : List Iv} (h : PlOk xs) {wr : Int} (hw : 0 ≤ wr ∧ wr ≤ 5000) {k : Nat} (hk : k ≤ xs.length) : 0 ≤ errK xs wr k ∧ errK xs wr k ≤ 20480000 := by
  obtain ⟨q1, q2⟩ := errK_bd h hw k hk
  have k11 := h.1
  refine ⟨q1, Int.le_trans q2 ?_⟩
  have : ∀ j, j < 12 → ((2 : Int) ^ j - 1) * 10000 ≤ 20480000 := by decide
  exact this k (by omega)
theorem errK_pos {xs : List Iv} (h : PlOk xs) {wr : Int} (hw : 0 ≤ wr ∧ wr ≤ 5000) {k : Nat} (hk : k < xs.length) : 1 ≤ errK xs wr (k + 1) := by
  obtain ⟨q1, q2⟩ := errK_bd h hw k (by omega)
  have g := h.2 k hk
  have kd : (ivAt xs k).five = 1 ∨ (ivAt xs k).five = 2 := by have := g.2.1; omega
  have e : errK xs wr (k + 1) = (3 * errK xs wr k + wr) / (2 * (ivAt xs k).five) + 1 := rfl
  rcases kd with kd | kd
  · rw [kd] at e; omega
  · rw [kd] at e; omega
theorem ivAt_mis {xs : List Iv} {k j : Nat} {ch : Int} (h : k < xs.length) : ivAt (misX xs k ch) j = if j = k then ⟨(ivAt xs k).two, (ivAt xs k).three, (ivAt xs k).five, (ivAt xs k).root + ch⟩ else ivAt xs j := by
  unfold misX ivAt
  by_cases e : j = k
  · subst e; simp [h]
  · have e' : k ≠ j := fun q => e q.symm
    simp [e, List.getElem?_set_ne e']
/-- A drawn plan with a small mistake. -/
theorem mis_dr {s : Int} {xs : List Iv} (h : DrOk s xs) {k : Nat} (hk : k < xs.length) {ch : Int} (hc : 0 ≤ ch ∧ ch < 50) : DrOkW s (misX xs k ch) := by
  refine ⟨h.1, by rw [misX_len]; exact h.2.1, fun j hj => ?_⟩
  rw [misX_len] at hj
  have g := h.2.2 j hj
  rw [ivAt_mis hk]
  split
  · rename_i e; subst e
    exact ⟨g.1, g.2.1, by have := g.2.2; simp only; omega, by have := g.2.2; simp only; omega⟩
  · exact ⟨g.1, g.2.1, g.2.2.1, by have := g.2.2.2; omega⟩
theorem mis_ok {s : Int} {xs : List Iv} (h : DrOk s xs) {k : Nat} (hk : k < xs.length) {ch : Int} (hc : 0 ≤ ch ∧ ch < 50) : MisOk xs (k : Int) ch :=
  ⟨⟨⟨dr_plok (dr_wide h), by omega, by omega⟩, by omega, by omega⟩, by rw [Int.toNat_natCast]; exact dr_plok (mis_dr h hk hc)⟩
/-- Ahead of the mistake nothing changes. -/
theorem pit_before {s : Int} {xs : List Iv} {k : Nat} {ch : Int} (hk : k < xs.length) : ∀ i, i ≤ k → pitK s (misX xs k ch) i = pitK s xs i
  | 0, _ => rfl
  | i + 1, hi => by
    show tunV _ _ _ = tunV _ _ _
    rw [pit_before hk i (by omega), ivAt_mis hk, if_neg (by omega)]
/-- The mistake reaches no further than the bound. -/
theorem pit_far {s : Int} {xs : List Iv} (h : DrOk s xs) {k : Nat} (hk : k < xs.length) {ch : Int} (hc : 0 ≤ ch ∧ ch < 50) :
    ∀ i, i ≤ xs.length → pitK s xs i - pitK s (misX xs k ch) i ≤ errK xs ch i ∧ pitK s (misX xs k ch) i - pitK s xs i ≤ errK xs ch i
  | 0, _ => by simp [pitK, errK]
  | i + 1, hi => by
    obtain ⟨q1, q2⟩ := pit_far h hk hc i (by omega)
    have hw := dr_wide h
    have hm := mis_dr h hk hc
    have k11 := h.2.1
    have g := hw.2.2 i hi
    have gm := hm.2.2 i (by rw [misX_len]; exact hi)
    have kd := draw_kind (by omega) g
    have p1 := pit_mid hw (k := i) (by omega)
    have p2 := pit_mid hm (k := i) (by rw [misX_len]; omega)
    have e5 : (ivAt (misX xs k ch) i).five = (ivAt xs i).five := by
      rw [ivAt_mis hk]; split
      · rename_i e; rw [e]
      · rfl
    have er : (ivAt xs i).root ≤ (ivAt (misX xs k ch) i).root ∧ (ivAt (misX xs k ch) i).root ≤ (ivAt xs i).root + ch := by
      rw [ivAt_mis hk]; split
      · rename_i e; rw [e]; simp only; omega
      · omega
    obtain ⟨_, s1, s2, _⟩ := step_heard p1 kd g.2.2
    have kd' : (ivAt (misX xs k ch) i).five = 1 ∨ (ivAt (misX xs k ch) i).five = 2 := by rw [e5]; exact kd
    obtain ⟨_, m1, m2, _⟩ := step_heard p2 kd' gm.2.2
    have e : errK xs ch (i + 1) = (3 * errK xs ch i + ch) / (2 * (ivAt xs i).five) + 1 := rfl
    show tunV _ _ _ - tunV _ _ _ ≤ _ ∧ tunV _ _ _ - tunV _ _ _ ≤ _
    rw [e5] at m1 m2
    rcases kd with kd | kd
    · rw [e, s1 kd, e5, m1 kd, kd]; omega
    · rw [e, s2 kd, e5, m2 kd, kd]; omega
/-- What the law of the spread asks of each key. -/
theorem spread_key {s : Int} {xs : List Iv} (h : DrOk s xs) {k : Nat} (hk : k < xs.length) {ch : Int} (hc : 0 ≤ ch ∧ ch < 50) {i : Nat} (hi : i < 12) :
    (¬ (i : Int) ∈ affL xs (k : Int) → (pitL s xs xs.length).getD i 0 = (pitL s (misX xs k ch) xs.length).getD i 0) ∧
    ((i : Int) ∈ keysL xs → max ((pitL s xs xs.length).getD i 0 - (pitL s (misX xs k ch) xs.length).getD i 0) ((pitL s (misX xs k ch) xs.length).getD i 0 - (pitL s xs xs.length).getD i 0) ≤ errV xs (i : Int) ch) := by
  have hp := dr_plok (dr_wide h)
  rw [pitL_at _ _ _ hi, pitL_at _ _ _ hi]
  refine ⟨fun q => ?_, fun q => ?_⟩
  · rw [mem_aff ⟨hp, by omega, by omega⟩] at q
    by_cases r : i ≤ xs.length
    · rw [if_pos r, if_pos r, pit_before hk i (by omega)]
    · rw [if_neg r, if_neg r]
  · have r := (mem_keys hp).1 q
    rw [if_pos r, if_pos r]
    have := pit_far h hk hc i r
    unfold errV
    rw [if_pos ⟨⟨hp, by omega, by omega⟩, by omega, by omega⟩, Int.toNat_natCast]
    omega
end Go.Proofs.Ytbklnlmijkclmaa
