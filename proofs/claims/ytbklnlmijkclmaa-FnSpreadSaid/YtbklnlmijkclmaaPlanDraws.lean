/- Drawn plans in numbers: they are valid, their pitches stay between 1500 and 600000, the beats are heard. -/
import Derived.Test.YtbklnlmijkclmaaPlanMath
namespace Go.Proofs.Ytbklnlmijkclmaa
open Go.RowKit Go.Joins
set_option linter.unusedVariables false
/-- A step that is drawn. -/
def StDrB (B : Int) (k : Nat) (s : Iv) : Prop := (s.two = (k : Int) ∧ s.three = (k : Int) + 1) ∧ (s.five = usK k ∨ s.five = 2) ∧ 0 ≤ s.root ∧ s.root < B
instance (B : Int) (k : Nat) (s : Iv) : Decidable (StDrB B k s) := by unfold StDrB; infer_instance
abbrev StDraw := StDrB 1500
/-- A plan whose beats are below B, and the first pitch. -/
def DrOkB (B : Int) (s : Int) (xs : List Iv) : Prop := (200000 ≤ s ∧ s < 300000) ∧ xs.length ≤ 11 ∧ ∀ j, j < xs.length → StDrB B j (ivAt xs j)
abbrev DrOk := DrOkB 1500
abbrev DrOkW := DrOkB 1600
theorem dr_wide {s : Int} {xs : List Iv} (h : DrOk s xs) : DrOkW s xs := ⟨h.1, h.2.1, fun j hj => ⟨(h.2.2 j hj).1, (h.2.2 j hj).2.1, (h.2.2 j hj).2.2.1, Int.lt_trans (h.2.2 j hj).2.2.2 (by decide)⟩⟩
theorem usK_cases : ∀ k, k < 11 → usK k = 1 ∨ usK k = 2 := by decide
theorem draw_kind {B : Int} {k : Nat} {s : Iv} (hk : k < 11) (h : StDrB B k s) : s.five = 1 ∨ s.five = 2 := by
  rcases h.2.1 with q | q
  · rw [q]; exact usK_cases k hk
  · exact .inr q
theorem dr_plok {s : Int} {xs : List Iv} (h : DrOkW s xs) : PlOk xs := by
  refine ⟨h.2.1, fun k hk => ?_⟩
  have q := h.2.2 k hk
  have k1 := h.2.1
  have kd := draw_kind (by omega) q
  exact ⟨q.1, by omega, q.2.2.1, by have := q.2.2.2; omega⟩
/-- One step from a pitch in the middle. -/
theorem step_heard {a k b : Int} (ha : 1500 ≤ a ∧ a ≤ 600000) (hk : k = 1 ∨ k = 2) (hb : 0 ≤ b ∧ b < 1600) :
    FineOk (tunV a k b) ∧ (k = 1 → tunV a k b = (3 * a - b) / 2) ∧ (k = 2 → tunV a k b = (3 * a - b) / 4) ∧ b ≤ heardV a (tunV a k b) k ∧ heardV a (tunV a k b) k < b + 2 * k := by
  have f1 : FineOk a := ⟨by omega, by omega⟩
  rcases hk with rfl | rfl
  · obtain ⟨n, hn⟩ : ∃ n, n = tunN a 1 b := ⟨_, rfl⟩
    have hv : n = (3 * a - b) / 2 := by rw [hn]; unfold tunN; rw [if_pos rfl, Int.max_eq_right (by omega)]
    have f2 : FineOk n := ⟨by omega, by omega⟩
    rw [tunV_yes f1 ⟨by omega, by omega⟩ hn f2]
    have hh : heardV a n 1 = 3 * a - 2 * n := by
      unfold heardV
      rw [if_pos ⟨f1, f2, by omega, by omega⟩]
      simp only [hdA, hdB, if_pos]
      omega
    exact ⟨f2, fun _ => hv, fun q => by omega, by omega, by omega⟩
  · obtain ⟨n, hn⟩ : ∃ n, n = tunN a 2 b := ⟨_, rfl⟩
    have hv : n = (3 * a - b) / 4 := by rw [hn]; unfold tunN; rw [if_neg (by omega), if_pos rfl, Int.max_eq_right (by omega)]
    have f2 : FineOk n := ⟨by omega, by omega⟩
    rw [tunV_yes f1 ⟨by omega, by omega⟩ hn f2]
    have hh : heardV a n 2 = 3 * a - 4 * n := by
      unfold heardV
      rw [if_pos ⟨f1, f2, by omega, by omega⟩]
      simp only [hdA, hdB, if_pos, show ¬ (2 : Int) = 1 by omega, if_false]
      omega
    exact ⟨f2, fun q => by omega, fun _ => hv, by omega, by omega⟩
def loP : Nat → Int
  | 0 => 200000
  | k + 1 => (3 * loP k - 1599) / 4
def hiP : Nat → Int
  | 0 => 299999
  | k + 1 => if usK k = 1 then 3 * hiP k / 2 else 3 * hiP k / 4
theorem lohi : ∀ k, k < 12 → (1500 ≤ loP k ∧ loP k ≤ hiP k) ∧ hiP k ≤ 600000 := by decide +kernel
theorem pit_bds {s : Int} {xs : List Iv} (h : DrOkW s xs) : ∀ k, k ≤ xs.length → loP k ≤ pitK s xs k ∧ pitK s xs k ≤ hiP k
  | 0, _ => by have := h.1; exact ⟨by simp only [loP, pitK]; omega, by simp only [hiP, pitK]; omega⟩
  | k + 1, hk => by
    obtain ⟨q1, q2⟩ := pit_bds h k (by omega)
    have k11 := h.2.1
    have hd := h.2.2 k (by omega)
    obtain ⟨⟨l1, l2⟩, l3⟩ := lohi k (by omega)
    have kd := draw_kind (by omega) hd
    obtain ⟨_, s1, s2, _⟩ := step_heard (a := pitK s xs k) ⟨by omega, by omega⟩ kd hd.2.2
    have b := hd.2.2
    show loP (k + 1) ≤ tunV _ _ _ ∧ tunV _ _ _ ≤ hiP (k + 1)
    have e1 : loP (k + 1) = (3 * loP k - 1599) / 4 := rfl
    have e2 : hiP (k + 1) = if usK k = 1 then 3 * hiP k / 2 else 3 * hiP k / 4 := rfl
    rcases usK_cases k (by omega) with u | u
    · rw [if_pos u] at e2
      rcases kd with kd | kd
      · have := s1 kd; omega
      · have := s2 kd; omega
    · rw [if_neg (by omega)] at e2
      have kd2 : (ivAt xs k).five = 2 := by rcases hd.2.1 with q | q <;> omega
      have := s2 kd2; omega
theorem pit_mid {s : Int} {xs : List Iv} (h : DrOkW s xs) {k : Nat} (hk : k ≤ xs.length) : 1500 ≤ pitK s xs k ∧ pitK s xs k ≤ 600000 := by
  have := pit_bds h k hk
  have k11 := h.2.1
  have := lohi k (by omega)
  omega
theorem dr_run {s : Int} {xs : List Iv} (h : DrOkW s xs) : RunOk s xs := by
  refine ⟨⟨dr_plok h, by have := h.1; exact ⟨by omega, by omega⟩⟩, fun k hk => ?_⟩
  have := pit_mid h (k := k + 1) hk
  omega
/-- The beats of a drawn plan's step are heard. -/
theorem dr_heard {s : Int} {xs : List Iv} (h : DrOkW s xs) {k : Nat} (hk : k < xs.length) :
    (ivAt xs k).root ≤ heardV (pitK s xs k) (pitK s xs (k + 1)) (ivAt xs k).five ∧ heardV (pitK s xs k) (pitK s xs (k + 1)) (ivAt xs k).five < (ivAt xs k).root + 2 * (ivAt xs k).five := by
  have k11 := h.2.1
  have hd := h.2.2 k hk
  exact (step_heard (a := pitK s xs k) (pit_mid h (by omega)) (draw_kind (by omega) hd) hd.2.2).2.2.2
theorem mem_keys {xs : List Iv} (h : PlOk xs) {i : Nat} : (i : Int) ∈ keysL xs ↔ i ≤ xs.length := by
  unfold keysL
  rw [if_pos h]
  simp only [List.mem_map, List.mem_range]
  constructor
  · rintro ⟨j, h1, h2⟩; omega
  · intro q; exact ⟨i, by omega, rfl⟩
theorem keys_len {xs : List Iv} (h : PlOk xs) : (keysL xs).length = xs.length + 1 := by unfold keysL; rw [if_pos h]; simp
/-- A key sounds exactly where it is tuned. -/
theorem dr_sounds {s : Int} {xs : List Iv} (h : DrOkW s xs) {i : Nat} (hi : i < 12) : decide (0 < (pitL s xs xs.length).getD i 0) = decide ((i : Int) ∈ keysL xs) := by
  rw [pitL_at _ _ _ hi, decide_eq_decide, mem_keys (dr_plok h)]
  by_cases q : i ≤ xs.length
  · rw [if_pos q]
    have := pit_mid h q
    exact ⟨fun _ => q, fun _ => by omega⟩
  · rw [if_neg q]
    exact ⟨fun h0 => by omega, fun h0 => absurd h0 q⟩
theorem dr_close {s : Int} {xs : List Iv} (h : DrOkW s xs) : decide (0 ≤ closV s xs) = decide ((11 : Int) ∈ keysL xs) := by
  rw [decide_eq_decide]
  have e := mem_keys (dr_plok h) (i := 11)
  rw [show ((11 : Nat) : Int) = 11 from rfl] at e
  rw [e]
  have k11 := h.2.1
  unfold closV
  by_cases q : xs.length = 11
  · rw [if_pos ⟨dr_run h, q⟩]
    exact ⟨fun _ => by omega, fun _ => by omega⟩
  · rw [if_neg (fun r => q r.2)]
    exact ⟨fun r => by omega, fun r => by omega⟩
theorem us_plok {b : Int} (hb : 0 ≤ b ∧ b ≤ 5000) : usL b = usTo b 11 ∧ PlOk (usTo b 11) := by
  refine ⟨if_pos hb, by simp [usTo], fun k hk => ?_⟩
  have hk' : k < 11 := by simpa [usTo] using hk
  have e : ivAt (usTo b 11) k = ⟨(k : Int), (k : Int) + 1, usK k, b⟩ := by simp [ivAt, usTo, hk']
  rw [e]
  have := usK_cases k hk'
  exact ⟨⟨rfl, rfl⟩, by simp only; omega, hb⟩
end Go.Proofs.Ytbklnlmijkclmaa
