/- Contracts of impl.stepKindOf (a struct that holds a function), isFinePitch, the four partials, and partialsHeard. -/
import Derived.Test.YtbklnlmijkclmaaTuneLaw
import Derived.Laws.EntriesVeiled
namespace Go.Proofs.Ytbklnlmijkclmaa
open Go.RowKit Go.Joins
set_option linter.unusedVariables false
theorem finePitch_impl (n : Int) (w : World) : Calls Try.prog 41 #[.int .i64 n] w fun e w' => e = .returned (.bool (decide (FineOk n))) ∧ w = w' := by
  by_cases h1 : 1 ≤ n
  · by_cases h2 : n ≤ 10000000
    · have R := Lib.hid (show FineOk n from ⟨h1, h2⟩)
      go_enter Try.func41, Try.ntmps41
      go_wp2
      go_ret
      exact ⟨ret_boolT (decide_eq_true R.out).symm, rfl⟩
    · have R := Lib.hid h2
      go_enter Try.func41, Try.ntmps41
      go_wp2
      go_ret
      exact ⟨ret_boolT (decide_eq_false (fun h : FineOk n => by have := R.out; have := h.2; omega)).symm, rfl⟩
  · have R := Lib.hid h1
    go_enter Try.func41, Try.ntmps41
    go_wp2
    go_ret
    exact ⟨ret_boolT (decide_eq_false (fun h : FineOk n => by have := R.out; have := h.1; omega)).symm, rfl⟩
theorem fineI_at {n : Int} {b : Bool} (h : decide (FineOk n) = b) (w : World) : Calls Try.prog 41 #[.int .i64 n] w fun e w' => e = .returned (.bool b) ∧ w = w' := h ▸ finePitch_impl n w
/-- The function that a kind holds. -/
def kinF (k : Int) : Value := if k = 1 then .func (.func 66) #[] #[] else if k = 2 then .func (.func 67) #[] #[] else if k = 3 then .func (.func 68) #[] #[] else if k = 4 then .func (.func 69) #[] #[] else .nilFunc
/-- The most beats of a kind. -/
def kinM (k : Int) : Int := if k = 1 then 100000 else if k = 2 then 100000 else 0
def kinB (k : Int) : Bool := decide (1 ≤ k ∧ k ≤ 4)
/-- A kind as a value. -/
def kinV (k : Int) : Value := .agg #[.string (kindS k), .int .i64 (kinM k), kinF k]
theorem kin_no {k : Int} (h : ¬ (1 ≤ k ∧ k ≤ 4)) : kinF k = .nilFunc ∧ kinM k = 0 ∧ kindS k = ⟨#[]⟩ ∧ kinB k = false := by
  have h1 : ¬ k = 1 := by omega
  have h2 : ¬ k = 2 := by omega
  have h3 : ¬ k = 3 := by omega
  have h4 : ¬ k = 4 := by omega
  exact ⟨by unfold kinF; rw [if_neg h1, if_neg h2, if_neg h3, if_neg h4], by unfold kinM; rw [if_neg h1, if_neg h2], by unfold kindS; rw [if_neg h1, if_neg h2, if_neg h3, if_neg h4], decide_eq_false h⟩
set_option maxHeartbeats 1000000 in
theorem stepKind_impl (k : Int) (w : World) : Calls Try.prog 62 #[.int .i64 k] w fun e w' => e = .returned (.tuple #[kinV k, .bool (kinB k)]) ∧ Below w.heap.size w w' := by
  by_cases h : 1 ≤ k ∧ k ≤ 4
  · rcases (show k = 1 ∨ k = 2 ∨ k = 3 ∨ k = 4 from by omega) with rfl | rfl | rfl | rfl
    · clear h
      go_enter Try.func62, Try.ntmps62
      go_wp2_with fail
      exact bodyPost_ret (v := .tuple #[.agg #[.string ⟨#[102, 105, 102, 116, 104]⟩, .int .i64 100000, .func (.func 66) #[] #[]], .bool true]) (by simp [results, Try.results62, go_sem]) rfl ⟨rfl, below_alloc1 _ _⟩
    · clear h
      go_enter Try.func62, Try.ntmps62
      go_wp2_with fail
      exact bodyPost_ret (v := .tuple #[.agg #[.string ⟨#[102, 111, 117, 114, 116, 104]⟩, .int .i64 100000, .func (.func 67) #[] #[]], .bool true]) (by simp [results, Try.results62, go_sem]) rfl ⟨rfl, below_alloc1 _ _⟩
    · clear h
      go_enter Try.func62, Try.ntmps62
      go_wp2_with fail
      exact bodyPost_ret (v := .tuple #[.agg #[.string ⟨#[117, 112]⟩, .int .i64 0, .func (.func 68) #[] #[]], .bool true]) (by simp [results, Try.results62, go_sem]) rfl ⟨rfl, below_alloc1 _ _⟩
    · clear h
      go_enter Try.func62, Try.ntmps62
      go_wp2_with fail
      exact bodyPost_ret (v := .tuple #[.agg #[.string ⟨#[100, 111, 119, 110]⟩, .int .i64 0, .func (.func 69) #[] #[]], .bool true]) (by simp [results, Try.results62, go_sem]) rfl ⟨rfl, below_alloc1 _ _⟩
  · obtain ⟨e1, e2, e3, e4⟩ := kin_no h
    have h1 : (k == 1) = false := by simp; omega
    have h2 : (k == 2) = false := by simp; omega
    have h3 : (k == 3) = false := by simp; omega
    have h4 : (k == 4) = false := by simp; omega
    have E := Lib.hid (show kinV k = .agg #[.string ⟨#[]⟩, .int .i64 0, .nilFunc] from by unfold kinV; rw [e1, e2, e3])
    have E4 := Lib.hid e4
    clear h e1 e2 e3 e4
    go_enter Try.func62, Try.ntmps62
    go_wp2_with fail
    rw [E.out, E4.out]
    refine bodyPost_ret (v := .tuple #[.agg #[.string ⟨#[]⟩, .int .i64 0, .nilFunc], .bool false]) (by simp [results, Try.results62, go_sem]) rfl ⟨rfl, ?_⟩
    exact below_alloc1 _ _
/-- A kind as a value, part by part. -/
def KinAt (k : Int) (t : ByteArray) (m : Int) (f : Value) (b : Bool) : Prop := kinV k = .agg #[.string t, .int .i64 m, f] ∧ kinB k = b
theorem stepKind_at {k m : Int} {t : ByteArray} {f : Value} {b : Bool} (h : KinAt k t m f b) (w : World) : Calls Try.prog 62 #[.int .i64 k] w fun e w' => e = .returned (.tuple #[.agg #[.string t, .int .i64 m, f], .bool b]) ∧ Below w.heap.size w w' := by
  have := stepKind_impl k w
  rw [h.1, h.2] at this
  exact this
theorem kin_1 : KinAt 1 (kindS 1) 100000 (.func (.func 66) #[] #[]) true := ⟨rfl, rfl⟩
theorem kin_2 : KinAt 2 (kindS 2) 100000 (.func (.func 67) #[] #[]) true := ⟨rfl, rfl⟩
theorem kin_3 : KinAt 3 (kindS 3) 0 (.func (.func 68) #[] #[]) true := ⟨rfl, rfl⟩
theorem kin_4 : KinAt 4 (kindS 4) 0 (.func (.func 69) #[] #[]) true := ⟨rfl, rfl⟩
theorem kin_0 {k : Int} (h : ¬ (1 ≤ k ∧ k ≤ 4)) : KinAt k ⟨#[]⟩ 0 .nilFunc false := by
  obtain ⟨e1, e2, e3, e4⟩ := kin_no h
  exact ⟨by unfold kinV; rw [e1, e2, e3], e4⟩
/-- The kinds one by one: what the struct holds, and what its function answers. -/
theorem kin_yes {k : Int} (h : 1 ≤ k ∧ k ≤ 4) : (k = 1 ∧ hdA k = 3 ∧ hdB k = 2) ∨ (k = 2 ∧ hdA k = 3 ∧ hdB k = 4) ∨ (k = 3 ∧ hdA k = 2 ∧ hdB k = 1) ∨ (k = 4 ∧ hdA k = 1 ∧ hdB k = 2) := by
  rcases (show k = 1 ∨ k = 2 ∨ k = 3 ∨ k = 4 from by omega) with rfl | rfl | rfl | rfl
  · exact .inl ⟨rfl, rfl, rfl⟩
  · exact .inr (.inl ⟨rfl, rfl, rfl⟩)
  · exact .inr (.inr (.inl ⟨rfl, rfl, rfl⟩))
  · exact .inr (.inr (.inr ⟨rfl, rfl, rfl⟩))
theorem pairII {a b c d : Int} (h1 : a = c) (h2 : b = d) : Ending.returned (.tuple #[.int .i64 a, .int .i64 b]) = .returned (.tuple #[.int .i64 c, .int .i64 d]) := by rw [h1, h2]
theorem fifthP_impl (a t : Int) (h : 1 ≤ a ∧ a ≤ 10000000) (g : 1 ≤ t ∧ t ≤ 10000000) (w : World) : Calls Try.prog 66 #[.int .i64 a, .int .i64 t] w fun e w' => e = .returned (.tuple #[.int .i64 (3 * a), .int .i64 (2 * t)]) ∧ Below w.heap.size w w' := by
  obtain ⟨h1, h2⟩ := h
  obtain ⟨g1, g2⟩ := g
  go_enter Try.func66, Try.ntmps66
  go_wp2_with fail
  go_ret2
  exact ⟨rfl, Below.refl _ _⟩
theorem fourthP_impl (a t : Int) (h : 1 ≤ a ∧ a ≤ 10000000) (g : 1 ≤ t ∧ t ≤ 10000000) (w : World) : Calls Try.prog 67 #[.int .i64 a, .int .i64 t] w fun e w' => e = .returned (.tuple #[.int .i64 (3 * a), .int .i64 (4 * t)]) ∧ Below w.heap.size w w' := by
  obtain ⟨h1, h2⟩ := h
  obtain ⟨g1, g2⟩ := g
  go_enter Try.func67, Try.ntmps67
  go_wp2_with fail
  go_ret2
  exact ⟨rfl, Below.refl _ _⟩
theorem upP_impl (a t : Int) (h : 1 ≤ a ∧ a ≤ 10000000) (g : 1 ≤ t ∧ t ≤ 10000000) (w : World) : Calls Try.prog 68 #[.int .i64 a, .int .i64 t] w fun e w' => e = .returned (.tuple #[.int .i64 (2 * a), .int .i64 t]) ∧ Below w.heap.size w w' := by
  obtain ⟨h1, h2⟩ := h
  obtain ⟨g1, g2⟩ := g
  go_enter Try.func68, Try.ntmps68
  go_wp2_with fail
  go_ret2
  exact ⟨rfl, Below.refl _ _⟩
theorem downP_impl (a t : Int) (h : 1 ≤ a ∧ a ≤ 10000000) (g : 1 ≤ t ∧ t ≤ 10000000) (w : World) : Calls Try.prog 69 #[.int .i64 a, .int .i64 t] w fun e w' => e = .returned (.tuple #[.int .i64 a, .int .i64 (2 * t)]) ∧ Below w.heap.size w w' := by
  obtain ⟨h1, h2⟩ := h
  obtain ⟨g1, g2⟩ := g
  go_enter Try.func69, Try.ntmps69
  go_wp2_with fail
  go_ret2
  exact ⟨rfl, Below.refl _ _⟩
/-- What partialsHeard answers. -/
def HdOk (a t k : Int) : Prop := (1 ≤ k ∧ k ≤ 4) ∧ FineOk a ∧ FineOk t
instance (a t k : Int) : Decidable (HdOk a t k) := by unfold HdOk; infer_instance
end Go.Proofs.Ytbklnlmijkclmaa
