/- The walks of the exact laws of chapter 11. -/
import Derived.Test.YtekecdkbnlpipaaSMeanTone
namespace Go.Proofs.Ytekecdkbnlpipaa
open Go.RowKit Go.Joins
set_option linter.unusedVariables false
set_option maxRecDepth 100000 in
set_option maxHeartbeats 2000000 in
theorem walk_FnExactMeanFifth (num : Int) (wnum : (Lit.int .i64 num).wf = true) (den : Int) (wden : (Lit.int .i64 den).wf = true) (w : World) :
    Calls Try.prog 3 #[.int .i64 num, .int .i64 den] w fun e w' => e = .returned (.bool true) ∧ Below w.heap.size w w' := by
  obtain ⟨p, q, r, s, y, h⟩ := mfAt_ex num den
  have HS := Lib.hid (fun w => mean_spec h w)
  have HI := Lib.hid (fun w => mean_impl h w)
  clear h wnum wden
  go_enter Try.func3, Try.ntmps3
  go_wp2_with fail
  refine (HS.out _).mono ?_
  rintro e w1 ⟨rfl, hb⟩
  have B1 := Lib.hid (below_more hb (.cells #[.int .i64 p, .int .i64 q, .int .i64 r, .int .i64 s] 23))
  have G1 := Lib.hid (four_alloc (w := w1) (p := p) (q := q) (r := r) (s := s) (t := 23))
  clear hb HS
  go_upto_region 2 with fail
  obtain ⟨W1, hW⟩ : ∃ W, W = w1.alloc (.cells #[.int .i64 p, .int .i64 q, .int .i64 r, .int .i64 s] 23) := ⟨_, rfl⟩
  rw [← hW] at B1 G1 ⊢
  clear hW
  generalize w1.heap.size = k at G1 ⊢
  go_wp2_with fail
  refine (HI.out _).mono ?_
  rintro e w2 ⟨rfl, hb⟩
  have G2 := Lib.hid (four_alF (o := .cells #[.int .i64 p, .int .i64 q, .int .i64 r, .int .i64 s] 23) (four_keep hb G1.out))
  have K2 := Lib.hid (four_alloc (w := w2) (p := p) (q := q) (r := r) (s := s) (t := 23))
  have B2 := Lib.hid (below_more (B1.out.trans (hb.mono B1.out.size)) (.cells #[.int .i64 p, .int .i64 q, .int .i64 r, .int .i64 s] 23))
  clear hb HI B1 G1
  go_upto_region 3 with fail
  obtain ⟨W2, hW⟩ : ∃ W, W = w2.alloc (.cells #[.int .i64 p, .int .i64 q, .int .i64 r, .int .i64 s] 23) := ⟨_, rfl⟩
  rw [← hW] at B2 G2 K2 ⊢
  clear hW
  generalize w2.heap.size = l at K2 ⊢
  obtain ⟨_, x0, x1, x2, x3⟩ := G2.out
  obtain ⟨_, y0, y1, y2, y3⟩ := K2.out
  have ty : (y != y) = false := by cases y <;> rfl
  go_wp2_with fail
  refine (eqInterval_same _ _ _ _ _).mono ?_
  rintro e w3 ⟨rfl, hb⟩
  have B3 := Lib.hid (B2.out.trans (hb.mono B2.out.size))
  clear hb B2 G2 K2 x0 x1 x2 x3 y0 y1 y2 y3
  go_wp2_with fail
  go_ret
  exact ⟨rfl, B3.out⟩
set_option maxRecDepth 100000 in
set_option maxHeartbeats 2000000 in
theorem walk_FnExactMeanTone (num : Int) (wnum : (Lit.int .i64 num).wf = true) (den : Int) (wden : (Lit.int .i64 den).wf = true) (n : Int) (wn : (Lit.int .i64 n).wf = true) (w : World) :
    Calls Try.prog 4 #[.int .i64 num, .int .i64 den, .int .i64 n] w fun e w' => e = .returned (.bool true) ∧ Below w.heap.size w w' := by
  obtain ⟨p, q, r, s, y, h⟩ := mtAt_ex num den n
  have HS := Lib.hid (fun w => mtone_spec h w)
  have HI := Lib.hid (fun w => mtone_impl h w)
  clear h wnum wden wn
  go_enter Try.func4, Try.ntmps4
  go_wp2_with fail
  refine (HS.out _).mono ?_
  rintro e w1 ⟨rfl, hb⟩
  have B1 := Lib.hid (below_more hb (.cells #[.int .i64 p, .int .i64 q, .int .i64 r, .int .i64 s] 23))
  have G1 := Lib.hid (four_alloc (w := w1) (p := p) (q := q) (r := r) (s := s) (t := 23))
  clear hb HS
  go_upto_region 2 with fail
  obtain ⟨W1, hW⟩ : ∃ W, W = w1.alloc (.cells #[.int .i64 p, .int .i64 q, .int .i64 r, .int .i64 s] 23) := ⟨_, rfl⟩
  rw [← hW] at B1 G1 ⊢
  clear hW
  generalize w1.heap.size = k at G1 ⊢
  go_wp2_with fail
  refine (HI.out _).mono ?_
  rintro e w2 ⟨rfl, hb⟩
  have G2 := Lib.hid (four_alF (o := .cells #[.int .i64 p, .int .i64 q, .int .i64 r, .int .i64 s] 23) (four_keep hb G1.out))
  have K2 := Lib.hid (four_alloc (w := w2) (p := p) (q := q) (r := r) (s := s) (t := 23))
  have B2 := Lib.hid (below_more (B1.out.trans (hb.mono B1.out.size)) (.cells #[.int .i64 p, .int .i64 q, .int .i64 r, .int .i64 s] 23))
  clear hb HI B1 G1
  go_upto_region 3 with fail
  obtain ⟨W2, hW⟩ : ∃ W, W = w2.alloc (.cells #[.int .i64 p, .int .i64 q, .int .i64 r, .int .i64 s] 23) := ⟨_, rfl⟩
  rw [← hW] at B2 G2 K2 ⊢
  clear hW
  generalize w2.heap.size = l at K2 ⊢
  obtain ⟨_, x0, x1, x2, x3⟩ := G2.out
  obtain ⟨_, y0, y1, y2, y3⟩ := K2.out
  have ty : (y != y) = false := by cases y <;> rfl
  go_wp2_with fail
  refine (eqInterval_same _ _ _ _ _).mono ?_
  rintro e w3 ⟨rfl, hb⟩
  have B3 := Lib.hid (B2.out.trans (hb.mono B2.out.size))
  clear hb B2 G2 K2 x0 x1 x2 x3 y0 y1 y2 y3
  go_wp2_with fail
  go_ret
  exact ⟨rfl, B3.out⟩
set_option maxRecDepth 100000 in
set_option maxHeartbeats 2000000 in
theorem walk_FnExactMeanThird (num : Int) (wnum : (Lit.int .i64 num).wf = true) (den : Int) (wden : (Lit.int .i64 den).wf = true) (w : World) :
    Calls Try.prog 5 #[.int .i64 num, .int .i64 den] w fun e w' => e = .returned (.bool true) ∧ Below w.heap.size w w' := by
  obtain ⟨p, q, r, s, y, h⟩ := mtAt_ex num den 4
  have HS := Lib.hid (fun w => mthird_spec h w)
  have HI := Lib.hid (fun w => mthird_impl h w)
  clear h wnum wden
  go_enter Try.func5, Try.ntmps5
  go_wp2_with fail
  refine (HS.out _).mono ?_
  rintro e w1 ⟨rfl, hb⟩
  have B1 := Lib.hid (below_more hb (.cells #[.int .i64 p, .int .i64 q, .int .i64 r, .int .i64 s] 23))
  have G1 := Lib.hid (four_alloc (w := w1) (p := p) (q := q) (r := r) (s := s) (t := 23))
  clear hb HS
  go_upto_region 2 with fail
  obtain ⟨W1, hW⟩ : ∃ W, W = w1.alloc (.cells #[.int .i64 p, .int .i64 q, .int .i64 r, .int .i64 s] 23) := ⟨_, rfl⟩
  rw [← hW] at B1 G1 ⊢
  clear hW
  generalize w1.heap.size = k at G1 ⊢
  go_wp2_with fail
  refine (HI.out _).mono ?_
  rintro e w2 ⟨rfl, hb⟩
  have G2 := Lib.hid (four_alF (o := .cells #[.int .i64 p, .int .i64 q, .int .i64 r, .int .i64 s] 23) (four_keep hb G1.out))
  have K2 := Lib.hid (four_alloc (w := w2) (p := p) (q := q) (r := r) (s := s) (t := 23))
  have B2 := Lib.hid (below_more (B1.out.trans (hb.mono B1.out.size)) (.cells #[.int .i64 p, .int .i64 q, .int .i64 r, .int .i64 s] 23))
  clear hb HI B1 G1
  go_upto_region 3 with fail
  obtain ⟨W2, hW⟩ : ∃ W, W = w2.alloc (.cells #[.int .i64 p, .int .i64 q, .int .i64 r, .int .i64 s] 23) := ⟨_, rfl⟩
  rw [← hW] at B2 G2 K2 ⊢
  clear hW
  generalize w2.heap.size = l at K2 ⊢
  obtain ⟨_, x0, x1, x2, x3⟩ := G2.out
  obtain ⟨_, y0, y1, y2, y3⟩ := K2.out
  have ty : (y != y) = false := by cases y <;> rfl
  go_wp2_with fail
  refine (eqInterval_same _ _ _ _ _).mono ?_
  rintro e w3 ⟨rfl, hb⟩
  have B3 := Lib.hid (B2.out.trans (hb.mono B2.out.size))
  clear hb B2 G2 K2 x0 x1 x2 x3 y0 y1 y2 y3
  go_wp2_with fail
  go_ret
  exact ⟨rfl, B3.out⟩
set_option maxRecDepth 100000 in
set_option maxHeartbeats 2000000 in
theorem walk_FnExactWolfOf (num : Int) (wnum : (Lit.int .i64 num).wf = true) (den : Int) (wden : (Lit.int .i64 den).wf = true) (w : World) :
    Calls Try.prog 6 #[.int .i64 num, .int .i64 den] w fun e w' => e = .returned (.bool true) ∧ Below w.heap.size w w' := by
  obtain ⟨p, q, r, s, y, h⟩ := wfAt_ex num den
  have HS := Lib.hid (fun w => wolf_spec h w)
  have HI := Lib.hid (fun w => wolf_impl h w)
  clear h wnum wden
  go_enter Try.func6, Try.ntmps6
  go_wp2_with fail
  refine (HS.out _).mono ?_
  rintro e w1 ⟨rfl, hb⟩
  have B1 := Lib.hid (below_more hb (.cells #[.int .i64 p, .int .i64 q, .int .i64 r, .int .i64 s] 23))
  have G1 := Lib.hid (four_alloc (w := w1) (p := p) (q := q) (r := r) (s := s) (t := 23))
  clear hb HS
  go_upto_region 2 with fail
  obtain ⟨W1, hW⟩ : ∃ W, W = w1.alloc (.cells #[.int .i64 p, .int .i64 q, .int .i64 r, .int .i64 s] 23) := ⟨_, rfl⟩
  rw [← hW] at B1 G1 ⊢
  clear hW
  generalize w1.heap.size = k at G1 ⊢
  go_wp2_with fail
  refine (HI.out _).mono ?_
  rintro e w2 ⟨rfl, hb⟩
  have G2 := Lib.hid (four_alF (o := .cells #[.int .i64 p, .int .i64 q, .int .i64 r, .int .i64 s] 23) (four_keep hb G1.out))
  have K2 := Lib.hid (four_alloc (w := w2) (p := p) (q := q) (r := r) (s := s) (t := 23))
  have B2 := Lib.hid (below_more (B1.out.trans (hb.mono B1.out.size)) (.cells #[.int .i64 p, .int .i64 q, .int .i64 r, .int .i64 s] 23))
  clear hb HI B1 G1
  go_upto_region 3 with fail
  obtain ⟨W2, hW⟩ : ∃ W, W = w2.alloc (.cells #[.int .i64 p, .int .i64 q, .int .i64 r, .int .i64 s] 23) := ⟨_, rfl⟩
  rw [← hW] at B2 G2 K2 ⊢
  clear hW
  generalize w2.heap.size = l at K2 ⊢
  obtain ⟨_, x0, x1, x2, x3⟩ := G2.out
  obtain ⟨_, y0, y1, y2, y3⟩ := K2.out
  have ty : (y != y) = false := by cases y <;> rfl
  go_wp2_with fail
  refine (eqInterval_same _ _ _ _ _).mono ?_
  rintro e w3 ⟨rfl, hb⟩
  have B3 := Lib.hid (B2.out.trans (hb.mono B2.out.size))
  clear hb B2 G2 K2 x0 x1 x2 x3 y0 y1 y2 y3
  go_wp2_with fail
  go_ret
  exact ⟨rfl, B3.out⟩
set_option maxHeartbeats 1000000 in
theorem walk_FnExactIsThirdPure (num : Int) (wnum : (Lit.int .i64 num).wf = true) (den : Int) (wden : (Lit.int .i64 den).wf = true) (w : World) :
    Calls Try.prog 7 #[.int .i64 num, .int .i64 den] w fun e w' => e = .returned (.bool true) ∧ Below w.heap.size w w' := by
  obtain ⟨y, h⟩ := tpAt_ex num den
  have HS := Lib.hid (fun w => third_spec h w)
  have HI := Lib.hid (fun w => third_impl h w)
  clear h wnum wden
  go_enter Try.func7, Try.ntmps7
  go_wp2_with fail
  refine (HS.out _).mono ?_
  rintro e w1 ⟨rfl, hb⟩
  have B1 := Lib.hid hb
  clear hb HS
  go_wp2_with fail
  refine (HI.out _).mono ?_
  rintro e w2 ⟨rfl, hb⟩
  have B2 := Lib.hid (B1.out.trans (hb.mono B1.out.size))
  clear hb HI B1
  have ty : (y != y) = false := by cases y <;> rfl
  go_wp2_with fail
  go_ret
  exact ⟨rfl, B2.out⟩
end Go.Proofs.Ytekecdkbnlpipaa
