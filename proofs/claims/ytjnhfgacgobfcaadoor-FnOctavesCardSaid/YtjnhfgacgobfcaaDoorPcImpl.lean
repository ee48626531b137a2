/- Contract of impl.SamePitchClass. -/
import Derived.Test.YtjnhfgacgobfcaaDoorWithinImpl
import Derived.Test.YtjnhfgacgobfcaaDoorSameTone
namespace Go.Proofs.YtjnhfgacgobfcaaDoor
open Go.RowKit Go.Joins
set_option linter.unusedVariables false
set_option maxRecDepth 100000 in
set_option maxHeartbeats 4000000 in
theorem pc_impl {a b c d e f g h p q r s p' q' r' s' : Int} {u v : Bool} (h1 : WithinAt a b c d p q r s u) (h2 : WithinAt e f g h p' q' r' s' v) (w : World) :
    Calls Tryd.prog 15 #[ivV a b c d, ivV e f g h] w fun en w' => en = .returned (.bool (u && v && ((p == p') && (q == q') && (r == r') && (s == s')))) ∧ Below w.heap.size w w' := by
  have H1 := Lib.hid h1
  have H2 := Lib.hid h2
  clear h1 h2
  obtain ⟨C, hC⟩ : ∃ C, C = (u && v && ((p == p') && (q == q') && (r == r') && (s == s'))) := ⟨_, rfl⟩
  rw [← hC]
  have HC := Lib.hid hC
  clear hC
  go_enter Tryd.func15, Tryd.ntmps15
  go_upto_region 1 with fail
  obtain ⟨W0, hW, E0, E1, EB⟩ := boxesS w a b c d e f g h 25 25
  rw [← hW]
  have F1 := Lib.hid E1
  have B0 := Lib.hid EB
  obtain ⟨_, x0, x1, x2, x3⟩ := E0
  clear hW E1 EB
  go_wp2_with fail
  refine (within_impl H1.out _).mono ?_
  rintro en w1 ⟨rfl, hb⟩
  have G1 := Lib.hid (four_alF (o := .cells #[.int .i64 p, .int .i64 q, .int .i64 r, .int .i64 s] 25) (four_keep hb F1.out))
  have G0 := Lib.hid (four_alloc (w := w1) (p := p) (q := q) (r := r) (s := s) (t := 25))
  have B1 := Lib.hid ((B0.out.trans (hb.mono B0.out.size)).alloc (by have := hb.size; have := B0.out.size; omega) (.cells #[.int .i64 p, .int .i64 q, .int .i64 r, .int .i64 s] 25))
  clear x0 x1 x2 x3 hb F1 B0
  go_upto_region 2 with fail
  obtain ⟨W1, hW1⟩ : ∃ W, W = w1.alloc (.cells #[.int .i64 p, .int .i64 q, .int .i64 r, .int .i64 s] 25) := ⟨_, rfl⟩
  obtain ⟨k, hk⟩ : ∃ k, k = w1.heap.size := ⟨_, rfl⟩
  rw [← hW1] at G0 G1 B1 ⊢
  rw [← hk] at G0 ⊢
  clear hW1 hk
  obtain ⟨_, x0, x1, x2, x3⟩ := G1.out
  go_wp2_with fail
  refine (within_impl H2.out _).mono ?_
  rintro en w2 ⟨rfl, hb⟩
  have G2 := Lib.hid (four_alF (o := .cells #[.int .i64 p', .int .i64 q', .int .i64 r', .int .i64 s'] 25) (four_keep hb G0.out))
  have G3 := Lib.hid (four_alloc (w := w2) (p := p') (q := q') (r := r') (s := s') (t := 25))
  have B2 := Lib.hid ((B1.out.trans (hb.mono B1.out.size)).alloc (by have := hb.size; have := B1.out.size; omega) (.cells #[.int .i64 p', .int .i64 q', .int .i64 r', .int .i64 s'] 25))
  clear x0 x1 x2 x3 hb G0 G1 B1 H1 H2
  go_upto_region 3 with fail
  obtain ⟨W2, hW2⟩ : ∃ W, W = w2.alloc (.cells #[.int .i64 p', .int .i64 q', .int .i64 r', .int .i64 s'] 25) := ⟨_, rfl⟩
  obtain ⟨l, hl⟩ : ∃ k, k = w2.heap.size := ⟨_, rfl⟩
  rw [← hW2] at G2 G3 B2 ⊢
  rw [← hl] at G3 ⊢
  clear hW2 hl
  obtain ⟨_, x0, x1, x2, x3⟩ := G2.out
  obtain ⟨_, y0, y1, y2, y3⟩ := G3.out
  obtain ⟨x, hx⟩ : ∃ x : Bool, (p == p') = x := ⟨_, rfl⟩
  obtain ⟨y, hy⟩ : ∃ x : Bool, (q == q') = x := ⟨_, rfl⟩
  obtain ⟨z, hz⟩ : ∃ x : Bool, (r == r') = x := ⟨_, rfl⟩
  obtain ⟨t, ht⟩ : ∃ x : Bool, (s == s') = x := ⟨_, rfl⟩
  have Y := Lib.hid HC.out
  rw [hx, hy, hz, ht] at Y
  clear HC G2 G3
  cases u
  · clear hx hy hz ht
    go_wp2_with fail
    go_ret
    exact ⟨ret_boolT (by rw [Y.out]; rfl), B2.out⟩
  · cases v
    · clear hx hy hz ht
      go_wp2_with fail
      go_ret
      exact ⟨ret_boolT (by rw [Y.out]; rfl), B2.out⟩
    · cases x
      · clear hy hz ht
        go_wp2_with fail
        go_ret
        exact ⟨ret_boolT (by rw [Y.out]; rfl), B2.out⟩
      · cases y
        · clear hz ht
          go_wp2_with fail
          go_ret
          exact ⟨ret_boolT (by rw [Y.out]; rfl), B2.out⟩
        · cases z
          · clear ht
            go_wp2_with fail
            go_ret
            exact ⟨ret_boolT (by rw [Y.out]; rfl), B2.out⟩
          · cases t
            all_goals
              go_wp2_with fail
              go_ret
              exact ⟨ret_boolT (by rw [Y.out]; rfl), B2.out⟩
end Go.Proofs.YtjnhfgacgobfcaaDoor
