/- Contract of impl.SameSize. -/
import Derived.Test.YtdnlebijmiaclabDoorSameTone
namespace Go.Proofs.YtdnlebijmiaclabDoor
open Go.RowKit Go.Joins
set_option linter.unusedVariables false
set_option maxRecDepth 100000 in
set_option maxHeartbeats 4000000 in
theorem sameSize_impl_no1 (a b c d e f g h : Int) (w : World) (hx : okI a b c d = false) :
    Calls Tryd.prog 23 #[ivV a b c d, ivV e f g h] w fun en w' => en = .returned (.bool (same8 a b c d e f g h)) ∧ Below w.heap.size w w' := by
  have OX : OkAt a b c d false := hx
  have Y := Lib.hid (same8_no1 (e := e) (f := f) (g := g) (h := h) hx)
  clear hx
  go_enter Tryd.func23, Tryd.ntmps23
  go_upto_region 1 with fail
  obtain ⟨W0, hW, E0, E1, EB⟩ := boxesS w a b c d e f g h 25 25
  rw [← hW]
  have TB : Hid (PairS w.heap.size a b c d e f g h W0) := Lib.hid ⟨E0, E1⟩
  have B0 := Lib.hid EB
  clear hW E0 E1 EB
  obtain ⟨n, hn⟩ : ∃ n, n = w.heap.size := ⟨_, rfl⟩
  rw [← hn] at TB ⊢
  clear hn
  obtain ⟨x0, x1, x2, x3, y0, y1, y2, y3⟩ := pairS_cells TB.out
  clear TB
  go_region_with (first | (go_at_call 24; refine (calls_fromS (W := W0) (by with_reducible first | assumption | exact (Below.refl _ _).drew) (okAt_impl (by with_reducible assumption) _)).mono ?_; rintro e1 w1 ⟨rfl, hb⟩))
  all_goals
    go_wp2_with fail
    go_ret
    exact ⟨ret_boolT (by rw [Y.out]), B0.out.trans (hb.mono B0.out.size)⟩
set_option maxRecDepth 100000 in
set_option maxHeartbeats 4000000 in
theorem sameSize_impl_no2 (a b c d e f g h : Int) (w : World) (hx : okI a b c d = true) (hy : okI e f g h = false) :
    Calls Tryd.prog 23 #[ivV a b c d, ivV e f g h] w fun en w' => en = .returned (.bool (same8 a b c d e f g h)) ∧ Below w.heap.size w w' := by
  have OX : OkAt a b c d true := hx
  have OY : OkAt e f g h false := hy
  have Y := Lib.hid (same8_no2 (a := a) (b := b) (c := c) (d := d) hy)
  clear hx hy
  go_enter Tryd.func23, Tryd.ntmps23
  go_upto_region 1 with fail
  obtain ⟨W0, hW, E0, E1, EB⟩ := boxesS w a b c d e f g h 25 25
  rw [← hW]
  have TB : Hid (PairS w.heap.size a b c d e f g h W0) := Lib.hid ⟨E0, E1⟩
  have B0 := Lib.hid EB
  clear hW E0 E1 EB
  obtain ⟨n, hn⟩ : ∃ n, n = w.heap.size := ⟨_, rfl⟩
  rw [← hn] at TB ⊢
  clear hn
  obtain ⟨x0, x1, x2, x3, y0, y1, y2, y3⟩ := pairS_cells TB.out
  go_region_with (first | (go_at_call 24; refine (calls_fromS (W := W0) (by with_reducible first | assumption | exact (Below.refl _ _).drew) (okAt_impl (by with_reducible assumption) _)).mono ?_; rintro e1 w1 ⟨rfl, hb⟩; obtain ⟨z0, z1, z2, z3, u0, u1, u2, u3⟩ := pairS_cells (pairS_keep hb TB.out)))
  all_goals
    go_wp2_with fail
    go_ret
    exact ⟨ret_boolT (by rw [Y.out]), B0.out.trans (hb.mono B0.out.size)⟩
set_option maxRecDepth 100000 in
set_option maxHeartbeats 4000000 in
theorem sameSize_impl_yes (a b c d e f g h : Int) (w : World) (hx : okI a b c d = true) (hy : okI e f g h = true) :
    Calls Tryd.prog 23 #[ivV a b c d, ivV e f g h] w fun en w' => en = .returned (.bool (same8 a b c d e f g h)) ∧ Below w.heap.size w w' := by
  have OX : OkAt a b c d true := hx
  have OY : OkAt e f g h true := hy
  obtain ⟨p, q, r, s, SX⟩ := simAt_ex hx
  obtain ⟨p', q', r', s', SY⟩ := simAt_ex hy
  have Y := Lib.hid (same8_at SX SY)
  clear hx hy
  obtain ⟨x, hx⟩ : ∃ x : Bool, (p == p') = x := ⟨_, rfl⟩
  obtain ⟨y, hy⟩ : ∃ x : Bool, (q == q') = x := ⟨_, rfl⟩
  obtain ⟨z, hz⟩ : ∃ x : Bool, (r == r') = x := ⟨_, rfl⟩
  obtain ⟨t, ht⟩ : ∃ x : Bool, (s == s') = x := ⟨_, rfl⟩
  rw [hx, hy, hz, ht] at Y
  cases x
  · clear hy hz ht
    go_enter Tryd.func23, Tryd.ntmps23
    go_upto_region 1 with fail
    obtain ⟨W0, hW, E0, E1, EB⟩ := boxesS w a b c d e f g h 25 25
    rw [← hW]
    have TB : Hid (PairS w.heap.size a b c d e f g h W0) := Lib.hid ⟨E0, E1⟩
    have B0 := Lib.hid EB
    clear hW E0 E1 EB
    obtain ⟨n, hn⟩ : ∃ n, n = w.heap.size := ⟨_, rfl⟩
    rw [← hn] at TB ⊢
    clear hn
    go_region_held3 (fun w' => w'.cell? ⟨n, 0, none⟩ = some (.int .i64 a) ∧ w'.cell? ⟨n, 1, none⟩ = some (.int .i64 b) ∧ w'.cell? ⟨n, 2, none⟩ = some (.int .i64 c) ∧ w'.cell? ⟨n, 3, none⟩ = some (.int .i64 d) ∧ w'.cell? ⟨n + 1, 0, none⟩ = some (.int .i64 e) ∧ w'.cell? ⟨n + 1, 1, none⟩ = some (.int .i64 f) ∧ w'.cell? ⟨n + 1, 2, none⟩ = some (.int .i64 g) ∧ w'.cell? ⟨n + 1, 3, none⟩ = some (.int .i64 h)) (with_reducible first | exact pairS_cells (pairS_drew TB.out) | exact pairS_cells (pairS_keep (by assumption) TB.out) | exact pairS_cells TB.out)
      (first
        | (go_at_call 24; refine (calls_fromS (W := W0) (by with_reducible first | assumption | exact (Below.refl _ _).drew) (okAt_impl (by with_reducible assumption) _)).mono ?_; rintro e1 w1 ⟨rfl, hb⟩)
        | (go_at_call 36; refine (calls_fromS (W := W0) (by with_reducible first | assumption | exact (Below.refl _ _).drew) (simAt_impl (by with_reducible assumption) _)).mono ?_; rintro e1 w1 ⟨rfl, hb⟩))
    all_goals
      go_wp2_with fail
      go_ret
      exact ⟨ret_boolT (by rw [Y.out]; rfl), B0.out.trans (hb.mono B0.out.size)⟩
  · cases y
    · clear hz ht
      go_enter Tryd.func23, Tryd.ntmps23
      go_upto_region 1 with fail
      obtain ⟨W0, hW, E0, E1, EB⟩ := boxesS w a b c d e f g h 25 25
      rw [← hW]
      have TB : Hid (PairS w.heap.size a b c d e f g h W0) := Lib.hid ⟨E0, E1⟩
      have B0 := Lib.hid EB
      clear hW E0 E1 EB
      obtain ⟨n, hn⟩ : ∃ n, n = w.heap.size := ⟨_, rfl⟩
      rw [← hn] at TB ⊢
      clear hn
      go_region_held3 (fun w' => w'.cell? ⟨n, 0, none⟩ = some (.int .i64 a) ∧ w'.cell? ⟨n, 1, none⟩ = some (.int .i64 b) ∧ w'.cell? ⟨n, 2, none⟩ = some (.int .i64 c) ∧ w'.cell? ⟨n, 3, none⟩ = some (.int .i64 d) ∧ w'.cell? ⟨n + 1, 0, none⟩ = some (.int .i64 e) ∧ w'.cell? ⟨n + 1, 1, none⟩ = some (.int .i64 f) ∧ w'.cell? ⟨n + 1, 2, none⟩ = some (.int .i64 g) ∧ w'.cell? ⟨n + 1, 3, none⟩ = some (.int .i64 h)) (with_reducible first | exact pairS_cells (pairS_drew TB.out) | exact pairS_cells (pairS_keep (by assumption) TB.out) | exact pairS_cells TB.out)
        (first
          | (go_at_call 24; refine (calls_fromS (W := W0) (by with_reducible first | assumption | exact (Below.refl _ _).drew) (okAt_impl (by with_reducible assumption) _)).mono ?_; rintro e1 w1 ⟨rfl, hb⟩)
          | (go_at_call 36; refine (calls_fromS (W := W0) (by with_reducible first | assumption | exact (Below.refl _ _).drew) (simAt_impl (by with_reducible assumption) _)).mono ?_; rintro e1 w1 ⟨rfl, hb⟩))
      all_goals
        go_wp2_with fail
        go_ret
        exact ⟨ret_boolT (by rw [Y.out]; rfl), B0.out.trans (hb.mono B0.out.size)⟩
    · cases z
      · clear ht
        go_enter Tryd.func23, Tryd.ntmps23
        go_upto_region 1 with fail
        obtain ⟨W0, hW, E0, E1, EB⟩ := boxesS w a b c d e f g h 25 25
        rw [← hW]
        have TB : Hid (PairS w.heap.size a b c d e f g h W0) := Lib.hid ⟨E0, E1⟩
        have B0 := Lib.hid EB
        clear hW E0 E1 EB
        obtain ⟨n, hn⟩ : ∃ n, n = w.heap.size := ⟨_, rfl⟩
        rw [← hn] at TB ⊢
        clear hn
        go_region_held3 (fun w' => w'.cell? ⟨n, 0, none⟩ = some (.int .i64 a) ∧ w'.cell? ⟨n, 1, none⟩ = some (.int .i64 b) ∧ w'.cell? ⟨n, 2, none⟩ = some (.int .i64 c) ∧ w'.cell? ⟨n, 3, none⟩ = some (.int .i64 d) ∧ w'.cell? ⟨n + 1, 0, none⟩ = some (.int .i64 e) ∧ w'.cell? ⟨n + 1, 1, none⟩ = some (.int .i64 f) ∧ w'.cell? ⟨n + 1, 2, none⟩ = some (.int .i64 g) ∧ w'.cell? ⟨n + 1, 3, none⟩ = some (.int .i64 h)) (with_reducible first | exact pairS_cells (pairS_drew TB.out) | exact pairS_cells (pairS_keep (by assumption) TB.out) | exact pairS_cells TB.out)
          (first
            | (go_at_call 24; refine (calls_fromS (W := W0) (by with_reducible first | assumption | exact (Below.refl _ _).drew) (okAt_impl (by with_reducible assumption) _)).mono ?_; rintro e1 w1 ⟨rfl, hb⟩)
            | (go_at_call 36; refine (calls_fromS (W := W0) (by with_reducible first | assumption | exact (Below.refl _ _).drew) (simAt_impl (by with_reducible assumption) _)).mono ?_; rintro e1 w1 ⟨rfl, hb⟩))
        all_goals
          go_wp2_with fail
          go_ret
          exact ⟨ret_boolT (by rw [Y.out]; rfl), B0.out.trans (hb.mono B0.out.size)⟩
      · cases t
        all_goals
          go_enter Tryd.func23, Tryd.ntmps23
          go_upto_region 1 with fail
          obtain ⟨W0, hW, E0, E1, EB⟩ := boxesS w a b c d e f g h 25 25
          rw [← hW]
          have TB : Hid (PairS w.heap.size a b c d e f g h W0) := Lib.hid ⟨E0, E1⟩
          have B0 := Lib.hid EB
          clear hW E0 E1 EB
          obtain ⟨n, hn⟩ : ∃ n, n = w.heap.size := ⟨_, rfl⟩
          rw [← hn] at TB ⊢
          clear hn
          go_region_held3 (fun w' => w'.cell? ⟨n, 0, none⟩ = some (.int .i64 a) ∧ w'.cell? ⟨n, 1, none⟩ = some (.int .i64 b) ∧ w'.cell? ⟨n, 2, none⟩ = some (.int .i64 c) ∧ w'.cell? ⟨n, 3, none⟩ = some (.int .i64 d) ∧ w'.cell? ⟨n + 1, 0, none⟩ = some (.int .i64 e) ∧ w'.cell? ⟨n + 1, 1, none⟩ = some (.int .i64 f) ∧ w'.cell? ⟨n + 1, 2, none⟩ = some (.int .i64 g) ∧ w'.cell? ⟨n + 1, 3, none⟩ = some (.int .i64 h)) (with_reducible first | exact pairS_cells (pairS_drew TB.out) | exact pairS_cells (pairS_keep (by assumption) TB.out) | exact pairS_cells TB.out)
            (first
              | (go_at_call 24; refine (calls_fromS (W := W0) (by with_reducible first | assumption | exact (Below.refl _ _).drew) (okAt_impl (by with_reducible assumption) _)).mono ?_; rintro e1 w1 ⟨rfl, hb⟩)
              | (go_at_call 36; refine (calls_fromS (W := W0) (by with_reducible first | assumption | exact (Below.refl _ _).drew) (simAt_impl (by with_reducible assumption) _)).mono ?_; rintro e1 w1 ⟨rfl, hb⟩))
          all_goals
            go_wp2_with fail
            go_ret
            exact ⟨ret_boolT (by rw [Y.out]; rfl), B0.out.trans (hb.mono B0.out.size)⟩
theorem sameSize_impl (a b c d e f g h : Int) (w : World) :
    Calls Tryd.prog 23 #[ivV a b c d, ivV e f g h] w fun en w' => en = .returned (.bool (same8 a b c d e f g h)) ∧ Below w.heap.size w w' := by
  by_cases hx : okI a b c d = true
  · by_cases hy : okI e f g h = true
    · exact sameSize_impl_yes a b c d e f g h w hx hy
    · exact sameSize_impl_no2 a b c d e f g h w hx (Bool.eq_false_iff.2 hy)
  · exact sameSize_impl_no1 a b c d e f g h w (Bool.eq_false_iff.2 hx)
end Go.Proofs.YtdnlebijmiaclabDoor
