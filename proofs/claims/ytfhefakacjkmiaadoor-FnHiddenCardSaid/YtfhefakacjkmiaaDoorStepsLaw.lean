/- impl.StepsIn, and the walk of laws.FnExactStepsIn. -/
import Derived.Test.YtfhefakacjkmiaaDoorStepsIn
namespace Go.Proofs.YtfhefakacjkmiaaDoor
open Go.RowKit Go.Joins
set_option linter.unusedVariables false
theorem inParts_of {b c t h f d x y s : Int} (hx : b * h = x) (hy : c * f = y) (hs : x + y = s) (x0 : -1000000 ≤ x) (x1 : x ≤ 1000000) (y0 : -1000000 ≤ y) (y1 : y ≤ 1000000) (w : World) :
    Calls Tryd.prog 61 #[pairV b c, ivV t h f d] w fun e w' => e = .returned (.int .i64 s) ∧ Below w.heap.size w w' := by
  subst hs; exact inParts_impl hx hy x0 x1 y0 y1 w
/-- The cells that the last region reads. -/
abbrev DF (m n : Nat) (a b c t h f d : Int) (w : World) : Prop := w.cell? ⟨m, 0, none⟩ = some (.int .i64 a) ∧ w.cell? ⟨m, 1, none⟩ = some (.int .i64 b) ∧ w.cell? ⟨m, 2, none⟩ = some (.int .i64 c) ∧ w.cell? ⟨n + 1, 0, none⟩ = some (.int .i64 t) ∧ w.cell? ⟨n + 1, 1, none⟩ = some (.int .i64 h) ∧ w.cell? ⟨n + 1, 2, none⟩ = some (.int .i64 f) ∧ w.cell? ⟨n + 1, 3, none⟩ = some (.int .i64 d)
theorem df_of {w : World} {n : Nat} {a b c t h f d : Int} {T : TypeId} (hn : n + 1 < w.heap.size) (H : TF n a b c t h f d w) : DF w.heap.size n a b c t h f d (w.alloc (.cells #[.int .i64 a, .int .i64 b, .int .i64 c] T)) := by
  obtain ⟨_, _, _, h3, h4, h5, h6⟩ := tf_keep hn ((Below.refl _ _).alloc (Nat.le_refl _) (.cells #[.int .i64 a, .int .i64 b, .int .i64 c] T)) H
  obtain ⟨_, z0, z1, z2⟩ := tri_alloc (w := w) (p := a) (q := b) (r := c) (t := T)
  exact ⟨z0, z1, z2, h3, h4, h5, h6⟩
theorem df_drew {w : World} {m n : Nat} {a b c t h f d : Int} (H : DF m n a b c t h f d w) : DF m n a b c t h f d w.drew := H
theorem df_keep {W w : World} {m n : Nat} {a b c t h f d : Int} (hm : m < W.heap.size) (hn : n + 1 < W.heap.size) (hb : Below W.heap.size W w) (H : DF m n a b c t h f d W) : DF m n a b c t h f d w := by
  obtain ⟨h0, h1, h2, h3, h4, h5, h6⟩ := H
  exact ⟨(hb.cell (by show m < _; omega)).trans h0, (hb.cell (by show m < _; omega)).trans h1, (hb.cell (by show m < _; omega)).trans h2, (hb.cell (by show n + 1 < _; omega)).trans h3, (hb.cell (by show n + 1 < _; omega)).trans h4, (hb.cell (by show n + 1 < _; omega)).trans h5, (hb.cell (by show n + 1 < _; omega)).trans h6⟩
set_option maxHeartbeats 4000000 in
theorem steps_impl {a b c t h f d z : Int} {y : Bool} (H : StepsAt a b c t h f d z y) (w : World) :
    Calls Tryd.prog 39 #[mapV a b c, ivV t h f d] w fun e w' => e = .returned (.tuple #[.int .i64 z, .bool y]) ∧ Below w.heap.size w w' := by
  have H2 : (okM a b c = true ∧ pure9 t h f d = true ∧ (∃ p q r, ProdAt a b c t h f p q r z) ∧ y = true) ∨ (okM a b c = false ∧ z = 0 ∧ y = false) ∨ (okM a b c = true ∧ pure9 t h f d = false ∧ z = 0 ∧ y = false) := by
    rcases H with ⟨hm, hi, hd, hp, hy⟩ | ⟨hm, hz, hy⟩ | ⟨hm, hi, hz, hy⟩ | ⟨hm, hi, hd, hz, hy⟩
    · exact .inl ⟨hm, by unfold pure9; rw [hi, hd]; rfl, hp, hy⟩
    · exact .inr (.inl ⟨hm, hz, hy⟩)
    · exact .inr (.inr ⟨hm, by unfold pure9; rw [hi]; rfl, hz, hy⟩)
    · exact .inr (.inr ⟨hm, by unfold pure9; rw [hi]; simp [hd], hz, hy⟩)
  clear H
  rcases H2 with ⟨hm, hi, ⟨p, q, r, hp⟩, rfl⟩ | ⟨hm, rfl, rfl⟩ | ⟨hm, hi, rfl, rfl⟩
  · obtain ⟨s, hs⟩ : ∃ s, q + r = s := ⟨_, rfl⟩
    have HM := Lib.hid (fun w => mapOkB hm w)
    have HI := Lib.hid (fun w => pure9B hi w)
    have HIN := Lib.hid (fun w => inParts_of (t := t) (d := d) hp.q0 hp.r0 hs hp.q1 hp.q2 hp.r1 hp.r2 w)
    have hz : p + s = z := by have := hp.z0; omega
    have S1 : -2000000 ≤ s := by have := hp.q1; have := hp.r1; omega
    have S2 : s ≤ 2000000 := by have := hp.q2; have := hp.r2; omega
    obtain ⟨p0, _, _, p1, p2, _, _, _, _, _⟩ := hp
    have HZ := Lib.hid hz
    have P0 := Lib.hid p0
    clear hm hi hs hz p0
    go_enter Tryd.func39, Tryd.ntmps39
    go_upto_region 1 with fail
    obtain ⟨W0, hW0⟩ : ∃ W0, W0 = ((w.alloc (.cells #[.int .i64 a, .int .i64 b, .int .i64 c] 25)).alloc (.cells #[.int .i64 t, .int .i64 h, .int .i64 f, .int .i64 d] 29)) := ⟨_, rfl⟩
    have TB : Hid (TF w.heap.size a b c t h f d W0) := Lib.hid (by rw [hW0]; exact tf_start _ _ _ _ _ _ _ _ _ _)
    have HN : Hid (w.heap.size + 1 < W0.heap.size) := Lib.hid (by rw [hW0]; simp)
    have B0 : Hid (Below w.heap.size w W0) := Lib.hid (by rw [hW0]; exact below_alloc2 _ _ _)
    rw [← hW0]
    clear hW0
    generalize hn : w.heap.size = n at TB HN ⊢
    obtain ⟨z0, z1, z2, z3, z4, z5, z6⟩ := TB.out
    go_wp2_with fail
    refine (HM.out _).mono ?_
    rintro e w1 ⟨rfl, h1⟩
    clear z0 z1 z2 z3 z4 z5 z6
    have T1 := Lib.hid (tf_keep HN.out h1 TB.out)
    have N1 := Lib.hid (tf_lt HN.out h1)
    have B1 := Lib.hid (B0.out.trans (h1.mono B0.out.size))
    clear h1 TB HN B0
    obtain ⟨z0, z1, z2, z3, z4, z5, z6⟩ := T1.out
    go_wp2_with fail
    refine (HI.out _).mono ?_
    rintro e w2 ⟨rfl, h1⟩
    clear z0 z1 z2 z3 z4 z5 z6
    have T2 := Lib.hid (tf_keep N1.out h1 T1.out)
    have N2 := Lib.hid (tf_lt N1.out h1)
    have B2 := Lib.hid (B1.out.trans (h1.mono B1.out.size))
    clear h1 T1 N1 B1
    obtain ⟨z0, z1, z2, z3, z4, z5, z6⟩ := T2.out
    go_wp2_with fail
    refine (divOf_impl _ _ _ _).mono ?_
    rintro e w3 ⟨rfl, h1⟩
    clear z0 z1 z2 z3 z4 z5 z6
    have T3 := Lib.hid (tf_keep N2.out h1 T2.out)
    have N3 := Lib.hid (tf_lt N2.out h1)
    have B3 := Lib.hid (B2.out.trans (h1.mono B2.out.size))
    clear h1 T2 N2 B2
    go_upto_region 4 with fail
    have D4 := Lib.hid (df_of (T := 73) N3.out T3.out)
    obtain ⟨W4, hW⟩ : ∃ W, W = w3.alloc (.cells #[.int .i64 a, .int .i64 b, .int .i64 c] 73) := ⟨_, rfl⟩
    have B4 : Hid (Below w.heap.size w W4) := Lib.hid (by rw [hW]; exact B3.out.alloc B3.out.size _)
    have N4 : Hid (n + 1 < W4.heap.size) := Lib.hid (by rw [hW]; have := N3.out; simp; omega)
    have M4 : Hid (w3.heap.size < W4.heap.size) := Lib.hid (by rw [hW]; simp)
    rw [← hW] at D4 ⊢
    clear hW T3 N3 B3
    generalize w3.heap.size = m at D4 M4 ⊢
    obtain ⟨z0, z1, z2, z3, z4, z5, z6⟩ := D4.out
    have p0 := P0.out
    have v1 : IntKind.i64.wrap p = p := IntWalk.i64_in _ (by omega)
    have v2 : IntKind.i64.wrap (p + s) = p + s := IntWalk.i64_in _ (by omega)
    go_region_held3 (fun w' => w'.cell? ⟨m, 0, none⟩ = some (.int .i64 a) ∧ w'.cell? ⟨m, 1, none⟩ = some (.int .i64 b) ∧ w'.cell? ⟨m, 2, none⟩ = some (.int .i64 c) ∧ w'.cell? ⟨n + 1, 0, none⟩ = some (.int .i64 t) ∧ w'.cell? ⟨n + 1, 1, none⟩ = some (.int .i64 h) ∧ w'.cell? ⟨n + 1, 2, none⟩ = some (.int .i64 f) ∧ w'.cell? ⟨n + 1, 3, none⟩ = some (.int .i64 d)) (with_reducible first | exact df_drew D4.out | exact df_keep M4.out N4.out (by assumption) D4.out)
      (first
        | (go_at_call 61; refine (calls_fromF (W := W4) (by with_reducible first | assumption | exact (Below.refl _ _).drew) (HIN.out _)).mono ?_; rintro e1 w1 ⟨rfl, hb⟩))
    all_goals
      go_wp2_with fail
      go_ret2
      exact ⟨ret_tupT HZ.out, B4.out.trans (hb.mono B4.out.size)⟩
  · have HM := Lib.hid (fun w => mapOkB hm w)
    clear hm
    go_enter Tryd.func39, Tryd.ntmps39
    go_wp2_with fail
    refine (HM.out _).mono ?_
    rintro e w1 ⟨rfl, h1⟩
    have B1 := Lib.hid ((below_alloc2 w _ _).trans (h1.mono (by simp; omega)))
    clear h1
    go_wp2_with fail
    go_ret2
    exact ⟨rfl, B1.out⟩
  · have HM := Lib.hid (fun w => mapOkB hm w)
    have HI := Lib.hid (fun w => pure9B hi w)
    clear hm hi
    go_enter Tryd.func39, Tryd.ntmps39
    go_upto_region 1 with fail
    obtain ⟨W0, hW0⟩ : ∃ W0, W0 = ((w.alloc (.cells #[.int .i64 a, .int .i64 b, .int .i64 c] 25)).alloc (.cells #[.int .i64 t, .int .i64 h, .int .i64 f, .int .i64 d] 29)) := ⟨_, rfl⟩
    have TB : Hid (TF w.heap.size a b c t h f d W0) := Lib.hid (by rw [hW0]; exact tf_start _ _ _ _ _ _ _ _ _ _)
    have HN : Hid (w.heap.size + 1 < W0.heap.size) := Lib.hid (by rw [hW0]; simp)
    have B0 : Hid (Below w.heap.size w W0) := Lib.hid (by rw [hW0]; exact below_alloc2 _ _ _)
    rw [← hW0]
    clear hW0
    generalize hn : w.heap.size = n at TB HN ⊢
    obtain ⟨z0, z1, z2, z3, z4, z5, z6⟩ := TB.out
    go_wp2_with fail
    refine (HM.out _).mono ?_
    rintro e w1 ⟨rfl, h1⟩
    clear z0 z1 z2 z3 z4 z5 z6
    have T1 := Lib.hid (tf_keep HN.out h1 TB.out)
    have B1 := Lib.hid (B0.out.trans (h1.mono B0.out.size))
    clear h1 TB HN B0
    obtain ⟨z0, z1, z2, z3, z4, z5, z6⟩ := T1.out
    go_wp2_with fail
    refine (HI.out _).mono ?_
    rintro e w2 ⟨rfl, h1⟩
    have B2 := Lib.hid (B1.out.trans (h1.mono B1.out.size))
    clear h1 T1 B1 z0 z1 z2 z3 z4 z5 z6
    go_wp2_with fail
    go_ret2
    exact ⟨rfl, hn ▸ B2.out⟩
end Go.Proofs.YtfhefakacjkmiaaDoor
