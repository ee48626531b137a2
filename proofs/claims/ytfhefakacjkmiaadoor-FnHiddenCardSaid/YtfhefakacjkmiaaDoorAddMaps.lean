/- What AddMaps answers; two maps in two blocks. -/
import Derived.Test.YtfhefakacjkmiaaDoorBestMap
import Derived.Test.YtfhefakacjkmiaaDoorStepsIn
namespace Go.Proofs.YtfhefakacjkmiaaDoor
open Go.RowKit Go.Joins
set_option linter.unusedVariables false
def MapSumAt (a b c e f g p q r : Int) (y : Bool) : Prop :=
  (okM a b c = true ∧ okM e f g = true ∧ okM p q r = true ∧ a + e = p ∧ b + f = q ∧ c + g = r ∧ y = true) ∨ (okM a b c = false ∧ p = 0 ∧ q = 0 ∧ r = 0 ∧ y = false) ∨
  (okM a b c = true ∧ okM e f g = false ∧ p = 0 ∧ q = 0 ∧ r = 0 ∧ y = false) ∨ (okM a b c = true ∧ okM e f g = true ∧ (∃ x u v, a + e = x ∧ b + f = u ∧ c + g = v ∧ okM x u v = false) ∧ p = 0 ∧ q = 0 ∧ r = 0 ∧ y = false)
theorem mapSumAt_ex (a b c e f g : Int) : ∃ p q r y, MapSumAt a b c e f g p q r y := by
  obtain ⟨x, hx⟩ : ∃ x : Bool, okM a b c = x := ⟨_, rfl⟩
  obtain ⟨u, hu⟩ : ∃ x : Bool, okM e f g = x := ⟨_, rfl⟩
  obtain ⟨v, hv⟩ : ∃ x : Bool, okM (a + e) (b + f) (c + g) = x := ⟨_, rfl⟩
  cases x
  · exact ⟨0, 0, 0, false, .inr (.inl ⟨hx, rfl, rfl, rfl, rfl⟩)⟩
  · cases u
    · exact ⟨0, 0, 0, false, .inr (.inr (.inl ⟨hx, hu, rfl, rfl, rfl, rfl⟩))⟩
    · cases v
      · exact ⟨0, 0, 0, false, .inr (.inr (.inr ⟨hx, hu, ⟨_, _, _, rfl, rfl, rfl, hv⟩, rfl, rfl, rfl, rfl⟩))⟩
      · exact ⟨_, _, _, true, .inl ⟨hx, hu, hv, rfl, rfl, rfl, rfl⟩⟩
/-- Two maps in two blocks, one behind the other. -/
abbrev TT (n : Nat) (a b c e f g : Int) (w : World) : Prop := w.cell? ⟨n, 0, none⟩ = some (.int .i64 a) ∧ w.cell? ⟨n, 1, none⟩ = some (.int .i64 b) ∧ w.cell? ⟨n, 2, none⟩ = some (.int .i64 c) ∧ w.cell? ⟨n + 1, 0, none⟩ = some (.int .i64 e) ∧ w.cell? ⟨n + 1, 1, none⟩ = some (.int .i64 f) ∧ w.cell? ⟨n + 1, 2, none⟩ = some (.int .i64 g)
theorem tt_keep {W w : World} {n : Nat} {a b c e f g : Int} (hn : n + 1 < W.heap.size) (hb : Below W.heap.size W w) (H : TT n a b c e f g W) : TT n a b c e f g w := by
  obtain ⟨h0, h1, h2, h3, h4, h5⟩ := H
  exact ⟨(hb.cell (by show n < _; omega)).trans h0, (hb.cell (by show n < _; omega)).trans h1, (hb.cell (by show n < _; omega)).trans h2, (hb.cell (by show n + 1 < _; omega)).trans h3, (hb.cell (by show n + 1 < _; omega)).trans h4, (hb.cell (by show n + 1 < _; omega)).trans h5⟩
theorem tt_drew {w : World} {n : Nat} {a b c e f g : Int} (H : TT n a b c e f g w) : TT n a b c e f g w.drew := H
theorem tt_start (a b c e f g : Int) (w : World) (T : TypeId) : TT w.heap.size a b c e f g ((w.alloc (.cells #[.int .i64 a, .int .i64 b, .int .i64 c] T)).alloc (.cells #[.int .i64 e, .int .i64 f, .int .i64 g] T)) := by
  unfold TT
  refine ⟨?_, ?_, ?_, ?_, ?_, ?_⟩ <;> simp [go_sem]
theorem tt_alloc {w : World} {n : Nat} {a b c e f g : Int} {o : Obj} (hn : n + 1 < w.heap.size) (H : TT n a b c e f g w) : TT n a b c e f g (w.alloc o) := tt_keep hn ((Below.refl _ _).alloc (Nat.le_refl _) o) H
/-- The two maps and the result's block behind them. -/
def AM (n : Nat) (a b c e f g : Int) (w : World) : Prop := TT n a b c e f g w ∧ Zed3 (n + 2) w
theorem am_keep {W w : World} {n : Nat} {a b c e f g : Int} (hb : Below W.heap.size W w) (H : AM n a b c e f g W) : AM n a b c e f g w :=
  ⟨tt_keep (by have := H.2.1.1; omega) hb H.1, zed3_keep hb H.2⟩
theorem am_alloc {w : World} {n : Nat} {a b c e f g : Int} {o : Obj} (H : AM n a b c e f g w) : AM n a b c e f g (w.alloc o) := am_keep ((Below.refl _ _).alloc (Nat.le_refl _) o) H
theorem am_start (a b c e f g : Int) (w : World) (T : TypeId) : AM w.heap.size a b c e f g (((w.alloc (.cells #[.int .i64 a, .int .i64 b, .int .i64 c] T)).alloc (.cells #[.int .i64 e, .int .i64 f, .int .i64 g] T)).alloc (.cells #[.int .i64 0, .int .i64 0, .int .i64 0] T)) := by
  refine ⟨tt_alloc (by simp) (tt_start _ _ _ _ _ _ _ _), ?_, fun o => ?_⟩
  · unfold Tri
    refine ⟨?_, ?_, ?_, ?_⟩ <;> simp [go_sem]
  · simp [go_sem]
end Go.Proofs.YtfhefakacjkmiaaDoor
/- Contracts of AddMaps, both sides. -/
namespace Go.Proofs.YtfhefakacjkmiaaDoor
open Go.RowKit Go.Joins
set_option linter.unusedVariables false
set_option maxHeartbeats 2000000 in
theorem sum_impl {a b c e f g p q r : Int} {y : Bool} (H : MapSumAt a b c e f g p q r y) (w : World) :
    Calls Tryd.prog 11 #[mapV a b c, mapV e f g] w fun e w' => e = .returned (.tuple #[mapV p q r, .bool y]) ∧ Below w.heap.size w w' := by
  have pre : ∀ W0 : World, W0 = (((w.alloc (.cells #[.int .i64 a, .int .i64 b, .int .i64 c] 25)).alloc (.cells #[.int .i64 e, .int .i64 f, .int .i64 g] 25)).alloc (.cells #[.int .i64 0, .int .i64 0, .int .i64 0] 25)) → AM w.heap.size a b c e f g W0 ∧ Below w.heap.size w W0 := by
    intro W0 h
    subst h
    exact ⟨am_start _ _ _ _ _ _ _ _, below_alloc3 _ _ _ _⟩
  have PRE := Lib.hid pre
  clear pre
  rcases H with ⟨h1, h2, h3, rfl, rfl, rfl, rfl⟩ | ⟨h1, rfl, rfl, rfl, rfl⟩ | ⟨h1, h2, rfl, rfl, rfl, rfl⟩ | ⟨h1, h2, ⟨x, u, v, rfl, rfl, rfl, h3⟩, rfl, rfl, rfl, rfl⟩
  · obtain ⟨a1, a2, b1, b2, c1, c2⟩ := okM_nums h1
    obtain ⟨e1, e2, f1, f2, g1, g2⟩ := okM_nums h2
    have M1 := Lib.hid (fun w => mapOkB h1 w)
    have M2 := Lib.hid (fun w => mapOkB h2 w)
    have M3 := Lib.hid (fun w => mapOkB h3 w)
    clear h1 h2 h3
    go_enter Tryd.func11, Tryd.ntmps11
    go_upto_region 1 with fail
    obtain ⟨W0, hW0⟩ : ∃ W0, W0 = (((w.alloc (.cells #[.int .i64 a, .int .i64 b, .int .i64 c] 25)).alloc (.cells #[.int .i64 e, .int .i64 f, .int .i64 g] 25)).alloc (.cells #[.int .i64 0, .int .i64 0, .int .i64 0] 25)) := ⟨_, rfl⟩
    have A0 := Lib.hid (PRE.out W0 hW0).1
    have B0 := Lib.hid (PRE.out W0 hW0).2
    rw [← hW0]
    clear hW0 PRE
    generalize hn : w.heap.size = n at A0 ⊢
    obtain ⟨⟨z0, z1, z2, z3, z4, z5⟩, ⟨zm, y0, y1, y2⟩, zf⟩ := A0.out
    go_wp2_with fail
    refine (M1.out _).mono ?_
    rintro e9 w1 ⟨rfl, h1⟩
    clear z0 z1 z2 z3 z4 z5 zm y0 y1 y2 zf
    have A1 := Lib.hid (am_keep h1 A0.out)
    have B1 := Lib.hid (B0.out.trans (h1.mono B0.out.size))
    clear h1 A0 B0
    obtain ⟨⟨z0, z1, z2, z3, z4, z5⟩, ⟨zm, y0, y1, y2⟩, zf⟩ := A1.out
    go_wp2_with fail
    refine (M2.out _).mono ?_
    rintro e9 w2 ⟨rfl, h1⟩
    clear z0 z1 z2 z3 z4 z5 zm y0 y1 y2 zf
    have A2 := Lib.hid (am_keep h1 A1.out)
    have B2 := Lib.hid (B1.out.trans (h1.mono B1.out.size))
    clear h1 A1 B1
    obtain ⟨⟨z0, z1, z2, z3, z4, z5⟩, ⟨zm, y0, y1, y2⟩, zf⟩ := A2.out
    go_upto_region 4 with fail
    clear z0 z1 z2 z3 z4 z5 zm y0 y1 y2 zf
    have K3 := Lib.hid (tri_alloc (w := w2) (p := a + e) (q := b + f) (r := c + g) (t := 25))
    have A3 := Lib.hid (am_alloc (o := .cells #[.int .i64 (a + e), .int .i64 (b + f), .int .i64 (c + g)] 25) A2.out)
    have B3 := Lib.hid (B2.out.alloc B2.out.size (.cells #[.int .i64 (a + e), .int .i64 (b + f), .int .i64 (c + g)] 25))
    obtain ⟨W3, hW⟩ : ∃ W, W = w2.alloc (.cells #[.int .i64 (a + e), .int .i64 (b + f), .int .i64 (c + g)] 25) := ⟨_, rfl⟩
    rw [← hW] at K3 A3 B3 ⊢
    clear hW A2 B2
    generalize w2.heap.size = m at K3 ⊢
    obtain ⟨km, k0, k1, k2⟩ := K3.out
    go_wp2_with fail
    refine (M3.out _).mono ?_
    rintro e9 w4 ⟨rfl, h1⟩
    clear km k0 k1 k2
    have K4 := Lib.hid (tri_keep h1 K3.out)
    have A4 := Lib.hid (am_keep h1 A3.out)
    have B4 := Lib.hid (B3.out.trans (h1.mono B3.out.size))
    clear h1 K3 A3 B3
    obtain ⟨km, k0, k1, k2⟩ := K4.out
    obtain ⟨_, ⟨zm, y0, y1, y2⟩, zf⟩ := A4.out
    go_wp2_with fail
    obtain ⟨X, hX, ⟨xm, x0, x1, x2⟩, hB⟩ := zed3_store (p := a + e) (q := b + f) (r := c + g) (show w.heap.size ≤ n + 2 by omega) B4.out ⟨zm, y0, y1, y2⟩
    rw [← hX]
    exact bodyPost_ret (v := .tuple #[mapV (a + e) (b + f) (c + g), .bool true]) (by simp [results, Tryd.results11, go_sem, x0, x1, x2]) rfl ⟨rfl, hn ▸ hB⟩
  · have M1 := Lib.hid (fun w => mapOkB h1 w)
    clear h1
    go_enter Tryd.func11, Tryd.ntmps11
    go_upto_region 1 with fail
    obtain ⟨W0, hW0⟩ : ∃ W0, W0 = (((w.alloc (.cells #[.int .i64 a, .int .i64 b, .int .i64 c] 25)).alloc (.cells #[.int .i64 e, .int .i64 f, .int .i64 g] 25)).alloc (.cells #[.int .i64 0, .int .i64 0, .int .i64 0] 25)) := ⟨_, rfl⟩
    have A0 := Lib.hid (PRE.out W0 hW0).1
    have B0 := Lib.hid (PRE.out W0 hW0).2
    rw [← hW0]
    clear hW0 PRE
    generalize hn : w.heap.size = n at A0 ⊢
    obtain ⟨⟨z0, z1, z2, z3, z4, z5⟩, ⟨zm, y0, y1, y2⟩, zf⟩ := A0.out
    go_wp2_with fail
    refine (M1.out _).mono ?_
    rintro e9 w1 ⟨rfl, h1⟩
    clear z0 z1 z2 z3 z4 z5 zm y0 y1 y2 zf
    have A1 := Lib.hid (am_keep h1 A0.out)
    have B1 := Lib.hid (B0.out.trans (h1.mono B0.out.size))
    clear h1 A0 B0
    obtain ⟨_, ⟨zm, y0, y1, y2⟩, zf⟩ := A1.out
    go_wp2_with fail
    obtain ⟨X, hX, ⟨xm, x0, x1, x2⟩, hB⟩ := zed3_store (p := 0) (q := 0) (r := 0) (show w.heap.size ≤ n + 2 by omega) B1.out ⟨zm, y0, y1, y2⟩
    rw [← hX]
    exact bodyPost_ret (v := .tuple #[mapV 0 0 0, .bool false]) (by simp [results, Tryd.results11, go_sem, x0, x1, x2]) rfl ⟨rfl, hn ▸ hB⟩
  · have M1 := Lib.hid (fun w => mapOkB h1 w)
    have M2 := Lib.hid (fun w => mapOkB h2 w)
    clear h1 h2
    go_enter Tryd.func11, Tryd.ntmps11
    go_upto_region 1 with fail
    obtain ⟨W0, hW0⟩ : ∃ W0, W0 = (((w.alloc (.cells #[.int .i64 a, .int .i64 b, .int .i64 c] 25)).alloc (.cells #[.int .i64 e, .int .i64 f, .int .i64 g] 25)).alloc (.cells #[.int .i64 0, .int .i64 0, .int .i64 0] 25)) := ⟨_, rfl⟩
    have A0 := Lib.hid (PRE.out W0 hW0).1
    have B0 := Lib.hid (PRE.out W0 hW0).2
    rw [← hW0]
    clear hW0 PRE
    generalize hn : w.heap.size = n at A0 ⊢
    obtain ⟨⟨z0, z1, z2, z3, z4, z5⟩, ⟨zm, y0, y1, y2⟩, zf⟩ := A0.out
    go_wp2_with fail
    refine (M1.out _).mono ?_
    rintro e9 w1 ⟨rfl, h1⟩
    clear z0 z1 z2 z3 z4 z5 zm y0 y1 y2 zf
    have A1 := Lib.hid (am_keep h1 A0.out)
    have B1 := Lib.hid (B0.out.trans (h1.mono B0.out.size))
    clear h1 A0 B0
    obtain ⟨⟨z0, z1, z2, z3, z4, z5⟩, ⟨zm, y0, y1, y2⟩, zf⟩ := A1.out
    go_wp2_with fail
    refine (M2.out _).mono ?_
    rintro e9 w2 ⟨rfl, h1⟩
    clear z0 z1 z2 z3 z4 z5 zm y0 y1 y2 zf
    have A2 := Lib.hid (am_keep h1 A1.out)
    have B2 := Lib.hid (B1.out.trans (h1.mono B1.out.size))
    clear h1 A1 B1
    obtain ⟨_, ⟨zm, y0, y1, y2⟩, zf⟩ := A2.out
    go_wp2_with fail
    obtain ⟨X, hX, ⟨xm, x0, x1, x2⟩, hB⟩ := zed3_store (p := 0) (q := 0) (r := 0) (show w.heap.size ≤ n + 2 by omega) B2.out ⟨zm, y0, y1, y2⟩
    rw [← hX]
    exact bodyPost_ret (v := .tuple #[mapV 0 0 0, .bool false]) (by simp [results, Tryd.results11, go_sem, x0, x1, x2]) rfl ⟨rfl, hn ▸ hB⟩
  · obtain ⟨a1, a2, b1, b2, c1, c2⟩ := okM_nums h1
    obtain ⟨e1, e2, f1, f2, g1, g2⟩ := okM_nums h2
    have M1 := Lib.hid (fun w => mapOkB h1 w)
    have M2 := Lib.hid (fun w => mapOkB h2 w)
    have M3 := Lib.hid (fun w => mapOkB h3 w)
    clear h1 h2 h3
    go_enter Tryd.func11, Tryd.ntmps11
    go_upto_region 1 with fail
    obtain ⟨W0, hW0⟩ : ∃ W0, W0 = (((w.alloc (.cells #[.int .i64 a, .int .i64 b, .int .i64 c] 25)).alloc (.cells #[.int .i64 e, .int .i64 f, .int .i64 g] 25)).alloc (.cells #[.int .i64 0, .int .i64 0, .int .i64 0] 25)) := ⟨_, rfl⟩
    have A0 := Lib.hid (PRE.out W0 hW0).1
    have B0 := Lib.hid (PRE.out W0 hW0).2
    rw [← hW0]
    clear hW0 PRE
    generalize hn : w.heap.size = n at A0 ⊢
    obtain ⟨⟨z0, z1, z2, z3, z4, z5⟩, ⟨zm, y0, y1, y2⟩, zf⟩ := A0.out
    go_wp2_with fail
    refine (M1.out _).mono ?_
    rintro e9 w1 ⟨rfl, h1⟩
    clear z0 z1 z2 z3 z4 z5 zm y0 y1 y2 zf
    have A1 := Lib.hid (am_keep h1 A0.out)
    have B1 := Lib.hid (B0.out.trans (h1.mono B0.out.size))
    clear h1 A0 B0
    obtain ⟨⟨z0, z1, z2, z3, z4, z5⟩, ⟨zm, y0, y1, y2⟩, zf⟩ := A1.out
    go_wp2_with fail
    refine (M2.out _).mono ?_
    rintro e9 w2 ⟨rfl, h1⟩
    clear z0 z1 z2 z3 z4 z5 zm y0 y1 y2 zf
    have A2 := Lib.hid (am_keep h1 A1.out)
    have B2 := Lib.hid (B1.out.trans (h1.mono B1.out.size))
    clear h1 A1 B1
    obtain ⟨⟨z0, z1, z2, z3, z4, z5⟩, ⟨zm, y0, y1, y2⟩, zf⟩ := A2.out
    go_upto_region 4 with fail
    clear z0 z1 z2 z3 z4 z5 zm y0 y1 y2 zf
    have K3 := Lib.hid (tri_alloc (w := w2) (p := a + e) (q := b + f) (r := c + g) (t := 25))
    have A3 := Lib.hid (am_alloc (o := .cells #[.int .i64 (a + e), .int .i64 (b + f), .int .i64 (c + g)] 25) A2.out)
    have B3 := Lib.hid (B2.out.alloc B2.out.size (.cells #[.int .i64 (a + e), .int .i64 (b + f), .int .i64 (c + g)] 25))
    obtain ⟨W3, hW⟩ : ∃ W, W = w2.alloc (.cells #[.int .i64 (a + e), .int .i64 (b + f), .int .i64 (c + g)] 25) := ⟨_, rfl⟩
    rw [← hW] at K3 A3 B3 ⊢
    clear hW A2 B2
    generalize w2.heap.size = m at K3 ⊢
    obtain ⟨km, k0, k1, k2⟩ := K3.out
    go_wp2_with fail
    refine (M3.out _).mono ?_
    rintro e9 w4 ⟨rfl, h1⟩
    clear km k0 k1 k2
    have A4 := Lib.hid (am_keep h1 A3.out)
    have B4 := Lib.hid (B3.out.trans (h1.mono B3.out.size))
    clear h1 K3 A3 B3
    obtain ⟨_, ⟨zm, y0, y1, y2⟩, zf⟩ := A4.out
    go_wp2_with fail
    obtain ⟨X, hX, ⟨xm, x0, x1, x2⟩, hB⟩ := zed3_store (p := 0) (q := 0) (r := 0) (show w.heap.size ≤ n + 2 by omega) B4.out ⟨zm, y0, y1, y2⟩
    rw [← hX]
    exact bodyPost_ret (v := .tuple #[mapV 0 0 0, .bool false]) (by simp [results, Tryd.results11, go_sem, x0, x1, x2]) rfl ⟨rfl, hn ▸ hB⟩
end Go.Proofs.YtfhefakacjkmiaaDoor
