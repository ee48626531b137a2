/- Contract of spec.AddMaps. Written by addmaps.py. -/
import Derived.Test.YthbjndaemmaoaaaAddMaps
namespace Go.Proofs.Ythbjndaemmaoaaa
open Go.RowKit Go.Joins
set_option linter.unusedVariables false
set_option maxHeartbeats 4000000 in
theorem sum_spec {a b c e f g p q r : Int} {y : Bool} (H : SumAt a b c e f g p q r y) (w : World) :
    Calls Try.prog 24 #[mapV a b c, mapV e f g] w fun e w' => e = .returned (.tuple #[mapV p q r, .bool y]) ∧ Below w.heap.size w w' := by
  have pre : ∀ W0 : World, W0 = (((w.alloc (.cells #[.int .i64 a, .int .i64 b, .int .i64 c] 25)).alloc (.cells #[.int .i64 e, .int .i64 f, .int .i64 g] 25)).alloc (.cells #[.int .i64 0, .int .i64 0, .int .i64 0] 25)) → AM w.heap.size a b c e f g W0 ∧ Below w.heap.size w W0 := by
    intro W0 h
    subst h
    exact ⟨am_start _ _ _ _ _ _ _ _, below_alloc3 _ _ _ _⟩
  have PRE := Lib.hid pre
  clear pre
  rcases H with ⟨h1, h2, h3, rfl, rfl, rfl, rfl⟩ | ⟨h1, rfl, rfl, rfl, rfl⟩ | ⟨h1, h2, rfl, rfl, rfl, rfl⟩ | ⟨h1, h2, ⟨x, u, v, rfl, rfl, rfl, h3⟩, rfl, rfl, rfl, rfl⟩
  · obtain ⟨a1, a2, b1, b2, c1, c2⟩ := okM_nums h1
    obtain ⟨e1, e2, f1, f2, g1, g2⟩ := okM_nums h2
    have M1 := Lib.hid (fun w => smapOkB h1 w)
    have M2 := Lib.hid (fun w => smapOkB h2 w)
    have M3 := Lib.hid (fun w => smapOkB h3 w)
    clear h1 h2 h3
    go_enter Try.func24, Try.ntmps24
    go_upto_region 1 with fail
    obtain ⟨W0, hW0⟩ : ∃ W0, W0 = (((w.alloc (.cells #[.int .i64 a, .int .i64 b, .int .i64 c] 25)).alloc (.cells #[.int .i64 e, .int .i64 f, .int .i64 g] 25)).alloc (.cells #[.int .i64 0, .int .i64 0, .int .i64 0] 25)) := ⟨_, rfl⟩
    have A0 := Lib.hid (PRE.out W0 hW0).1
    have B0 := Lib.hid (PRE.out W0 hW0).2
    rw [← hW0]
    clear hW0 PRE
    generalize hn : w.heap.size = n at A0 ⊢
    obtain ⟨⟨z0, z1, z2, z3, z4, z5⟩, ⟨zm, y0, y1, y2⟩, zf⟩ := A0.out
    go_upto_region 2 with fail
    clear z0 z1 z2 z3 z4 z5 zm y0 y1 y2 zf
    have K1 := Lib.hid (tri_alloc (w := W0) (p := a + e) (q := b + f) (r := c + g) (t := 25))
    have A1 := Lib.hid (am_alloc (o := .cells #[.int .i64 (a + e), .int .i64 (b + f), .int .i64 (c + g)] 25) A0.out)
    have B1 := Lib.hid (B0.out.alloc B0.out.size (.cells #[.int .i64 (a + e), .int .i64 (b + f), .int .i64 (c + g)] 25))
    obtain ⟨W1, hW⟩ : ∃ W, W = W0.alloc (.cells #[.int .i64 (a + e), .int .i64 (b + f), .int .i64 (c + g)] 25) := ⟨_, rfl⟩
    rw [← hW] at K1 A1 B1 ⊢
    clear hW A0 B0
    generalize W0.heap.size = m at K1 ⊢
    obtain ⟨⟨z0, z1, z2, z3, z4, z5⟩, ⟨zm, y0, y1, y2⟩, zf⟩ := A1.out
    obtain ⟨km, k0, k1, k2⟩ := K1.out
    go_wp2_with fail
    refine (M1.out _).mono ?_
    rintro e9 w1 ⟨rfl, h1⟩
    clear z0 z1 z2 z3 z4 z5 zm y0 y1 y2 zf km k0 k1 k2
    have A2 := Lib.hid (am_keep h1 A1.out)
    have K2 := Lib.hid (tri_keep h1 K1.out)
    have B2 := Lib.hid (B1.out.trans (h1.mono B1.out.size))
    clear h1 A1 B1 K1
    obtain ⟨⟨z0, z1, z2, z3, z4, z5⟩, ⟨zm, y0, y1, y2⟩, zf⟩ := A2.out
    obtain ⟨km, k0, k1, k2⟩ := K2.out
    go_wp2_with fail
    refine (M2.out _).mono ?_
    rintro e9 w2 ⟨rfl, h1⟩
    clear z0 z1 z2 z3 z4 z5 zm y0 y1 y2 zf km k0 k1 k2
    have A3 := Lib.hid (am_keep h1 A2.out)
    have K3 := Lib.hid (tri_keep h1 K2.out)
    have B3 := Lib.hid (B2.out.trans (h1.mono B2.out.size))
    clear h1 A2 B2 K2
    obtain ⟨⟨z0, z1, z2, z3, z4, z5⟩, ⟨zm, y0, y1, y2⟩, zf⟩ := A3.out
    obtain ⟨km, k0, k1, k2⟩ := K3.out
    go_wp2_with fail
    refine (M3.out _).mono ?_
    rintro e9 w3 ⟨rfl, h1⟩
    clear z0 z1 z2 z3 z4 z5 zm y0 y1 y2 zf km k0 k1 k2
    have A4 := Lib.hid (am_keep h1 A3.out)
    have K4 := Lib.hid (tri_keep h1 K3.out)
    have B4 := Lib.hid (B3.out.trans (h1.mono B3.out.size))
    clear h1 A3 B3 K3
    obtain ⟨⟨z0, z1, z2, z3, z4, z5⟩, ⟨zm, y0, y1, y2⟩, zf⟩ := A4.out
    obtain ⟨km, k0, k1, k2⟩ := K4.out
    go_wp2_with fail
    obtain ⟨X, hX, ⟨xm, x0, x1, x2⟩, hB⟩ := zed3_store (p := a + e) (q := b + f) (r := c + g) (show w.heap.size ≤ n + 2 by omega) B4.out ⟨zm, y0, y1, y2⟩
    rw [← hX]
    exact bodyPost_ret (v := .tuple #[mapV (a + e) (b + f) (c + g), .bool true]) (by simp [results, Try.results24, go_sem, x0, x1, x2]) rfl ⟨rfl, hn ▸ hB⟩
  · have M1 := Lib.hid (fun w => smapOkB h1 w)
    clear h1
    go_enter Try.func24, Try.ntmps24
    go_upto_region 1 with fail
    obtain ⟨W0, hW0⟩ : ∃ W0, W0 = (((w.alloc (.cells #[.int .i64 a, .int .i64 b, .int .i64 c] 25)).alloc (.cells #[.int .i64 e, .int .i64 f, .int .i64 g] 25)).alloc (.cells #[.int .i64 0, .int .i64 0, .int .i64 0] 25)) := ⟨_, rfl⟩
    have A0 := Lib.hid (PRE.out W0 hW0).1
    have B0 := Lib.hid (PRE.out W0 hW0).2
    rw [← hW0]
    clear hW0 PRE
    generalize hn : w.heap.size = n at A0 ⊢
    obtain ⟨⟨z0, z1, z2, z3, z4, z5⟩, ⟨zm, y0, y1, y2⟩, zf⟩ := A0.out
    go_upto_region 2 with fail
    clear z0 z1 z2 z3 z4 z5 zm y0 y1 y2 zf
    obtain ⟨W1, hW⟩ : ∃ W, W = W0.alloc (.cells #[.int .i64 (wrap64 (a + e)), .int .i64 (wrap64 (b + f)), .int .i64 (wrap64 (c + g))] 25) := ⟨_, rfl⟩
    have C0 : Hid (AM n a b c e f g W1 ∧ Below w.heap.size w W1) := Lib.hid (by rw [hW]; exact ⟨am_alloc A0.out, B0.out.alloc B0.out.size _⟩)
    rw [← hW]
    clear hW A0 B0
    have A0 := Lib.hid C0.out.1
    have B0 := Lib.hid C0.out.2
    clear C0
    obtain ⟨⟨z0, z1, z2, z3, z4, z5⟩, ⟨zm, y0, y1, y2⟩, zf⟩ := A0.out
    go_wp2_with fail
    refine (M1.out _).mono ?_
    rintro e9 w1 ⟨rfl, h1⟩
    clear z0 z1 z2 z3 z4 z5 zm y0 y1 y2 zf
    have A1 := Lib.hid (am_keep h1 A0.out)
    have B1 := Lib.hid (B0.out.trans (h1.mono B0.out.size))
    clear h1 A0 B0
    obtain ⟨⟨z0, z1, z2, z3, z4, z5⟩, ⟨zm, y0, y1, y2⟩, zf⟩ := A1.out
    go_wp2_with fail
    obtain ⟨X, hX, ⟨xm, x0, x1, x2⟩, hB⟩ := zed3_store (p := 0) (q := 0) (r := 0) (show w.heap.size ≤ n + 2 by omega) B1.out ⟨zm, y0, y1, y2⟩
    rw [← hX]
    exact bodyPost_ret (v := .tuple #[mapV 0 0 0, .bool false]) (by simp [results, Try.results24, go_sem, x0, x1, x2]) rfl ⟨rfl, hn ▸ hB⟩
  · have M1 := Lib.hid (fun w => smapOkB h1 w)
    have M2 := Lib.hid (fun w => smapOkB h2 w)
    clear h1 h2
    go_enter Try.func24, Try.ntmps24
    go_upto_region 1 with fail
    obtain ⟨W0, hW0⟩ : ∃ W0, W0 = (((w.alloc (.cells #[.int .i64 a, .int .i64 b, .int .i64 c] 25)).alloc (.cells #[.int .i64 e, .int .i64 f, .int .i64 g] 25)).alloc (.cells #[.int .i64 0, .int .i64 0, .int .i64 0] 25)) := ⟨_, rfl⟩
    have A0 := Lib.hid (PRE.out W0 hW0).1
    have B0 := Lib.hid (PRE.out W0 hW0).2
    rw [← hW0]
    clear hW0 PRE
    generalize hn : w.heap.size = n at A0 ⊢
    obtain ⟨⟨z0, z1, z2, z3, z4, z5⟩, ⟨zm, y0, y1, y2⟩, zf⟩ := A0.out
    go_upto_region 2 with fail
    clear z0 z1 z2 z3 z4 z5 zm y0 y1 y2 zf
    obtain ⟨W1, hW⟩ : ∃ W, W = W0.alloc (.cells #[.int .i64 (wrap64 (a + e)), .int .i64 (wrap64 (b + f)), .int .i64 (wrap64 (c + g))] 25) := ⟨_, rfl⟩
    have C0 : Hid (AM n a b c e f g W1 ∧ Below w.heap.size w W1) := Lib.hid (by rw [hW]; exact ⟨am_alloc A0.out, B0.out.alloc B0.out.size _⟩)
    rw [← hW]
    clear hW A0 B0
    have A0 := Lib.hid C0.out.1
    have B0 := Lib.hid C0.out.2
    clear C0
    obtain ⟨⟨z0, z1, z2, z3, z4, z5⟩, ⟨zm, y0, y1, y2⟩, zf⟩ := A0.out
    go_wp2_with fail
    refine (M1.out _).mono ?_
    rintro e9 w1 ⟨rfl, h1⟩
    clear z0 z1 z2 z3 z4 z5 zm y0 y1 y2 zf
    have A1 := Lib.hid (am_keep h1 A0.out)
    have B1 := Lib.hid (B0.out.trans (h1.mono B0.out.size))
    clear h1 A0 B0
    obtain ⟨⟨z0, z1, z2, z3, z4, z5⟩, ⟨zm, y0, y1, y2⟩, zf⟩ := A1.out
    go_wp2_with fail
    refine (M2.out _).mono ?_
    rintro e9 w2 ⟨rfl, h1⟩
    clear z0 z1 z2 z3 z4 z5 zm y0 y1 y2 zf
    have A2 := Lib.hid (am_keep h1 A1.out)
    have B2 := Lib.hid (B1.out.trans (h1.mono B1.out.size))
    clear h1 A1 B1
    obtain ⟨⟨z0, z1, z2, z3, z4, z5⟩, ⟨zm, y0, y1, y2⟩, zf⟩ := A2.out
    go_wp2_with fail
    obtain ⟨X, hX, ⟨xm, x0, x1, x2⟩, hB⟩ := zed3_store (p := 0) (q := 0) (r := 0) (show w.heap.size ≤ n + 2 by omega) B2.out ⟨zm, y0, y1, y2⟩
    rw [← hX]
    exact bodyPost_ret (v := .tuple #[mapV 0 0 0, .bool false]) (by simp [results, Try.results24, go_sem, x0, x1, x2]) rfl ⟨rfl, hn ▸ hB⟩
  · obtain ⟨a1, a2, b1, b2, c1, c2⟩ := okM_nums h1
    obtain ⟨e1, e2, f1, f2, g1, g2⟩ := okM_nums h2
    have M1 := Lib.hid (fun w => smapOkB h1 w)
    have M2 := Lib.hid (fun w => smapOkB h2 w)
    have M3 := Lib.hid (fun w => smapOkB h3 w)
    clear h1 h2 h3
    go_enter Try.func24, Try.ntmps24
    go_upto_region 1 with fail
    obtain ⟨W0, hW0⟩ : ∃ W0, W0 = (((w.alloc (.cells #[.int .i64 a, .int .i64 b, .int .i64 c] 25)).alloc (.cells #[.int .i64 e, .int .i64 f, .int .i64 g] 25)).alloc (.cells #[.int .i64 0, .int .i64 0, .int .i64 0] 25)) := ⟨_, rfl⟩
    have A0 := Lib.hid (PRE.out W0 hW0).1
    have B0 := Lib.hid (PRE.out W0 hW0).2
    rw [← hW0]
    clear hW0 PRE
    generalize hn : w.heap.size = n at A0 ⊢
    obtain ⟨⟨z0, z1, z2, z3, z4, z5⟩, ⟨zm, y0, y1, y2⟩, zf⟩ := A0.out
    go_upto_region 2 with fail
    clear z0 z1 z2 z3 z4 z5 zm y0 y1 y2 zf
    have K1 := Lib.hid (tri_alloc (w := W0) (p := a + e) (q := b + f) (r := c + g) (t := 25))
    have A1 := Lib.hid (am_alloc (o := .cells #[.int .i64 (a + e), .int .i64 (b + f), .int .i64 (c + g)] 25) A0.out)
    have B1 := Lib.hid (B0.out.alloc B0.out.size (.cells #[.int .i64 (a + e), .int .i64 (b + f), .int .i64 (c + g)] 25))
    obtain ⟨W1, hW⟩ : ∃ W, W = W0.alloc (.cells #[.int .i64 (a + e), .int .i64 (b + f), .int .i64 (c + g)] 25) := ⟨_, rfl⟩
    rw [← hW] at K1 A1 B1 ⊢
    clear hW A0 B0
    generalize W0.heap.size = m at K1 ⊢
    obtain ⟨⟨z0, z1, z2, z3, z4, z5⟩, ⟨zm, y0, y1, y2⟩, zf⟩ := A1.out
    obtain ⟨km, k0, k1, k2⟩ := K1.out
    go_wp2_with fail
    refine (M1.out _).mono ?_
    rintro e9 w1 ⟨rfl, h1⟩
    clear z0 z1 z2 z3 z4 z5 zm y0 y1 y2 zf km k0 k1 k2
    have A2 := Lib.hid (am_keep h1 A1.out)
    have K2 := Lib.hid (tri_keep h1 K1.out)
    have B2 := Lib.hid (B1.out.trans (h1.mono B1.out.size))
    clear h1 A1 B1 K1
    obtain ⟨⟨z0, z1, z2, z3, z4, z5⟩, ⟨zm, y0, y1, y2⟩, zf⟩ := A2.out
    obtain ⟨km, k0, k1, k2⟩ := K2.out
    go_wp2_with fail
    refine (M2.out _).mono ?_
    rintro e9 w2 ⟨rfl, h1⟩
    clear z0 z1 z2 z3 z4 z5 zm y0 y1 y2 zf km k0 k1 k2
    have A3 := Lib.hid (am_keep h1 A2.out)
    have K3 := Lib.hid (tri_keep h1 K2.out)
    have B3 := Lib.hid (B2.out.trans (h1.mono B2.out.size))
    clear h1 A2 B2 K2
    obtain ⟨⟨z0, z1, z2, z3, z4, z5⟩, ⟨zm, y0, y1, y2⟩, zf⟩ := A3.out
    obtain ⟨km, k0, k1, k2⟩ := K3.out
    go_wp2_with fail
    refine (M3.out _).mono ?_
    rintro e9 w3 ⟨rfl, h1⟩
    clear z0 z1 z2 z3 z4 z5 zm y0 y1 y2 zf km k0 k1 k2
    have A4 := Lib.hid (am_keep h1 A3.out)
    have K4 := Lib.hid (tri_keep h1 K3.out)
    have B4 := Lib.hid (B3.out.trans (h1.mono B3.out.size))
    clear h1 A3 B3 K3
    obtain ⟨⟨z0, z1, z2, z3, z4, z5⟩, ⟨zm, y0, y1, y2⟩, zf⟩ := A4.out
    obtain ⟨km, k0, k1, k2⟩ := K4.out
    go_wp2_with fail
    obtain ⟨X, hX, ⟨xm, x0, x1, x2⟩, hB⟩ := zed3_store (p := 0) (q := 0) (r := 0) (show w.heap.size ≤ n + 2 by omega) B4.out ⟨zm, y0, y1, y2⟩
    rw [← hX]
    exact bodyPost_ret (v := .tuple #[mapV 0 0 0, .bool false]) (by simp [results, Try.results24, go_sem, x0, x1, x2]) rfl ⟨rfl, hn ▸ hB⟩
end Go.Proofs.Ythbjndaemmaoaaa
