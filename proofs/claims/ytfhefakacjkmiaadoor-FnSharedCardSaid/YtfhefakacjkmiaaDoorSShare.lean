/- Contract of spec.SharedBy. -/
import Derived.Test.YtfhefakacjkmiaaDoorShare
import Derived.BigRegion
namespace Go.Proofs.YtfhefakacjkmiaaDoor
open Go.RowKit Go.Joins
set_option linter.unusedVariables false
/-- An interval in a block that may be written. -/
def Zfree (m : Nat) (p q r s : Int) (w : World) : Prop := Four m p q r s w ∧ ∀ o, w.frozen? ⟨m, o, none⟩ = false
theorem zfree_alloc {w : World} {p q r s : Int} {t : TypeId} : Zfree w.heap.size p q r s (w.alloc (.cells #[.int .i64 p, .int .i64 q, .int .i64 r, .int .i64 s] t)) := ⟨four_alloc, fun o => by simp [go_sem]⟩
theorem zfree_drew {w : World} {m : Nat} {p q r s : Int} (h : Zfree m p q r s w) : Zfree m p q r s w.drew := h
theorem zfree_keep {W w : World} {m : Nat} {p q r s : Int} (hb : Below W.heap.size W w) (h : Zfree m p q r s W) : Zfree m p q r s w :=
  ⟨four_keep hb h.1, fun o => (hb.frozen (p := ⟨m, o, none⟩) h.1.1).trans (h.2 o)⟩
set_option maxRecDepth 100000 in
set_option maxHeartbeats 4000000 in
theorem share_spec {a b c e f g T H F R : Int} {o : Bool} (hh : ShareAt a b c e f g T H F R o) (w : World) :
    Calls Tryd.prog 10 #[mapV a b c, mapV e f g] w fun e w' => e = .returned (.tuple #[ivV T H F R, .bool o]) ∧ Below w.heap.size w w' := by
  have pre : ∀ W0 : World, W0 = (((w.alloc (.cells #[.int .i64 a, .int .i64 b, .int .i64 c] 25)).alloc (.cells #[.int .i64 e, .int .i64 f, .int .i64 g] 25)).alloc (.cells #[.int .i64 0, .int .i64 0, .int .i64 0, .int .i64 0] 29)) → SM w.heap.size a b c e f g W0 ∧ Below w.heap.size w W0 := by
    intro W0 h
    subst h
    exact ⟨sm_start _ _ _ _ _ _ _ _ _, below_alloc3 _ _ _ _⟩
  have PRE := Lib.hid pre
  clear pre
  rcases hh with ⟨h1, h2, x1, x2, y1, y2, z1, z2, x, y, z, hc, d, hp, he⟩ | ⟨h1, rfl, rfl, rfl, rfl, rfl⟩ | ⟨h1, h2, rfl, rfl, rfl, rfl, rfl⟩
  · have M1 := Lib.hid (fun w => smapOkB h1 w)
    have M2 := Lib.hid (fun w => smapOkB h2 w)
    obtain ⟨d0, hd0⟩ : ∃ d0, d0 = gcdI x y := ⟨_, rfl⟩
    have G1 : Hid (∀ w, Calls Tryd.prog 34 #[.int .i64 x, .int .i64 y] w fun e w' => e = .returned (.int .i64 d0) ∧ Below w.heap.size w w') := Lib.hid (fun w => gcdAt_spec ⟨⟨hp.1.1, hp.1.2.1, hp.1.2.2.1, hp.1.2.2.2.1⟩, hd0⟩ w)
    have G2 : Hid (∀ w, Calls Tryd.prog 34 #[.int .i64 d0, .int .i64 z] w fun e w' => e = .returned (.int .i64 d) ∧ Below w.heap.size w w') := Lib.hid (fun w => gcdAt_spec ⟨⟨by rw [hd0]; have := gcdI_nonneg x y; omega, by rw [hd0]; exact gcdI_le _ _ _ hp.1.1 hp.1.2.1 hp.1.2.2.1 hp.1.2.2.2.1, hp.1.2.2.2.2.1, hp.1.2.2.2.2.2⟩, by rw [hd0]; exact hp.2⟩ w)
    have HE := Lib.hid he
    have HC := Lib.hid hc
    have HD : Hid (0 ≤ d ∧ d ≤ 1000000) := Lib.hid (by obtain ⟨⟨q1, q2, q3, q4, q5, q6⟩, rfl⟩ := hp; exact ⟨gcdI_nonneg _ _, gcdI_le _ _ 1000000 (by have := gcdI_nonneg x y; omega) (gcdI_le _ _ _ q1 q2 q3 q4) q5 q6⟩)
    clear h1 h2 hp he hc hd0
    go_enter Tryd.func10, Tryd.ntmps10
    go_upto_region 1 with fail
    obtain ⟨W0, hW0⟩ : ∃ W0, W0 = (((w.alloc (.cells #[.int .i64 a, .int .i64 b, .int .i64 c] 25)).alloc (.cells #[.int .i64 e, .int .i64 f, .int .i64 g] 25)).alloc (.cells #[.int .i64 0, .int .i64 0, .int .i64 0, .int .i64 0] 29)) := ⟨_, rfl⟩
    have A0 := Lib.hid (PRE.out W0 hW0).1
    have B0 := Lib.hid (PRE.out W0 hW0).2
    rw [← hW0]
    clear hW0 PRE
    generalize hn : w.heap.size = n at A0 ⊢
    have HN := Lib.hid hn
    clear hn
    obtain ⟨⟨z0, z1', z2', z3, z4, z5⟩, _⟩ := A0.out
    go_wp2_with fail
    refine (M1.out _).mono ?_
    rintro e9 w1 ⟨rfl, h1⟩
    clear z0 z1' z2' z3 z4 z5
    have A1 := Lib.hid (sm_keep h1 A0.out)
    have B1 := Lib.hid (B0.out.trans (h1.mono B0.out.size))
    clear h1 A0 B0
    obtain ⟨⟨z0, z1', z2', z3, z4, z5⟩, _⟩ := A1.out
    go_wp2_with fail
    refine (M2.out _).mono ?_
    rintro e9 w2 ⟨rfl, h1⟩
    clear z0 z1' z2' z3 z4 z5
    have A2 := Lib.hid (sm_keep h1 A1.out)
    have B2 := Lib.hid (B1.out.trans (h1.mono B1.out.size))
    clear h1 A1 B1
    obtain ⟨⟨z0, z1', z2', z3, z4, z5⟩, _⟩ := A2.out
    obtain ⟨k1, k2, k3, k4, k5, k6, n1, n2, n3, n4, n5, n6, m1, m2, m3, m4, m5, m6, hx, hy, hz⟩ := HC.out
    go_wp2_with fail
    refine (G1.out _).mono ?_
    rintro e9 w3 ⟨rfl, h1⟩
    clear z0 z1' z2' z3 z4 z5 k1 k2 k3 k4 k5 k6
    have A3' := Lib.hid (sm_keep h1 A2.out)
    have B3' := Lib.hid (B2.out.trans (h1.mono B2.out.size))
    clear h1 A2 B2
    go_wp2_with fail
    refine (G2.out _).mono ?_
    rintro e9 w3 ⟨rfl, h1⟩
    have A3 := Lib.hid (sm_keep h1 A3'.out)
    have B3 := Lib.hid (B3'.out.trans (h1.mono B3'.out.size))
    clear h1 A3' B3'
    by_cases hd : d = 0
    · have td : (d == 0) = true := by simp [hd]
      have E : T = 0 ∧ H = 0 ∧ F = 0 ∧ R = 0 ∧ o = false := by
        rcases HE.out with ⟨_, h⟩ | ⟨h, _⟩
        · exact h
        · exact absurd h (by omega)
      obtain ⟨rfl, rfl, rfl, rfl, rfl⟩ := E
      obtain ⟨_, ⟨zm, q0, q1, q2, q3⟩, zf⟩ := A3.out
      clear n1 n2 n3 n4 n5 n6 m1 m2 m3 m4 m5 m6 hx hy hz hd
      go_wp2_with fail
      obtain ⟨X, hX, ⟨xm, x0, x1, x2, x3⟩, hB⟩ := zed4_store (p := 0) (q := 0) (r := 0) (s := 0) (show w.heap.size ≤ n + 2 by have := HN.out; omega) B3.out ⟨zm, q0, q1, q2, q3⟩
      rw [← hX]
      exact bodyPost_ret (v := .tuple #[ivV 0 0 0 0, .bool false]) (by simp [results, Tryd.results10, go_sem, x0, x1, x2, x3]) rfl ⟨rfl, HN.out ▸ hB⟩
    · have td : (d == 0) = false := by simp [hd]
      have hd1 : 1 ≤ d := by have := HD.out; omega
      have hd2 : d ≤ 1000000 := HD.out.2
      have HE2 : ∃ t h f, x.tdiv d = t ∧ y.tdiv d = h ∧ z.tdiv d = f ∧ (-40000 ≤ t ∧ t ≤ 40000 ∧ -40000 ≤ h ∧ h ≤ 40000 ∧ -40000 ≤ f ∧ f ≤ 40000) ∧
          ((okI t h f 1 = false ∧ T = 0 ∧ H = 0 ∧ F = 0 ∧ R = 0 ∧ o = false) ∨ (okI t h f 1 = true ∧ ∃ s, SgnAt t h f 1 s ∧ (s = 1 ∨ s = -1) ∧ T = t * s ∧ H = h * s ∧ F = f * s ∧ R = 1 ∧ o = true)) := by
        rcases HE.out with ⟨h, _⟩ | ⟨_, h⟩
        · exact absurd h hd
        · exact h
      obtain ⟨t, h, f, e1, e2, e3, ⟨b1, b2, b3, b4, b5, b6⟩, he⟩ := HE2
      have EN := Lib.hid he
      have v1 : IntKind.i64.wrap (x.tdiv d) = t := by rw [e1]; exact IntWalk.i64_in _ (by omega)
      have v2 : IntKind.i64.wrap (y.tdiv d) = h := by rw [e2]; exact IntWalk.i64_in _ (by omega)
      have v3 : IntKind.i64.wrap (z.tdiv d) = f := by rw [e3]; exact IntWalk.i64_in _ (by omega)
      clear e1 e2 e3 he
      clear n1 n2 n3 n4 n5 n6 m1 m2 m3 m4 m5 m6 hx hy hz
      go_upto_region 9 with fail
      obtain ⟨W1, hW⟩ : ∃ W, W = w3 := ⟨_, rfl⟩
      rw [← hW] at A3 B3 ⊢
      clear hW
      go_cut [10] (fun s10 wx => ∃ m : Nat, s10 = .pointer (some ⟨m, 0, none⟩) ∧ Below W1.heap.size W1 wx ∧ Zfree m t h f 1 wx ∧ W1.heap.size ≤ m)
      case first =>
        go_region
        all_goals
          go_wp2_with fail
          go_meet
          first
            | exact ⟨_, rfl, belowS_al ((Below.refl _ _).drew), zfree_alloc, Nat.le_refl _⟩
            | exact ⟨_, rfl, (belowS_al (Below.refl _ _)), zfree_alloc, Nat.le_refl _⟩
            | exact ⟨_, rfl, (belowS_al (Below.refl _ _)).drew, zfree_drew zfree_alloc, Nat.le_refl _⟩
      case rest =>
        obtain ⟨m, rfl, hb, gS, hm⟩ := hcut
        obtain ⟨V, hV⟩ : ∃ W, W = wc := ⟨_, rfl⟩
        rw [← hV] at hb gS ⊢
        have B4 := Lib.hid (B3.out.trans (hb.mono B3.out.size))
        have Z4 := Lib.hid (zed4_keep hb A3.out.2)
        have F4 := Lib.hid gS
        have NM : Hid (m ≠ n + 2) := Lib.hid (by have := A3.out.2.1.1; omega)
        have HM : Hid (w.heap.size ≤ m) := Lib.hid (Nat.le_trans B3.out.size hm)
        clear hb gS hm hV A3 B3 v1 v2 v3
        rcases EN.out with ⟨hk, rfl, rfl, rfl, rfl, rfl⟩ | ⟨hk, s, hs, h1, rfl, rfl, rfl, rfl, rfl⟩
        · have OK := Lib.hid (fun w => sokIB hk w)
          clear hk
          obtain ⟨⟨_, y0, y1, y2, y3⟩, _⟩ := F4.out
          go_wp2_with fail
          refine (OK.out _).mono ?_
          rintro e9 w5 ⟨rfl, h1⟩
          clear y0 y1 y2 y3
          have B5 := Lib.hid (B4.out.trans (h1.mono B4.out.size))
          obtain ⟨⟨zm, q0, q1, q2, q3⟩, zf⟩ := zed4_keep h1 Z4.out
          clear h1
          go_wp2_with fail
          obtain ⟨X, hX, ⟨xm, x0, x1, x2, x3⟩, hB⟩ := zed4_store (p := 0) (q := 0) (r := 0) (s := 0) (show w.heap.size ≤ n + 2 by have := HN.out; omega) B5.out ⟨zm, q0, q1, q2, q3⟩
          rw [← hX]
          exact bodyPost_ret (v := .tuple #[ivV 0 0 0 0, .bool false]) (by simp [results, Tryd.results10, go_sem, x0, x1, x2, x3]) rfl ⟨rfl, HN.out ▸ hB⟩
        · have OK := Lib.hid (fun w => sokIB hk w)
          have SG := Lib.hid (fun w => sgnAt_spec hs w)
          have H1 := Lib.hid h1
          clear hk hs h1
          obtain ⟨⟨_, y0, y1, y2, y3⟩, _⟩ := F4.out
          go_wp2_with fail
          refine (OK.out _).mono ?_
          rintro e9 w5 ⟨rfl, h1⟩
          clear y0 y1 y2 y3
          have B5 := Lib.hid (B4.out.trans (h1.mono B4.out.size))
          have F5 := Lib.hid (zfree_keep h1 F4.out)
          have Z5 := Lib.hid (zed4_keep h1 Z4.out)
          clear h1 B4 F4 Z4
          obtain ⟨⟨_, y0, y1, y2, y3⟩, _⟩ := F5.out
          go_wp2_with fail
          refine (SG.out _).mono ?_
          rintro e9 w6 ⟨rfl, h1⟩
          clear y0 y1 y2 y3
          have B6 := Lib.hid (B5.out.trans (h1.mono B5.out.size))
          have F6 := Lib.hid (zfree_keep h1 F5.out)
          have Z6 := Lib.hid (zed4_keep h1 Z5.out)
          clear h1 B5 F5 Z5
          rcases H1.out with rfl | rfl
          · obtain ⟨⟨ym, y0, y1, y2, y3⟩, yf⟩ := F6.out
            obtain ⟨⟨zm, q0, q1, q2, q3⟩, zf⟩ := Z6.out
            go_wp2_with fail
            obtain ⟨X, hX, ⟨xm, x0, x1, x2, x3⟩, hB⟩ := zed4_store (p := t) (q := h) (r := f) (s := 1) (show w.heap.size ≤ n + 2 by have := HN.out; omega) B6.out ⟨zm, q0, q1, q2, q3⟩
            rw [← hX]
            exact bodyPost_ret (v := .tuple #[ivV (t * 1) (h * 1) (f * 1) 1, .bool true]) (by simp [results, Tryd.results10, go_sem, x0, x1, x2, x3]) rfl ⟨rfl, HN.out ▸ hB⟩
          · obtain ⟨⟨ym, y0, y1, y2, y3⟩, yf⟩ := F6.out
            have w1 : IntKind.i64.wrap (-t) = -t := IntWalk.i64_in _ (by omega)
            have w2 : IntKind.i64.wrap (-h) = -h := IntWalk.i64_in _ (by omega)
            have w3 : IntKind.i64.wrap (-f) = -f := IntWalk.i64_in _ (by omega)
            go_upto_region 14 with fail
            clear y0 y1 y2 y3
            obtain ⟨Y, hY⟩ : ∃ Y, Y = ((((w6.setCell ⟨m, 0, none⟩ (.int .i64 (-t))).setCell ⟨m, 1, none⟩ (.int .i64 (-h))).setCell ⟨m, 2, none⟩ (.int .i64 (-f))).setCell ⟨m, 3, none⟩ (.int .i64 1)) := ⟨_, rfl⟩
            have F7 : Hid (Four m (-t) (-h) (-f) 1 Y) := Lib.hid (by rw [hY]; exact four_set F6.out.1)
            have Z7 : Hid (Zed4 (n + 2) Y) := Lib.hid (by rw [hY]; exact ⟨four_other (fun e => NM.out e.symm) Z6.out.1, fun o => by simp only [World.frozen?_setCell]; exact Z6.out.2 o⟩)
            have B7 : Hid (Below w.heap.size w Y) := Lib.hid (by rw [hY]; exact B6.out.trans (belowS_set HM.out))
            rw [← hY]
            clear hY F6 Z6 B6 ym yf
            obtain ⟨_, y0, y1, y2, y3⟩ := F7.out
            obtain ⟨⟨zm, q0, q1, q2, q3⟩, zf⟩ := Z7.out
            go_wp2_with fail
            obtain ⟨X, hX, ⟨xm, x0, x1, x2, x3⟩, hB⟩ := zed4_store (p := -t) (q := -h) (r := -f) (s := 1) (show w.heap.size ≤ n + 2 by have := HN.out; omega) B7.out ⟨zm, q0, q1, q2, q3⟩
            rw [← hX]
            exact bodyPost_ret (v := .tuple #[ivV (t * -1) (h * -1) (f * -1) 1, .bool true]) (by simp [results, Tryd.results10, go_sem, x0, x1, x2, x3]) rfl ⟨rfl, HN.out ▸ hB⟩
  · have M1 := Lib.hid (fun w => smapOkB h1 w)
    clear h1
    go_enter Tryd.func10, Tryd.ntmps10
    go_upto_region 1 with fail
    obtain ⟨W0, hW0⟩ : ∃ W0, W0 = (((w.alloc (.cells #[.int .i64 a, .int .i64 b, .int .i64 c] 25)).alloc (.cells #[.int .i64 e, .int .i64 f, .int .i64 g] 25)).alloc (.cells #[.int .i64 0, .int .i64 0, .int .i64 0, .int .i64 0] 29)) := ⟨_, rfl⟩
    have A0 := Lib.hid (PRE.out W0 hW0).1
    have B0 := Lib.hid (PRE.out W0 hW0).2
    rw [← hW0]
    clear hW0 PRE
    generalize hn : w.heap.size = n at A0 ⊢
    have HN := Lib.hid hn
    clear hn
    obtain ⟨⟨z0, z1, z2, z3, z4, z5⟩, _⟩ := A0.out
    go_wp2_with fail
    refine (M1.out _).mono ?_
    rintro e9 w1 ⟨rfl, h1⟩
    clear z0 z1 z2 z3 z4 z5
    have A1 := Lib.hid (sm_keep h1 A0.out)
    have B1 := Lib.hid (B0.out.trans (h1.mono B0.out.size))
    clear h1 A0 B0
    obtain ⟨_, ⟨zm, q0, q1, q2, q3⟩, zf⟩ := A1.out
    go_wp2_with fail
    obtain ⟨X, hX, ⟨xm, x0, x1, x2, x3⟩, hB⟩ := zed4_store (p := 0) (q := 0) (r := 0) (s := 0) (show w.heap.size ≤ n + 2 by have := HN.out; omega) B1.out ⟨zm, q0, q1, q2, q3⟩
    rw [← hX]
    exact bodyPost_ret (v := .tuple #[ivV 0 0 0 0, .bool false]) (by simp [results, Tryd.results10, go_sem, x0, x1, x2, x3]) rfl ⟨rfl, HN.out ▸ hB⟩
  · have M1 := Lib.hid (fun w => smapOkB h1 w)
    have M2 := Lib.hid (fun w => smapOkB h2 w)
    clear h1 h2
    go_enter Tryd.func10, Tryd.ntmps10
    go_upto_region 1 with fail
    obtain ⟨W0, hW0⟩ : ∃ W0, W0 = (((w.alloc (.cells #[.int .i64 a, .int .i64 b, .int .i64 c] 25)).alloc (.cells #[.int .i64 e, .int .i64 f, .int .i64 g] 25)).alloc (.cells #[.int .i64 0, .int .i64 0, .int .i64 0, .int .i64 0] 29)) := ⟨_, rfl⟩
    have A0 := Lib.hid (PRE.out W0 hW0).1
    have B0 := Lib.hid (PRE.out W0 hW0).2
    rw [← hW0]
    clear hW0 PRE
    generalize hn : w.heap.size = n at A0 ⊢
    have HN := Lib.hid hn
    clear hn
    obtain ⟨⟨z0, z1, z2, z3, z4, z5⟩, _⟩ := A0.out
    go_wp2_with fail
    refine (M1.out _).mono ?_
    rintro e9 w1 ⟨rfl, h1⟩
    clear z0 z1 z2 z3 z4 z5
    have A1 := Lib.hid (sm_keep h1 A0.out)
    have B1 := Lib.hid (B0.out.trans (h1.mono B0.out.size))
    clear h1 A0 B0
    obtain ⟨⟨z0, z1, z2, z3, z4, z5⟩, _⟩ := A1.out
    go_wp2_with fail
    refine (M2.out _).mono ?_
    rintro e9 w2 ⟨rfl, h1⟩
    clear z0 z1 z2 z3 z4 z5
    have A2 := Lib.hid (sm_keep h1 A1.out)
    have B2 := Lib.hid (B1.out.trans (h1.mono B1.out.size))
    clear h1 A1 B1
    obtain ⟨_, ⟨zm, q0, q1, q2, q3⟩, zf⟩ := A2.out
    go_wp2_with fail
    obtain ⟨X, hX, ⟨xm, x0, x1, x2, x3⟩, hB⟩ := zed4_store (p := 0) (q := 0) (r := 0) (s := 0) (show w.heap.size ≤ n + 2 by have := HN.out; omega) B2.out ⟨zm, q0, q1, q2, q3⟩
    rw [← hX]
    exact bodyPost_ret (v := .tuple #[ivV 0 0 0 0, .bool false]) (by simp [results, Tryd.results10, go_sem, x0, x1, x2, x3]) rfl ⟨rfl, HN.out ▸ hB⟩
end Go.Proofs.YtfhefakacjkmiaaDoor
