/- Contracts of spec.MakePitch, spec.ComparePitches and spec.TimesPitch. -/
import Derived.Test.YtgoaofkbegfinaaPitchWalks
namespace Go.Proofs.Ytgoaofkbegfinaa
open Go.RowKit Go.Joins
set_option linter.unusedVariables false
/-- A pitch and whether there is one. -/
def PairP (x y : Int) (z : Bool) (w : World) (e : Ending) (w' : World) : Prop := e = .returned (.tuple #[pchV x y, .bool z]) ∧ Below w.heap.size w w'
theorem make_noB {n d x y : Int} {z : Bool} (h : MakeAt n d x y z) (hn : ¬ MkOk n d) : x = 0 ∧ y = 0 ∧ z = false := h.elim (fun q => absurd q.1 hn) (fun q => q.2)
theorem make_yes {n d x y : Int} {z : Bool} (h : MakeAt n d x y z) (hn : MkOk n d) : x = n / gcdI n d ∧ y = d / gcdI n d ∧ z = true := h.elim (fun q => q.2) (fun q => absurd hn q.1)
/-- The zero pitch is stored. -/
theorem zero_store {w W : World} {m : Nat} (hm : m = w.heap.size) (hz : Zed2 m W) (hb : Below w.heap.size w W) : ∃ X, (W.setCell ⟨m, 0, none⟩ (.int .i64 0)).setCell ⟨m, 1, none⟩ (.int .i64 0) = X ∧ Duo m 0 0 X ∧ Below w.heap.size w X := duo_store (by omega) hb hz.1
set_option maxRecDepth 100000 in
set_option maxHeartbeats 2000000 in
theorem make_spec {n d x y : Int} {z : Bool} (hf : MakeAt n d x y z) (w : World) : Calls Try.prog 17 #[.int .i64 n, .int .i64 d] w (PairP x y z w) := by
  have Z0 := Lib.hid (zed2_alloc (w := w) (t := 25))
  have B0 := Lib.hid (below_alloc1 w (.cells #[.int .i64 0, .int .i64 0] 25))
  by_cases h1 : 1 ≤ n ∧ n ≤ 1000000000000000000
  · have H1 := Lib.hid (decide_eq_true h1)
    by_cases h2 : 1 ≤ d ∧ d ≤ 1000000000000000000
    · have H2 := Lib.hid (decide_eq_true h2)
      obtain ⟨⟨g1, g2, g3⟩, s1, ⟨q1, q2⟩, s2⟩ := gcd_facts h1.1 h2.1
      have GC := Lib.hid (fun w => gcdL_spec n d w (by omega) (by omega) (by omega) (by omega))
      have hfm : (MkOk n d ∧ x = n / gcdI n d ∧ y = d / gcdI n d ∧ z = true) ∨ (¬ MkOk n d ∧ x = 0 ∧ y = 0 ∧ z = false) := hf
      have hok : MkOk n d ↔ pkB (n / gcdI n d) (d / gcdI n d) = true := by
        unfold pkB
        rw [decide_eq_true_iff]
        exact ⟨fun q => q.2, fun q => ⟨⟨h1, h2⟩, q⟩⟩
      have u1 : n / gcdI n d ≤ n := Int.ediv_le_self _ (by omega)
      have u2 : d / gcdI n d ≤ d := Int.ediv_le_self _ (by omega)
      rw [hok] at hfm
      have e1 : n.tdiv (gcdI n d) = n / gcdI n d := Int.tdiv_eq_ediv_of_nonneg (by omega)
      have e2 : d.tdiv (gcdI n d) = d / gcdI n d := Int.tdiv_eq_ediv_of_nonneg (by omega)
      obtain ⟨a, ha⟩ : ∃ a, a = n / gcdI n d := ⟨_, rfl⟩
      obtain ⟨b, hb⟩ : ∃ b, b = d / gcdI n d := ⟨_, rfl⟩
      rw [← ha, ← hb] at hfm
      rw [← ha] at e1 u1 q1
      rw [← hb] at e2 u2 q2
      clear s1 s2
      obtain ⟨g, hg⟩ : ∃ g, g = gcdI n d := ⟨_, rfl⟩
      rw [← hg] at GC e1 e2 g1
      have w1 : IntKind.i64.wrap (n.tdiv g) = a := by rw [e1]; exact IntWalk.i64_in _ (by omega)
      have w2 : IntKind.i64.wrap (d.tdiv g) = b := by rw [e2]; exact IntWalk.i64_in _ (by omega)
      have hq : ¬ g = 0 := by omega
      have W12 := Lib.hid (And.intro w1 (And.intro w2 hq))
      clear w1 w2 hq
      have PK := Lib.hid (fun w => pitchOk_spec a b w)
      obtain ⟨k, hk⟩ : ∃ k, k = pkB a b := ⟨_, rfl⟩
      rw [← hk] at PK hfm
      have HF := Lib.hid hfm
      clear hf hok ha hb hg h1 h2 hk e1 e2 g1 g2 g3 u1 u2 q1 q2 hfm
      go_enter Try.func17, Try.ntmps17
      go_wp2_with fail
      refine (inT_any _ _ _ _).mono ?_
      rintro e w1 ⟨rfl, rfl⟩
      rw [H1.out]
      go_wp2_with fail
      refine (inT_any _ _ _ _).mono ?_
      rintro e w1 ⟨rfl, rfl⟩
      rw [H2.out]
      go_wp2_with fail
      refine (GC.out _).mono ?_
      rintro e w3 ⟨rfl, kk, rfl⟩
      go_upto_region 4 with fail
      obtain ⟨W0, hW0⟩ : ∃ W, W = (w.alloc (.cells #[.int .i64 0, .int .i64 0] 25)).drewN kk := ⟨_, rfl⟩
      have Z1 : Hid (Zed2 w.heap.size W0) := Lib.hid (by rw [hW0]; exact Z0.out)
      have B1 : Hid (Below w.heap.size w W0) := Lib.hid (by rw [hW0]; exact below_drewN B0.out _)
      rw [← hW0]
      clear hW0 Z0 B0
      obtain ⟨m, hm⟩ : ∃ m, m = w.heap.size := ⟨_, rfl⟩
      rw [← hm] at Z1 ⊢
      have HM := Lib.hid hm
      clear hm
      obtain ⟨v1, v2, v3⟩ := W12.out
      go_region
      all_goals
        obtain ⟨W1, hW1⟩ : ∃ X, X = (W0.alloc (.cells #[.int .i64 a, .int .i64 b] 25)).drew := ⟨_, rfl⟩
        have D1 : Hid (Duo W0.heap.size a b W1) := Lib.hid (by rw [hW1]; exact duo_alloc (w := W0))
        have Z2 : Hid (Zed2 m W1) := Lib.hid (by rw [hW1]; exact zed2_keep (below_alloc1 W0 _).drew Z1.out)
        have B2 : Hid (Below w.heap.size w W1) := Lib.hid (by rw [hW1]; exact B1.out.trans ((below_alloc1 W0 _).drew.mono B1.out.size))
        rw [← hW1]
        obtain ⟨_, c0, c1⟩ := D1.out
        generalize W0.heap.size = m1 at D1 c0 c1 ⊢
        clear hW1 Z1 B1 v1 v2 v3
        go_wp2_with fail
        refine (PK.out _).mono ?_
        rintro e w5 ⟨rfl, h5⟩
        have Z5 := Lib.hid (zed2_keep h5 Z2.out)
        have D5 := Lib.hid (duo_keep h5 D1.out)
        have B5 := Lib.hid (B2.out.trans (h5.mono B2.out.size))
        clear h5 c0 c1 Z2 D1 B2
        obtain ⟨⟨_, z0, z1⟩, f0, f1⟩ := Z5.out
        obtain ⟨_, d0, d1⟩ := D5.out
        cases k
        · obtain ⟨rfl, rfl, rfl⟩ := HF.out.elim (fun q => absurd q.1 (by decide)) (fun q => q.2)
          go_wp2_with fail
          obtain ⟨X, hX, ⟨_, x0, x1⟩, hB⟩ := zero_store HM.out Z5.out B5.out
          rw [hX]
          exact bodyPost_ret (v := .tuple #[pchV 0 0, .bool false]) (by simp [results, Try.results17, go_sem, x0, x1]) rfl ⟨rfl, hB⟩
        · obtain ⟨rfl, rfl, rfl⟩ := HF.out.elim (fun q => q.2) (fun q => absurd rfl q.1)
          go_wp2_with fail
          obtain ⟨X, hX, ⟨_, x0, x1⟩, hB⟩ := duo_store (p := x) (q := y) (by have := HM.out; omega) B5.out Z5.out.1
          rw [hX]
          exact bodyPost_ret (v := .tuple #[pchV x y, .bool true]) (by simp [results, Try.results17, go_sem, x0, x1]) rfl ⟨rfl, hB⟩
    · have H2 := Lib.hid (decide_eq_false h2)
      obtain ⟨rfl, rfl, rfl⟩ := make_noB hf (fun q => h2 q.1.2)
      obtain ⟨⟨_, z0, z1⟩, f0, f1⟩ := Z0.out
      clear h1 h2 hf
      go_enter Try.func17, Try.ntmps17
      go_wp2_with fail
      refine (inT_any _ _ _ _).mono ?_
      rintro e w1 ⟨rfl, rfl⟩
      rw [H1.out]
      go_wp2_with fail
      refine (inT_any _ _ _ _).mono ?_
      rintro e w1 ⟨rfl, rfl⟩
      rw [H2.out]
      go_wp2_with fail
      exact bodyPost_ret (v := .tuple #[pchV 0 0, .bool false]) (by simp [results, Try.results17, go_sem, z0, z1]) rfl ⟨rfl, B0.out⟩
  · have H1 := Lib.hid (decide_eq_false h1)
    obtain ⟨rfl, rfl, rfl⟩ := make_noB hf (fun q => h1 q.1.1)
    obtain ⟨⟨_, z0, z1⟩, f0, f1⟩ := Z0.out
    clear h1 hf
    go_enter Try.func17, Try.ntmps17
    go_wp2_with fail
    refine (inT_any _ _ _ _).mono ?_
    rintro e w1 ⟨rfl, rfl⟩
    rw [H1.out]
    go_wp2_with fail
    exact bodyPost_ret (v := .tuple #[pchV 0 0, .bool false]) (by simp [results, Try.results17, go_sem, z0, z1]) rfl ⟨rfl, B0.out⟩
/-- Two boxes of pitches. -/
def TwoD (m k : Nat) (a b c d : Int) (w : World) : Prop := Duo m a b w ∧ Duo k c d w
theorem twoD_keep {W w : World} {m k : Nat} {a b c d : Int} (hb : Below W.heap.size W w) (h : TwoD m k a b c d W) : TwoD m k a b c d w := ⟨duo_keep hb h.1, duo_keep hb h.2⟩
theorem twoD_alloc (w : World) (a b c d : Int) (t : TypeId) : TwoD w.heap.size (w.heap.size + 1) a b c d ((w.alloc (.cells #[.int .i64 a, .int .i64 b] t)).alloc (.cells #[.int .i64 c, .int .i64 d] t)) := by
  refine ⟨duo_al duo_alloc, ?_⟩
  have h := duo_alloc (w := w.alloc (.cells #[.int .i64 a, .int .i64 b] t)) (p := c) (q := d) (t := t)
  rwa [World.size_alloc] at h
theorem wrap64_in {x : Int} (h : -9223372036854775808 ≤ x ∧ x ≤ 9223372036854775807) : wrap64 x = x := by unfold wrap64; omega
theorem prod_bd {x y : Int} (hx : 1 ≤ x ∧ x ≤ 1000000000) (hy : 1 ≤ y ∧ y ≤ 1000000000) : 1 ≤ x * y ∧ x * y ≤ 1000000000 * 1000000000 :=
  ⟨Int.mul_pos (by omega) (by omega), Int.mul_le_mul hx.2 hy.2 (by omega) (by omega)⟩
set_option maxRecDepth 100000 in
set_option maxHeartbeats 2000000 in
theorem cmp17_spec {an ad bn bd c : Int} (hf : CmpAt an ad bn bd c) (w : World) : Calls Try.prog 20 #[pchV an ad, pchV bn bd] w fun e w' => e = .returned (.int .i64 c) ∧ Below w.heap.size w w' := by
  have PA := Lib.hid (fun w => pitchOk_spec an ad w)
  have PB := Lib.hid (fun w => pitchOk_spec bn bd w)
  have T0 := Lib.hid (twoD_alloc w an ad bn bd 25)
  have B0 := Lib.hid (below_alloc2 w (.cells #[.int .i64 an, .int .i64 ad] 25) (.cells #[.int .i64 bn, .int .i64 bd] 25))
  by_cases h1 : PkOk an ad
  · rw [show pkB an ad = true from decide_eq_true h1] at PA
    by_cases h2 : PkOk bn bd
    · rw [show pkB bn bd = true from decide_eq_true h2] at PB
      have hc := hf.elim (fun q => q.2) (fun q => absurd ⟨h1, h2⟩ q.1)
      have b1 := prod_bd h1.1.1 h2.1.2
      have b2 := prod_bd h2.1.1 h1.1.2
      have w1 : wrap64 (an * bd) = an * bd := wrap64_in (by omega)
      have w2 : wrap64 (bn * ad) = bn * ad := wrap64_in (by omega)
      obtain ⟨x, hx⟩ : ∃ x, x = an * bd := ⟨_, rfl⟩
      obtain ⟨y, hy⟩ : ∃ y, y = bn * ad := ⟨_, rfl⟩
      rw [← hx, ← hy] at hc
      have w1 := w1.trans hx.symm
      have w2 := w2.trans hy.symm
      have W12 := Lib.hid (And.intro w1 w2)
      have HC := Lib.hid hc
      clear hf hc b1 b2 w1 w2 h1 h2 hx hy
      go_enter Try.func20, Try.ntmps20
      go_upto_region 1 with fail
      obtain ⟨W0, hW0⟩ : ∃ W, W = (w.alloc (.cells #[.int .i64 an, .int .i64 ad] 25)).alloc (.cells #[.int .i64 bn, .int .i64 bd] 25) := ⟨_, rfl⟩
      rw [← hW0] at T0 B0 ⊢
      clear hW0
      obtain ⟨m, hm⟩ : ∃ m, m = w.heap.size := ⟨_, rfl⟩
      rw [← hm] at T0 ⊢
      clear hm
      obtain ⟨⟨_, c0, c1⟩, _, c2, c3⟩ := T0.out
      go_wp2_with fail
      refine (PA.out _).mono ?_
      rintro e w1 ⟨rfl, hb⟩
      have T1 := Lib.hid (twoD_keep hb T0.out)
      have B1 := Lib.hid (B0.out.trans (hb.mono B0.out.size))
      clear hb c0 c1 c2 c3 T0 B0
      obtain ⟨⟨_, c0, c1⟩, _, c2, c3⟩ := T1.out
      go_wp2_with fail
      refine (PB.out _).mono ?_
      rintro e w2 ⟨rfl, hb⟩
      have T2 := Lib.hid (twoD_keep hb T1.out)
      have B2 := Lib.hid (B1.out.trans (hb.mono B1.out.size))
      clear hb c0 c1 c2 c3 T1 B1
      obtain ⟨⟨_, c0, c1⟩, _, c2, c3⟩ := T2.out
      obtain ⟨v1, v2⟩ := W12.out
      rcases HC.out with ⟨q, rfl⟩ | ⟨q, rfl⟩ | ⟨q, rfl⟩
      · go_wp2_with fail
        go_ret
        exact ⟨rfl, B2.out⟩
      · have q2 : ¬ x < y := by omega
        go_wp2_with fail
        go_ret
        exact ⟨rfl, B2.out⟩
      · have q2 : ¬ x < y := by omega
        have q3 : ¬ y < x := by omega
        clear q
        go_wp2_with fail
        go_ret
        exact ⟨rfl, B2.out⟩
    · rw [show pkB bn bd = false from decide_eq_false h2] at PB
      obtain rfl := hf.elim (fun q => absurd q.1.2 h2) (fun q => q.2)
      clear h1 h2 hf
      go_enter Try.func20, Try.ntmps20
      go_upto_region 1 with fail
      obtain ⟨W0, hW0⟩ : ∃ W, W = (w.alloc (.cells #[.int .i64 an, .int .i64 ad] 25)).alloc (.cells #[.int .i64 bn, .int .i64 bd] 25) := ⟨_, rfl⟩
      rw [← hW0] at T0 B0 ⊢
      clear hW0
      obtain ⟨m, hm⟩ : ∃ m, m = w.heap.size := ⟨_, rfl⟩
      rw [← hm] at T0 ⊢
      clear hm
      obtain ⟨⟨_, c0, c1⟩, _, c2, c3⟩ := T0.out
      go_wp2_with fail
      refine (PA.out _).mono ?_
      rintro e w1 ⟨rfl, hb⟩
      have T1 := Lib.hid (twoD_keep hb T0.out)
      have B1 := Lib.hid (B0.out.trans (hb.mono B0.out.size))
      clear hb c0 c1 c2 c3 T0 B0
      obtain ⟨⟨_, c0, c1⟩, _, c2, c3⟩ := T1.out
      go_wp2_with fail
      refine (PB.out _).mono ?_
      rintro e w2 ⟨rfl, hb⟩
      have B2 := Lib.hid (B1.out.trans (hb.mono B1.out.size))
      clear hb c0 c1 c2 c3 T1 B1
      go_wp2_with fail
      go_ret
      exact ⟨rfl, B2.out⟩
  · rw [show pkB an ad = false from decide_eq_false h1] at PA
    obtain rfl := hf.elim (fun q => absurd q.1.1 h1) (fun q => q.2)
    clear h1 hf
    go_enter Try.func20, Try.ntmps20
    go_upto_region 1 with fail
    obtain ⟨W0, hW0⟩ : ∃ W, W = (w.alloc (.cells #[.int .i64 an, .int .i64 ad] 25)).alloc (.cells #[.int .i64 bn, .int .i64 bd] 25) := ⟨_, rfl⟩
    rw [← hW0] at T0 B0 ⊢
    clear hW0
    obtain ⟨m, hm⟩ : ∃ m, m = w.heap.size := ⟨_, rfl⟩
    rw [← hm] at T0 ⊢
    clear hm
    obtain ⟨⟨_, c0, c1⟩, _, c2, c3⟩ := T0.out
    go_wp2_with fail
    refine (PA.out _).mono ?_
    rintro e w1 ⟨rfl, hb⟩
    have T1 := Lib.hid (twoD_keep hb T0.out)
    have B1 := Lib.hid (B0.out.trans (hb.mono B0.out.size))
    clear hb c0 c1 c2 c3 T0 B0
    obtain ⟨⟨_, c0, c1⟩, _, c2, c3⟩ := T1.out
    go_wp2_with fail
    go_ret
    exact ⟨rfl, B1.out⟩
theorem times_noB {n d u v x y : Int} {z : Bool} (h : TimesAt17 n d u v x y z) (hn : ¬ TpOk n d u v) : x = 0 ∧ y = 0 ∧ z = false := h.elim (fun q => absurd q.1 hn) (fun q => q.2)
set_option maxRecDepth 100000 in
set_option maxHeartbeats 2000000 in
theorem times17_spec {n d u v x y : Int} {z : Bool} (hf : TimesAt17 n d u v x y z) (w : World) : Calls Try.prog 21 #[pchV n d, .int .i64 u, .int .i64 v] w (PairP x y z w) := by
  have PA := Lib.hid (fun w => pitchOk_spec n d w)
  obtain ⟨W0, hW0⟩ : ∃ W, W = (w.alloc (.cells #[.int .i64 n, .int .i64 d] 25)).alloc (.cells #[.int .i64 0, .int .i64 0] 25) := ⟨_, rfl⟩
  have D0 : Hid (Duo w.heap.size n d W0) := Lib.hid (by rw [hW0]; exact duo_al duo_alloc)
  have Z0 : Hid (Zed2 (w.heap.size + 1) W0) := Lib.hid (by
    rw [hW0]
    have h := zed2_alloc (w := w.alloc (.cells #[.int .i64 n, .int .i64 d] 25)) (t := 25)
    rwa [World.size_alloc] at h)
  have B0 : Hid (Below w.heap.size w W0) := Lib.hid (by rw [hW0]; exact below_alloc2 w _ _)
  obtain ⟨m, hm⟩ : ∃ m, m = w.heap.size := ⟨_, rfl⟩
  rw [← hm] at D0 Z0
  have HM := Lib.hid hm
  by_cases h1 : PkOk n d
  · rw [show pkB n d = true from decide_eq_true h1] at PA
    by_cases h2 : 1 ≤ u ∧ u ≤ 1000
    · have H2 := Lib.hid (decide_eq_true h2)
      by_cases h3 : 1 ≤ v ∧ v ≤ 1000
      · have H3 := Lib.hid (decide_eq_true h3)
        have hmk := hf.elim (fun q => q.2) (fun q => absurd ⟨h1, h2, h3⟩ q.1)
        have b1 : n * u ≤ 1000000000 * 1000 := Int.mul_le_mul h1.1.1.2 h2.2 (by omega) (by omega)
        have b2 : d * v ≤ 1000000000 * 1000 := Int.mul_le_mul h1.1.2.2 h3.2 (by omega) (by omega)
        have b3 : 0 ≤ n * u := Int.mul_nonneg (by have := h1.1.1.1; omega) (by omega)
        have b4 : 0 ≤ d * v := Int.mul_nonneg (by have := h1.1.2.1; omega) (by omega)
        have v1 : wrap64 (n * u) = n * u := wrap64_in (by omega)
        have v2 : wrap64 (d * v) = d * v := wrap64_in (by omega)
        have MK := Lib.hid (fun w => make_spec hmk w)
        have W12 := Lib.hid (And.intro v1 v2)
        clear hf hmk b1 b2 b3 b4 v1 v2 h1 h2 h3
        go_enter Try.func21, Try.ntmps21
        go_upto_region 1 with fail
        rw [← hW0, ← hm]
        clear hW0 hm
        obtain ⟨_, c0, c1⟩ := D0.out
        go_wp2_with fail
        refine (PA.out _).mono ?_
        rintro e w1 ⟨rfl, hb⟩
        have D1 := Lib.hid (duo_keep hb D0.out)
        have Z1 := Lib.hid (zed2_keep hb Z0.out)
        have B1 := Lib.hid (B0.out.trans (hb.mono B0.out.size))
        clear hb c0 c1 D0 Z0 B0
        obtain ⟨_, c0, c1⟩ := D1.out
        obtain ⟨⟨_, z0, z1⟩, f0, f1⟩ := Z1.out
        go_wp2_with fail
        refine (inT_any _ _ _ _).mono ?_
        rintro e w1 ⟨rfl, rfl⟩
        rw [H2.out]
        go_wp2_with fail
        refine (inT_any _ _ _ _).mono ?_
        rintro e w1 ⟨rfl, rfl⟩
        rw [H3.out]
        obtain ⟨v1, v2⟩ := W12.out
        go_wp2_with fail
        refine (MK.out _).mono ?_
        rintro e w2 ⟨rfl, hb⟩
        have Z2 := Lib.hid (zed2_keep hb Z1.out)
        have B2 := Lib.hid (B1.out.trans (hb.mono B1.out.size))
        clear hb c0 c1 Z1 B1 D1 v1 v2
        obtain ⟨⟨_, z0, z1⟩, f0, f1⟩ := Z2.out
        go_wp2_with fail
        obtain ⟨X, hX, ⟨_, x0, x1⟩, hB⟩ := duo_store (p := x) (q := y) (by have := HM.out; omega) B2.out Z2.out.1
        rw [hX]
        exact bodyPost_ret (v := .tuple #[pchV x y, .bool z]) (by simp [results, Try.results21, go_sem, x0, x1]) rfl ⟨rfl, hB⟩
      · have H3 := Lib.hid (decide_eq_false h3)
        obtain ⟨rfl, rfl, rfl⟩ := times_noB hf (fun q => h3 q.2.2)
        clear h1 h2 h3 hf
        go_enter Try.func21, Try.ntmps21
        go_upto_region 1 with fail
        rw [← hW0, ← hm]
        clear hW0 hm
        obtain ⟨_, c0, c1⟩ := D0.out
        go_wp2_with fail
        refine (PA.out _).mono ?_
        rintro e w1 ⟨rfl, hb⟩
        have D1 := Lib.hid (duo_keep hb D0.out)
        have Z1 := Lib.hid (zed2_keep hb Z0.out)
        have B1 := Lib.hid (B0.out.trans (hb.mono B0.out.size))
        clear hb c0 c1 D0 Z0 B0
        obtain ⟨_, c0, c1⟩ := D1.out
        obtain ⟨⟨_, z0, z1⟩, f0, f1⟩ := Z1.out
        go_wp2_with fail
        refine (inT_any _ _ _ _).mono ?_
        rintro e w1 ⟨rfl, rfl⟩
        rw [H2.out]
        go_wp2_with fail
        refine (inT_any _ _ _ _).mono ?_
        rintro e w1 ⟨rfl, rfl⟩
        rw [H3.out]
        go_wp2_with fail
        obtain ⟨X, hX, ⟨_, x0, x1⟩, hB⟩ := duo_store (p := 0) (q := 0) (by have := HM.out; omega) B1.out Z1.out.1
        rw [hX]
        exact bodyPost_ret (v := .tuple #[pchV 0 0, .bool false]) (by simp [results, Try.results21, go_sem, x0, x1]) rfl ⟨rfl, hB⟩
    · have H2 := Lib.hid (decide_eq_false h2)
      obtain ⟨rfl, rfl, rfl⟩ := times_noB hf (fun q => h2 q.2.1)
      clear h1 h2 hf
      go_enter Try.func21, Try.ntmps21
      go_upto_region 1 with fail
      rw [← hW0, ← hm]
      clear hW0 hm
      obtain ⟨_, c0, c1⟩ := D0.out
      go_wp2_with fail
      refine (PA.out _).mono ?_
      rintro e w1 ⟨rfl, hb⟩
      have D1 := Lib.hid (duo_keep hb D0.out)
      have Z1 := Lib.hid (zed2_keep hb Z0.out)
      have B1 := Lib.hid (B0.out.trans (hb.mono B0.out.size))
      clear hb c0 c1 D0 Z0 B0
      obtain ⟨_, c0, c1⟩ := D1.out
      obtain ⟨⟨_, z0, z1⟩, f0, f1⟩ := Z1.out
      go_wp2_with fail
      refine (inT_any _ _ _ _).mono ?_
      rintro e w1 ⟨rfl, rfl⟩
      rw [H2.out]
      go_wp2_with fail
      obtain ⟨X, hX, ⟨_, x0, x1⟩, hB⟩ := duo_store (p := 0) (q := 0) (by have := HM.out; omega) B1.out Z1.out.1
      rw [hX]
      exact bodyPost_ret (v := .tuple #[pchV 0 0, .bool false]) (by simp [results, Try.results21, go_sem, x0, x1]) rfl ⟨rfl, hB⟩
  · rw [show pkB n d = false from decide_eq_false h1] at PA
    obtain ⟨rfl, rfl, rfl⟩ := times_noB hf (fun q => h1 q.1)
    clear h1 hf
    go_enter Try.func21, Try.ntmps21
    go_upto_region 1 with fail
    rw [← hW0, ← hm]
    clear hW0 hm
    obtain ⟨_, c0, c1⟩ := D0.out
    go_wp2_with fail
    refine (PA.out _).mono ?_
    rintro e w1 ⟨rfl, hb⟩
    have D1 := Lib.hid (duo_keep hb D0.out)
    have Z1 := Lib.hid (zed2_keep hb Z0.out)
    have B1 := Lib.hid (B0.out.trans (hb.mono B0.out.size))
    clear hb c0 c1 D0 Z0 B0
    obtain ⟨_, c0, c1⟩ := D1.out
    obtain ⟨⟨_, z0, z1⟩, f0, f1⟩ := Z1.out
    go_wp2_with fail
    obtain ⟨X, hX, ⟨_, x0, x1⟩, hB⟩ := duo_store (p := 0) (q := 0) (by have := HM.out; omega) B1.out Z1.out.1
    rw [hX]
    exact bodyPost_ret (v := .tuple #[pchV 0 0, .bool false]) (by simp [results, Try.results21, go_sem, x0, x1]) rfl ⟨rfl, hB⟩
end Go.Proofs.Ytgoaofkbegfinaa
