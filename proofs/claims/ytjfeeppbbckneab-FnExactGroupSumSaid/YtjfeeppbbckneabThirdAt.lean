/- Contracts of ThirdAt and ThirdError, both sides. -/
import Derived.Test.YtjfeeppbbckneabThirdParts
import Derived.Test.YtjfeeppbbckneabMeanWalks
import Derived.Test.YtjfeeppbbckneabZedC
import Derived.Deep.RegionHeld3
import Derived.Deep.DeepCutAuto
namespace Go.Proofs.Ytjfeeppbbckneab
open Go.RowKit Go.Joins
set_option linter.unusedVariables false
theorem one_cell {w : World} {m : Nat} {v : Value} (h : One m v w) : w.cell? ⟨m, 0, none⟩ = some v := h.2.1
/-- The sum of four parts, and the third of it. -/
theorem th_of {xs : List Int} {i p q r s : Int} (h : (CirOk xs ∧ 0 ≤ i ∧ i ≤ 11) ∧ p = (thV (cycTo xs i.toNat 4)).two ∧ q = (thV (cycTo xs i.toNat 4)).three ∧ r = (thV (cycTo xs i.toNat 4)).five ∧ s = (thV (cycTo xs i.toNat 4)).root) :
    ∃ c a b d e, c = cycTo xs i.toNat 4 ∧ (0 ≤ c ∧ c ≤ 12) ∧ ChAt 4 c a b d e ∧ DiffSays 2 0 0 1 a b d e p q r s true := by
  obtain ⟨hc, rfl, rfl, rfl, rfl⟩ := h
  have hb := cyc_bd hc.1 i.toNat (k := 4) (by omega)
  have k := (thi_all hb).1
  exact ⟨_, _, _, _, _, rfl, hb, ⟨⟨by omega, by omega, by omega, by omega⟩, rfl, rfl, rfl, rfl⟩, diff_says ⟨2, 0, 0, 1⟩ (chV 4 (cycTo xs i.toNat 4)) _ true k⟩
theorem th_simple {c p q r s t u : Int} (hc : 0 ≤ c ∧ c ≤ 12) (h : p = (thV c).two ∧ q = (thV c).three ∧ r = (thV c).five ∧ s = (thV c).root) (ht : t = 19 * c - 72) (hu : u = 48 - 12 * c) (w : World) :
    Calls Try.prog 76 #[ivV t u 0 12] w fun e w' => e = .returned (ivV p q r s) ∧ Below w.heap.size w w' := by
  obtain ⟨rfl, rfl, rfl, rfl⟩ := h
  subst ht
  subst hu
  exact simple_any _ _ _ _ _ w rfl (by omega) (by omega) (by omega) (by omega) (by omega) (by omega) (by omega) (by omega)
theorem er_simple {c p q r s t u : Int} (hc : 0 ≤ c ∧ c ≤ 12) (h : p = (erV c).two ∧ q = (erV c).three ∧ r = (erV c).five ∧ s = (erV c).root) (ht : t = 19 * c - 48) (hu : u = 48 - 12 * c) (w : World) :
    Calls Try.prog 76 #[ivV t u (-12) 12] w fun e w' => e = .returned (ivV p q r s) ∧ Below w.heap.size w w' := by
  obtain ⟨rfl, rfl, rfl, rfl⟩ := h
  subst ht
  subst hu
  exact simple_any _ _ _ _ _ w rfl (by omega) (by omega) (by omega) (by omega) (by omega) (by omega) (by omega) (by omega)
set_option maxRecDepth 100000 in
set_option maxHeartbeats 2000000 in
theorem thirdAt_spec {xs : List Int} {i p q r s : Int} (hf : ThAt xs i p q r s) (w : World) (b : Nat) (e : TypeId) (v : Value) (hl : xs.length ≤ 2000000) (h : w.ownsRow b e 1 v xs.length (intCs xs)) :
    Calls Try.prog 59 #[cirV v, .int .i64 i] w fun en w' => en = .returned (ivV p q r s) ∧ Below w.heap.size w w' := by
  have CO := Lib.hid (l12Has_any _ b e v xs i hl (own_below h (below_alloc2 w (.cells #[v] 26) (.cells #[.int .i64 0, .int .i64 0, .int .i64 0, .int .i64 0] 44))))
  rcases hf with ⟨⟨hc, hi⟩, ha⟩ | ⟨hb, rfl, rfl, rfl, rfl⟩
  · rw [show cirB xs = true from decide_eq_true hc, decide_eq_true hi, Bool.true_and] at CO
    obtain ⟨j, hj⟩ : ∃ j, j = i.toNat := ⟨_, rfl⟩
    rw [← hj] at ha
    have hi' : i = (j : Int) := by omega
    have hj12 : j < 12 := by omega
    subst hi'
    clear hj hi hl
    obtain ⟨g, cap, rfl, hg, _, _, hcl⟩ := cir_row h hc
    have HP := Lib.hid (fun w (hg : g < w.heap.size) hcl => l13Sum_any hc j 4 hj12 (by omega) w g cap hg hcl)
    have hb := cyc_bd hc j (k := 4) (by omega)
    obtain ⟨x, hx⟩ : ∃ x, x = cycTo xs j 4 := ⟨_, rfl⟩
    rw [← hx] at ha hb HP
    obtain ⟨t, ht⟩ : ∃ t, t = 19 * x - 72 := ⟨_, rfl⟩
    obtain ⟨u, hu⟩ : ∃ u, u = 48 - 12 * x := ⟨_, rfl⟩
    have HN := Lib.hid (fun w => th_simple hb ha ht hu w)
    have v0 : IntKind.i64.wrap (19 * x) = 19 * x := IntWalk.i64_in _ (by omega)
    have v1 : IntKind.i64.wrap (19 * x - 72) = t := by rw [IntWalk.i64_in _ (by omega)]; exact ht.symm
    have v2 : IntKind.i64.wrap (12 * x) = 12 * x := IntWalk.i64_in _ (by omega)
    have v3 : IntKind.i64.wrap (48 - 12 * x) = u := by rw [IntWalk.i64_in _ (by omega)]; exact hu.symm
    have HC := Lib.hid hcl
    have HG := Lib.hid hg
    clear ha hx hcl h hc ht hu hg hb
    go_enter Try.func59, Try.ntmps59
    go_wp2_with fail
    refine CO.out.mono ?_
    rintro e1 w1 ⟨rfl, b1⟩
    have Z1 : Hid (Zero4 (w.heap.size + 1) w1) := Lib.hid (by simpa using zero4_keep b1 (zero4_alloc (w := w.alloc (.cells #[.slice (some ⟨g, 0, none⟩) 12 cap] 26)) (t := 44)))
    obtain ⟨_, c0, _⟩ := one_keep b1 (one_al (o := .cells #[.int .i64 0, .int .i64 0, .int .i64 0, .int .i64 0] 44) (one_alloc (w := w) (v := .slice (some ⟨g, 0, none⟩) 12 cap) (t := 26)))
    have B1 := Lib.hid ((below_alloc2 w (.cells #[.slice (some ⟨g, 0, none⟩) 12 cap] 26) (.cells #[.int .i64 0, .int .i64 0, .int .i64 0, .int .i64 0] 44)).trans (b1.mono (by simp; omega)))
    clear b1
    go_wp2_with fail
    refine (HP.out _ (Nat.lt_of_lt_of_le HG.out B1.out.size) (fun t ht => (B1.out.cell (p := ⟨g, t, none⟩) HG.out).trans (HC.out t ht))).mono ?_
    rintro e2 w2 ⟨rfl, b2⟩
    have Z2 := Lib.hid (zero4_keep b2 Z1.out)
    have B2 := Lib.hid (B1.out.trans (b2.mono B1.out.size))
    clear c0 b2 Z1 B1
    go_wp2_with fail
    refine (calls_zero Z2.out (Below.refl _ _) (HN.out _)).mono ?_
    rintro e3 w3 ⟨rfl, hb, ⟨zm, z0, z1, z2, z3⟩, zf⟩
    have B3 := Lib.hid (B2.out.trans (hb.mono B2.out.size))
    clear hb B2 Z2
    go_wp2_with fail
    obtain ⟨X, hX, ⟨gm, g0, g1, g2, g3⟩, gb⟩ := zed4_store (w := w) (p := p) (q := q) (r := r) (s := s) (by omega) B3.out ⟨zm, z0, z1, z2, z3⟩
    rw [← hX]
    have GB := Lib.hid gb
    clear hX gb z0 z1 z2 z3 zm zf B3
    refine bodyPost_ret (v := ivV p q r s) (by simp [results, Try.results59, go_sem, g0, g1, g2, g3]) rfl ⟨rfl, GB.out⟩
  · rw [hb] at CO
    obtain ⟨p0, c0, rfl⟩ := own_slice h
    clear h hl hb
    generalize xs.length = n at CO ⊢
    go_enter Try.func59, Try.ntmps59
    go_wp2_with fail
    refine CO.out.mono ?_
    rintro e1 w1 ⟨rfl, b1⟩
    obtain ⟨⟨zm, z0, z1, z2, z3⟩, zf⟩ : Zero4 (w.heap.size + 1) w1 := by simpa using zero4_keep b1 (zero4_alloc (w := w.alloc (.cells #[.slice p0 n c0] 26)) (t := 44))
    have B1 := Lib.hid ((below_alloc2 w (.cells #[.slice p0 n c0] 26) (.cells #[.int .i64 0, .int .i64 0, .int .i64 0, .int .i64 0] 44)).trans (b1.mono (by simp; omega)))
    clear b1
    go_wp2_with fail
    refine bodyPost_ret (v := ivV 0 0 0 0) (by simp [results, Try.results59, go_sem, z0, z1, z2, z3]) rfl ⟨rfl, ?_⟩
    repeat' (first | exact B1.out | (refine Below.setCell ?_ (by simp) _))
set_option maxRecDepth 100000 in
set_option maxHeartbeats 4000000 in
theorem thirdAt_impl {xs : List Int} {i p q r s : Int} (hf : ThAt xs i p q r s) (w : World) (b : Nat) (e : TypeId) (v : Value) (hl : xs.length ≤ 2000000) (h : w.ownsRow b e 1 v xs.length (intCs xs)) :
    Calls Try.prog 54 #[cirV v, .int .i64 i] w fun en w' => en = .returned (ivV p q r s) ∧ Below w.heap.size w w' := by
  have CO := Lib.hid (cirOk_impl _ b e v xs hl (own_below h (below_alloc2 w (.cells #[v] 26) (.cells #[.int .i64 0, .int .i64 0, .int .i64 0, .int .i64 0] 44))))
  have CK := Lib.hid (isKey_any i)
  rcases hf with ha | ⟨hb, rfl, rfl, rfl, rfl⟩
  · obtain ⟨hc, hi⟩ := ha.1
    obtain ⟨x, k, l, m, n, hx, hxb, hch, hds⟩ := th_of ha
    rw [show cirB xs = true from decide_eq_true hc] at CO
    rw [decide_eq_true hi] at CK
    obtain ⟨j, hj⟩ : ∃ j, j = i.toNat := ⟨_, rfl⟩
    rw [← hj] at hx
    have hi' : i = (j : Int) := by omega
    have hj12 : j < 12 := by omega
    subst hi'
    clear hj hi hl ha
    obtain ⟨g, cap, rfl, hg, _, _, hcl⟩ := cir_row h hc
    have HP := Lib.hid (fun w (hg : g < w.heap.size) hcl => partsFrom_any hc j 4 hj12 (by omega) w g cap hg hcl)
    rw [← hx] at HP
    have HN := Lib.hid (fun w => narrowed_impl hch w)
    have HD := Lib.hid (fun w => hds w)
    have HC := Lib.hid hcl
    have HG := Lib.hid hg
    clear hx hcl h hc hch hds hg
    go_enter Try.func54, Try.ntmps54
    go_wp2_with fail
    refine CO.out.mono ?_
    rintro e1 w1 ⟨rfl, b1⟩
    have Z1 : Hid (Zero4 (w.heap.size + 1) w1) := Lib.hid (by simpa using zero4_keep b1 (zero4_alloc (w := w.alloc (.cells #[.slice (some ⟨g, 0, none⟩) 12 cap] 26)) (t := 44)))
    obtain ⟨_, c0, _⟩ := one_keep b1 (one_al (o := .cells #[.int .i64 0, .int .i64 0, .int .i64 0, .int .i64 0] 44) (one_alloc (w := w) (v := .slice (some ⟨g, 0, none⟩) 12 cap) (t := 26)))
    have B1 := Lib.hid ((below_alloc2 w (.cells #[.slice (some ⟨g, 0, none⟩) 12 cap] 26) (.cells #[.int .i64 0, .int .i64 0, .int .i64 0, .int .i64 0] 44)).trans (b1.mono (by simp; omega)))
    clear b1
    go_wp2_with fail
    refine (CK.out _).mono ?_
    rintro e2 w2 ⟨rfl, rfl⟩
    go_wp2_with fail
    refine (HP.out _ (Nat.lt_of_lt_of_le HG.out B1.out.size) (fun t ht => (B1.out.cell (p := ⟨g, t, none⟩) HG.out).trans (HC.out t ht))).mono ?_
    rintro e3 w3 ⟨rfl, b3⟩
    have Z3 := Lib.hid (zero4_keep b3 Z1.out)
    have B3 := Lib.hid (B1.out.trans (b3.mono B1.out.size))
    clear c0 b3 Z1 B1
    go_wp2_with fail
    refine (HN.out _).mono ?_
    rintro e4 w4 ⟨rfl, b4⟩
    have A4 := below_alloc1 w4 (.cells #[.int .i64 k, .int .i64 l, .int .i64 m, .int .i64 n] 44)
    have Z4 := Lib.hid (zero4_keep A4 (zero4_keep b4 Z3.out))
    have B4 := Lib.hid ((B3.out.trans (b4.mono B3.out.size)).trans (A4.mono (Nat.le_trans B3.out.size b4.size)))
    have F4 := Lib.hid (four_alloc (w := w4) (p := k) (q := l) (r := m) (s := n) (t := 44))
    clear b4 A4 Z3 B3
    go_upto_region 4 with fail
    obtain ⟨W4, hW⟩ : ∃ W, W = w4.alloc (.cells #[.int .i64 k, .int .i64 l, .int .i64 m, .int .i64 n] 44) := ⟨_, rfl⟩
    obtain ⟨f, hfm⟩ : ∃ m, m = w4.heap.size := ⟨_, rfl⟩
    rw [← hW] at Z4 B4 F4 ⊢
    rw [← hfm] at F4 ⊢
    clear hW hfm
    obtain ⟨_, x0, x1, x2, x3⟩ := F4.out
    go_cut [6] (fun p6 wx => ∃ z : Nat, p6 = .pointer (some ⟨z, 0, none⟩) ∧ Four z p q r s wx ∧ Below W4.heap.size W4 wx)
    case first =>
      go_region_held3 (fun w' => w'.cell? ⟨f, 0, none⟩ = some (.int .i64 k) ∧ w'.cell? ⟨f, 1, none⟩ = some (.int .i64 l) ∧ w'.cell? ⟨f, 2, none⟩ = some (.int .i64 m) ∧ w'.cell? ⟨f, 3, none⟩ = some (.int .i64 n)) (with_reducible first | exact four_cellsF (four_keep (Below.refl _ _).drew F4.out) | exact four_cellsF (four_keep (by assumption) F4.out) | exact four_cellsF (four_keep (below_alC (Below.refl _ _).drew) F4.out) | exact four_cellsF (four_keep (below_alC (Below.refl _ _)).drew F4.out) | exact four_cellsF (four_keep (below_alC (by assumption)) F4.out) | exact four_cellsF (four_keep (below_set4C (by with_reducible exact (by assumption : Zc _ _ _).1) (by assumption)) F4.out))
        (first
          | (go_at_call 28; refine (calls_zc (W := W4) (by with_reducible first | assumption | exact below_alC (by assumption) | exact (Below.refl _ _).drew | exact (below_alC (Below.refl _ _)).drew) (by with_reducible first | assumption | exact zc_alloc (by assumption) | exact zc_drew (zc_alloc (Below.refl _ _))) (pure_impl_yes 2 0 0 _ (by decide))).mono ?_; rintro e5 w5 ⟨rfl, hb, hzb⟩; obtain ⟨zb, zm, z0, z1, z2, z3, zf⟩ := id hzb)
          | (go_at_call 28; refine (calls_fromF (W := W4) (by with_reducible first | assumption | exact (Below.refl _ _).drew) (pure_impl_yes 2 0 0 _ (by decide))).mono ?_; rintro e5 w5 ⟨rfl, hb⟩)
          | (go_at_call 70; refine (calls_zc (W := W4) (by with_reducible first | assumption | exact below_alC (by assumption) | exact (Below.refl _ _).drew | exact (below_alC (Below.refl _ _)).drew) (by with_reducible first | assumption | exact zc_alloc (by assumption) | exact zc_drew (zc_alloc (Below.refl _ _))) (HD.out _)).mono ?_; rintro e5 w5 ⟨rfl, hb, hzb⟩; obtain ⟨zb, zm, z0, z1, z2, z3, zf⟩ := id hzb)
          | (go_at_call 70; refine (calls_fromF (W := W4) (by with_reducible first | assumption | exact (Below.refl _ _).drew) (HD.out _)).mono ?_; rintro e5 w5 ⟨rfl, hb⟩))
      all_goals
        go_wp2_with fail
        go_meet
        with_reducible first
          | exact ⟨_, rfl, four_alloc, below_alC hb⟩
          | exact ⟨_, rfl, four_setC hzb, below_set4C hzb.1 hb⟩
    case rest =>
      obtain ⟨z, rfl, f7, b7⟩ := hcut
      obtain ⟨W7, hW⟩ : ∃ W, W = wc := ⟨_, rfl⟩
      rw [← hW] at b7 f7 ⊢
      have Z7 := Lib.hid (zero4_keep b7 Z4.out)
      have B7 := Lib.hid (B4.out.trans (b7.mono B4.out.size))
      obtain ⟨_, y0, y1, y2, y3⟩ := f7
      obtain ⟨⟨zm, z0, z1, z2, z3⟩, zf⟩ := Z7.out
      clear hW x0 x1 x2 x3 b7 Z4 B4 F4
      go_wp2_with fail
      obtain ⟨X, hX, ⟨gm, g0, g1, g2, g3⟩, gb⟩ := zed4_store (w := w) (p := p) (q := q) (r := r) (s := s) (by omega) B7.out ⟨zm, z0, z1, z2, z3⟩
      rw [← hX]
      have GB := Lib.hid gb
      clear hX gb z0 z1 z2 z3 zm zf B7
      refine bodyPost_ret (v := ivV p q r s) (by simp [results, Try.results54, go_sem, g0, g1, g2, g3]) rfl ⟨rfl, ?_⟩
      exact GB.out
  · generalize cirB xs = y at CO hb
    generalize decide (0 ≤ i ∧ i ≤ 11) = z at CK hb
    have HV := own_slice h
    obtain ⟨p0, c0, rfl⟩ := HV
    clear h hl
    generalize xs.length = n at CO ⊢
    cases y
    · go_enter Try.func54, Try.ntmps54
      go_wp2_with fail
      refine CO.out.mono ?_
      rintro e1 w1 ⟨rfl, b1⟩
      obtain ⟨⟨zm, z0, z1, z2, z3⟩, zf⟩ : Zero4 (w.heap.size + 1) w1 := by simpa using zero4_keep b1 (zero4_alloc (w := w.alloc (.cells #[.slice p0 n c0] 26)) (t := 44))
      have B1 := Lib.hid ((below_alloc2 w (.cells #[.slice p0 n c0] 26) (.cells #[.int .i64 0, .int .i64 0, .int .i64 0, .int .i64 0] 44)).trans (b1.mono (by simp; omega)))
      clear b1
      go_wp2_with fail
      refine bodyPost_ret (v := ivV 0 0 0 0) (by simp [results, Try.results54, go_sem, z0, z1, z2, z3]) rfl ⟨rfl, ?_⟩
      repeat' (first | exact B1.out | (refine Below.setCell ?_ (by simp) _))
    · simp only [Bool.true_and] at hb
      subst hb
      go_enter Try.func54, Try.ntmps54
      go_wp2_with fail
      refine CO.out.mono ?_
      rintro e1 w1 ⟨rfl, b1⟩
      obtain ⟨⟨zm, z0, z1, z2, z3⟩, zf⟩ : Zero4 (w.heap.size + 1) w1 := by simpa using zero4_keep b1 (zero4_alloc (w := w.alloc (.cells #[.slice p0 n c0] 26)) (t := 44))
      have B1 := Lib.hid ((below_alloc2 w (.cells #[.slice p0 n c0] 26) (.cells #[.int .i64 0, .int .i64 0, .int .i64 0, .int .i64 0] 44)).trans (b1.mono (by simp; omega)))
      clear b1
      go_wp2_with fail
      refine (CK.out _).mono ?_
      rintro e2 w2 ⟨rfl, rfl⟩
      go_wp2_with fail
      refine bodyPost_ret (v := ivV 0 0 0 0) (by simp [results, Try.results54, go_sem, z0, z1, z2, z3]) rfl ⟨rfl, ?_⟩
      repeat' (first | exact B1.out | (refine Below.setCell ?_ (by simp) _))
end Go.Proofs.Ytjfeeppbbckneab
