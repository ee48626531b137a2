/- Contract of spec.GroupSum: three thirds are together an octave. -/
import Derived.Test.YtjfeeppbbckneabClosMath
import Derived.Test.YtjfeeppbbckneabThirdAt
import Derived.Test.YtjfeeppbbckneabSAddTone
import Derived.Test.YtjfeeppbbckneabComWalks
import Derived.Deep.RegionHeld3
import Derived.Deep.DeepCutAuto
namespace Go.Proofs.Ytjfeeppbbckneab
open Go.RowKit Go.Joins
set_option linter.unusedVariables false
/-- spec.ThirdAt behind a world that is named. -/
def TaSay (v : Value) (i p q r s : Int) (W : World) : Prop := ∀ X, Below W.heap.size W X → Calls Try.prog 59 #[cirV v, .int .i64 i] X fun e w' => e = .returned (ivV p q r s) ∧ Below X.heap.size X w'
theorem ta_run {v : Value} {i p q r s : Int} {W : World} (h : TaSay v i p q r s W) (X : World) (hX : Below W.heap.size W X) : Calls Try.prog 59 #[cirV v, .int .i64 i] X fun e w' => e = .returned (ivV p q r s) ∧ Below X.heap.size X w' := h X hX
theorem ta_below {v : Value} {i p q r s : Int} {W W' : World} (h : TaSay v i p q r s W) (hb : Below W.heap.size W W') : TaSay v i p q r s W' := fun X hX => h X (hb.trans (hX.mono hb.size))
theorem one_g {w : World} {m : Nat} {v : Value} (h : One m v w) : w.cell? ⟨m, 0, none⟩ = some v := h.2.1
/-- The two sums of a group. -/
theorem gs_say {xs : List Int} (hc : CirOk xs) {j : Nat} (hj : j < 4) : ∃ a b c d e f g h k l m n p q r s, ThAt xs (j : Int) a b c d ∧ ThAt xs ((j : Int) + 4) e f g h ∧ ThAt xs ((j : Int) + 8) k l m n ∧ SAddSays a b c d e f g h p q r s true ∧ SAddSays p q r s k l m n 1 0 0 1 true := by
  have p1 := cyc_bd hc j (k := 4) (by omega)
  have p2 := cyc_bd hc (j + 4) (k := 4) (by omega)
  have p3 := cyc_bd hc (j + 8) (k := 4) (by omega)
  obtain ⟨x, h1, h2⟩ := oct_three p1.1 p2.1 p3.1 (three_sum hc j)
  refine ⟨_, _, _, _, _, _, _, _, _, _, _, _, x.two, x.three, x.five, x.root, .inl ⟨⟨hc, by omega, by omega⟩, rfl, rfl, rfl, rfl⟩, .inl ⟨⟨hc, by omega, by omega⟩, rfl, rfl, rfl, rfl⟩, .inl ⟨⟨hc, by omega, by omega⟩, rfl, rfl, rfl, rfl⟩, ?_, ?_⟩
  · rw [show ((j : Int) + 4).toNat = j + 4 from by omega, Int.toNat_natCast]
    exact sadd_says _ _ _ _ h1
  · rw [show ((j : Int) + 8).toNat = j + 8 from by omega]
    exact sadd_says x _ _ _ h2
set_option maxRecDepth 100000 in
set_option maxHeartbeats 3000000 in
theorem groupSum_spec {xs : List Int} {i p' q' r' s' : Int} (hf : GsAt xs i p' q' r' s') (w : World) (b0 : Nat) (e0 : TypeId) (v : Value) (hl : xs.length ≤ 2000000) (h0 : w.ownsRow b0 e0 1 v xs.length (intCs xs)) :
    Calls Try.prog 35 #[cirV v, .int .i64 i] w fun en w' => en = .returned (ivV p' q' r' s') ∧ Below w.heap.size w w' := by
  obtain ⟨W0, hW0⟩ : ∃ W0, W0 = (w.alloc (.cells #[v] 26)).alloc (.cells #[.int .i64 0, .int .i64 0, .int .i64 0, .int .i64 0] 44) := ⟨_, rfl⟩
  have b1 : Below w.heap.size w W0 := by rw [hW0]; exact below_alloc2 w _ _
  have B0 := Lib.hid b1
  have C0 : Hid (One w.heap.size v W0) := Lib.hid (by rw [hW0]; exact one_al one_alloc)
  have Z0 : Hid (Zero4 (w.heap.size + 1) W0) := Lib.hid (by rw [hW0]; simpa using zero4_alloc (w := w.alloc (.cells #[v] 26)) (t := 44))
  have CO := Lib.hid (fun X (hX : Below w.heap.size w X) => cirOk_spec X b0 e0 v xs hl (own_below h0 hX))
  have IN := Lib.hid (fun X => inT_any i 0 3 X)
  rcases hf with ⟨⟨hc, hi⟩, rfl, rfl, rfl, rfl⟩ | ⟨hb, rfl, rfl, rfl, rfl⟩
  · rw [show cirB xs = true from decide_eq_true hc] at CO
    rw [decide_eq_true hi] at IN
    obtain ⟨j, hj⟩ : ∃ j, j = i.toNat := ⟨_, rfl⟩
    have hi' : i = (j : Int) := by omega
    have hj4 : j < 4 := by omega
    subst hi'
    obtain ⟨a, b, c, d, e, f, g, h, k, l, m', n', p, q, r, s, t0, t4, t8, s1, s2⟩ := gs_say hc hj4
    have T0 : TaSay v (j : Int) a b c d W0 := fun X hX => thirdAt_spec t0 X b0 e0 v hl (own_below h0 (b1.trans (hX.mono b1.size)))
    have T4 : TaSay v ((j : Int) + 4) e f g h W0 := fun X hX => thirdAt_spec t4 X b0 e0 v hl (own_below h0 (b1.trans (hX.mono b1.size)))
    have T8 : TaSay v ((j : Int) + 8) k l m' n' W0 := fun X hX => thirdAt_spec t8 X b0 e0 v hl (own_below h0 (b1.trans (hX.mono b1.size)))
    obtain ⟨p0, c0, hv⟩ := own_slice h0
    have w4 : IntKind.i64.wrap ((j : Int) + 4) = (j : Int) + 4 := IntWalk.i64_in _ (by omega)
    have w8 : IntKind.i64.wrap ((j : Int) + 8) = (j : Int) + 8 := IntWalk.i64_in _ (by omega)
    clear hj hi hl t0 t4 t8 h0 b1 hc
    generalize xs.length = ln at hv
    subst hv
    go_enter Try.func35, Try.ntmps35
    go_upto_region 1 with fail
    rw [← hW0]
    clear hW0
    obtain ⟨m, hm⟩ : ∃ m, m = w.heap.size := ⟨_, rfl⟩
    rw [← hm] at C0 Z0
    (try rw [← hm])
    have HM0 := Lib.hid hm
    clear hm
    have cc := C0.out.2.1
    go_wp2_with fail
    refine (CO.out _ B0.out).mono ?_
    rintro e1 w1 ⟨rfl, b1⟩
    have C1 := Lib.hid (one_keep b1 C0.out)
    have Z1 := Lib.hid (zero4_keep b1 Z0.out)
    have B1 := Lib.hid (B0.out.trans (b1.mono B0.out.size))
    replace T0 := ta_below T0 b1
    replace T4 := ta_below T4 b1
    replace T8 := ta_below T8 b1
    clear b1 cc C0 Z0 B0
    go_wp2_with fail
    refine (IN.out _).mono ?_
    rintro e2 w2 ⟨rfl, rfl⟩
    have cc := C1.out.2.1
    go_upto_region 3 with fail
    go_cut [5, 6] (fun s5 s6 wx => ∃ m6 : Nat, s5 = .pointer (some ⟨m6, 0, none⟩) ∧ s6 = .bool true ∧ Below w1.heap.size w1 wx ∧ Four m6 p q r s wx)
    case first =>
      go_region_held3 (fun w' => w'.cell? ⟨m, 0, none⟩ = some (.slice p0 ln c0)) (with_reducible first | exact one_g (one_keep (Below.refl _ _).drew C1.out) | exact one_g (one_keep (by assumption) C1.out) | exact one_g (one_keep (below_alC (Below.refl _ _).drew) C1.out) | exact one_g (one_keep (below_alC (Below.refl _ _)).drew C1.out) | exact one_g (one_keep (below_alC (by assumption)) C1.out) | exact one_g (one_keep (below_set4C (by with_reducible exact (by assumption : Zc _ _ _).1) (by assumption)) C1.out) | exact one_g C1.out)
        (first
          | (go_at_call 59; refine (calls_zc (W := w1) (by with_reducible first | assumption | exact below_alC (by assumption) | exact (Below.refl _ _).drew | exact (below_alC (Below.refl _ _)).drew) (by with_reducible first | assumption | exact zc_alloc (by assumption) | exact zc_drew (zc_alloc (Below.refl _ _))) (ta_run (W := w1) (by with_reducible assumption) _ (by with_reducible first | assumption | exact below_alC (by assumption) | exact (Below.refl _ _).drew | exact (below_alC (Below.refl _ _)).drew))).mono ?_; rintro e1 w3 ⟨rfl, hb, hzb⟩; obtain ⟨zb, zm, z0, z1, z2, z3, zf⟩ := id hzb)
          | (go_at_call 59; refine (calls_fromF (W := w1) (by with_reducible first | assumption | exact (Below.refl _ _).drew) (ta_run (W := w1) (by with_reducible assumption) _ (by with_reducible first | assumption | exact (Below.refl _ _).drew))).mono ?_; rintro e1 w3 ⟨rfl, hb⟩)
          | (go_at_call 58; refine (calls_zc (W := w1) (by with_reducible first | assumption | exact below_alC (by assumption) | exact (Below.refl _ _).drew | exact (below_alC (Below.refl _ _)).drew) (by with_reducible first | assumption | exact zc_alloc (by assumption) | exact zc_drew (zc_alloc (Below.refl _ _))) (sadd_run (by with_reducible assumption) _)).mono ?_; rintro e1 w3 ⟨rfl, hb, hzb⟩; obtain ⟨zb, zm, z0, z1, z2, z3, zf⟩ := id hzb)
          | (go_at_call 58; refine (calls_fromF (W := w1) (by with_reducible first | assumption | exact (Below.refl _ _).drew) (sadd_run (by with_reducible assumption) _)).mono ?_; rintro e1 w3 ⟨rfl, hb⟩))
      all_goals
        go_wp2_with fail
        go_meet
        with_reducible first
          | exact ⟨_, rfl, rfl, below_alC hb, four_alloc⟩
          | exact ⟨_, rfl, rfl, below_set4C hzb.1 hb, four_setC hzb⟩
    case rest =>
      obtain ⟨m6, rfl, rfl, hb1, h6⟩ := hcut
      obtain ⟨W3, hW⟩ : ∃ W, W = wc := ⟨_, rfl⟩
      rw [← hW] at hb1 h6 ⊢
      clear hW
      have C3 := Lib.hid (one_keep hb1 C1.out)
      have Z3 := Lib.hid (zero4_keep hb1 Z1.out)
      have B3 := Lib.hid (B1.out.trans (hb1.mono B1.out.size))
      have TB : Hid (TC m6 m p q r s (.slice p0 ln c0) W3) := Lib.hid ⟨h6.2.1, h6.2.2.1, h6.2.2.2.1, h6.2.2.2.2, C3.out.2.1⟩
      have HM : Hid (m6 < W3.heap.size ∧ m < W3.heap.size) := Lib.hid ⟨h6.1, C3.out.1⟩
      replace T8 := ta_below T8 hb1
      clear hb1 h6 C1 Z1 B1 T0 T4 s1 cc
      go_upto_region 6 with fail
      go_cut [7, 8] (fun s7 s8 wx => ∃ m7 : Nat, s7 = .pointer (some ⟨m7, 0, none⟩) ∧ s8 = .bool true ∧ Below W3.heap.size W3 wx ∧ Four m7 1 0 0 1 wx)
      case first =>
        go_region_held3 (fun w' => w'.cell? ⟨m6, 0, none⟩ = some (.int .i64 p) ∧ w'.cell? ⟨m6, 1, none⟩ = some (.int .i64 q) ∧ w'.cell? ⟨m6, 2, none⟩ = some (.int .i64 r) ∧ w'.cell? ⟨m6, 3, none⟩ = some (.int .i64 s) ∧ w'.cell? ⟨m, 0, none⟩ = some (.slice p0 ln c0)) (with_reducible first | exact tc_keep HM.out (Below.refl _ _).drew TB.out | exact tc_keep HM.out (by assumption) TB.out | exact tc_keep HM.out (below_alC (Below.refl _ _).drew) TB.out | exact tc_keep HM.out (below_alC (Below.refl _ _)).drew TB.out | exact tc_keep HM.out (below_alC (by assumption)) TB.out | exact tc_keep HM.out (below_set4C (by with_reducible exact (by assumption : Zc _ _ _).1) (by assumption)) TB.out)
          (first
            | (go_at_call 59; refine (calls_zc (W := W3) (by with_reducible first | assumption | exact below_alC (by assumption) | exact (Below.refl _ _).drew | exact (below_alC (Below.refl _ _)).drew) (by with_reducible first | assumption | exact zc_alloc (by assumption) | exact zc_drew (zc_alloc (Below.refl _ _))) (ta_run (W := W3) (by with_reducible assumption) _ (by with_reducible first | assumption | exact below_alC (by assumption) | exact (Below.refl _ _).drew | exact (below_alC (Below.refl _ _)).drew))).mono ?_; rintro e1 w3 ⟨rfl, hb, hzb⟩; obtain ⟨zb, zm, z0, z1, z2, z3, zf⟩ := id hzb)
            | (go_at_call 59; refine (calls_fromF (W := W3) (by with_reducible first | assumption | exact (Below.refl _ _).drew) (ta_run (W := W3) (by with_reducible assumption) _ (by with_reducible first | assumption | exact (Below.refl _ _).drew))).mono ?_; rintro e1 w3 ⟨rfl, hb⟩)
            | (go_at_call 58; refine (calls_zc (W := W3) (by with_reducible first | assumption | exact below_alC (by assumption) | exact (Below.refl _ _).drew | exact (below_alC (Below.refl _ _)).drew) (by with_reducible first | assumption | exact zc_alloc (by assumption) | exact zc_drew (zc_alloc (Below.refl _ _))) (sadd_run (by with_reducible assumption) _)).mono ?_; rintro e1 w3 ⟨rfl, hb, hzb⟩; obtain ⟨zb, zm, z0, z1, z2, z3, zf⟩ := id hzb)
            | (go_at_call 58; refine (calls_fromF (W := W3) (by with_reducible first | assumption | exact (Below.refl _ _).drew) (sadd_run (by with_reducible assumption) _)).mono ?_; rintro e1 w3 ⟨rfl, hb⟩))
        all_goals
          go_wp2_with fail
          go_meet
          with_reducible first
            | exact ⟨_, rfl, rfl, below_alC hb, four_alloc⟩
            | exact ⟨_, rfl, rfl, below_set4C hzb.1 hb, four_setC hzb⟩
      case rest =>
        obtain ⟨m7, rfl, rfl, hb1, h7⟩ := hcut
        obtain ⟨W5, hW⟩ : ∃ W, W = wc := ⟨_, rfl⟩
        rw [← hW] at hb1 h7 ⊢
        clear hW
        have B5 := Lib.hid (B3.out.trans (hb1.mono B3.out.size))
        obtain ⟨⟨zm, z0, z1, z2, z3⟩, zf⟩ := zero4_keep hb1 Z3.out
        obtain ⟨_, y0, y1, y2, y3⟩ := h7
        clear hb1 B3 Z3 C3 TB HM
        go_wp2_with fail
        have hm1 : w.heap.size ≤ m + 1 := by have := HM0.out; omega
        obtain ⟨X, hX, ⟨gm, g0, g1, g2, g3⟩, gb⟩ := zed4_store (w := w) (p := 1) (q := 0) (r := 0) (s := 1) hm1 B5.out ⟨zm, z0, z1, z2, z3⟩
        rw [← hX]
        have GB := Lib.hid gb
        clear hX gb z0 z1 z2 z3 zm zf B5 y0 y1 y2 y3
        refine bodyPost_ret (v := ivV 1 0 0 1) (by simp [results, Try.results35, go_sem, g0, g1, g2, g3]) rfl ⟨rfl, GB.out⟩
  · obtain ⟨p0, c0, rfl⟩ := own_slice h0
    clear h0 hl b1
    generalize cirB xs = y at CO hb
    generalize decide (0 ≤ i ∧ i ≤ 3) = z at IN hb
    generalize xs.length = n at CO hW0 C0 ⊢
    go_enter Try.func35, Try.ntmps35
    go_upto_region 1 with fail
    rw [← hW0]
    clear hW0
    obtain ⟨m, hm⟩ : ∃ m, m = w.heap.size := ⟨_, rfl⟩
    rw [← hm] at C0 Z0
    (try rw [← hm])
    have HM0 := Lib.hid hm
    clear hm
    have cc := C0.out.2.1
    cases y
    · go_wp2_with fail
      refine (CO.out _ B0.out).mono ?_
      rintro e1 w1 ⟨rfl, b1⟩
      obtain ⟨⟨zm, z0, z1, z2, z3⟩, zf⟩ := zero4_keep b1 Z0.out
      have B1 := Lib.hid (B0.out.trans (b1.mono B0.out.size))
      clear b1 cc C0 Z0 B0
      go_wp2_with fail
      have hm1 : w.heap.size ≤ m + 1 := by have := HM0.out; omega
      refine bodyPost_ret (v := ivV 0 0 0 0) (by simp [results, Try.results35, go_sem, z0, z1, z2, z3]) rfl ⟨rfl, ?_⟩
      repeat' (first | exact B1.out | (refine Below.setCell ?_ hm1 _))
    · obtain rfl : z = false := hb
      go_wp2_with fail
      refine (CO.out _ B0.out).mono ?_
      rintro e1 w1 ⟨rfl, b1⟩
      obtain ⟨⟨zm, z0, z1, z2, z3⟩, zf⟩ := zero4_keep b1 Z0.out
      have B1 := Lib.hid (B0.out.trans (b1.mono B0.out.size))
      clear b1 cc C0 Z0 B0
      go_wp2_with fail
      refine (IN.out _).mono ?_
      rintro e2 w2 ⟨rfl, rfl⟩
      go_wp2_with fail
      have hm1 : w.heap.size ≤ m + 1 := by have := HM0.out; omega
      refine bodyPost_ret (v := ivV 0 0 0 0) (by simp [results, Try.results35, go_sem, z0, z1, z2, z3]) rfl ⟨rfl, ?_⟩
      repeat' (first | exact B1.out | (refine Below.setCell ?_ hm1 _))
end Go.Proofs.Ytjfeeppbbckneab
