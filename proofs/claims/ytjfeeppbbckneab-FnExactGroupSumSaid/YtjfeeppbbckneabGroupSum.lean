/- Contract of impl.GroupSum: three thirds in a row of their own, their sum. -/
import Derived.Test.YtjfeeppbbckneabSumTones
import Derived.Test.YtjfeeppbbckneabClosImpl
import Derived.Deep.RegionHeld3
import Derived.Deep.DeepCutAuto
namespace Go.Proofs.Ytjfeeppbbckneab
open Go.RowKit Go.Joins
set_option linter.unusedVariables false
/-- The prime and a third are that third: one table. -/
def primChk (p : Nat) : Bool := (addV ⟨0, 0, 0, 1⟩ (thV p)).2 && eqV (addV ⟨0, 0, 0, 1⟩ (thV p)).1 (thV p)
theorem prim_chk : ∀ p, p < 13 → primChk p = true := by decide +kernel
theorem prim_add {p : Int} (h0 : 0 ≤ p) (h1 : p ≤ 12) : addV ⟨0, 0, 0, 1⟩ (thV p) = (thV p, true) := by
  obtain ⟨i, rfl⟩ : ∃ j : Nat, p = (j : Int) := ⟨p.toNat, by omega⟩
  have k := prim_chk i (by omega)
  unfold primChk at k
  simp only [Bool.and_eq_true] at k
  exact Prod.ext (eqV_eq k.2) k.1
theorem th_val {xs : List Int} {i a b c d : Int} (hc : CirOk xs) (hi : 0 ≤ i ∧ i ≤ 11) (h : ThAt xs i a b c d) : (⟨a, b, c, d⟩ : Iv) = thV (cycTo xs i.toNat 4) := by
  rcases h with ⟨_, rfl, rfl, rfl, rfl⟩ | ⟨h, _⟩
  · rfl
  · rw [show cirB xs = true from decide_eq_true hc, decide_eq_true hi] at h; cases h
theorem th_nul {xs : List Int} {i a b c d : Int} (hn : ¬ (CirOk xs ∧ 0 ≤ i ∧ i ≤ 11)) (h : ThAt xs i a b c d) : (⟨a, b, c, d⟩ : Iv) = ⟨0, 0, 0, 0⟩ := by
  rcases h with ⟨h, _⟩ | ⟨_, rfl, rfl, rfl, rfl⟩
  · exact absurd h hn
  · rfl
theorem gs_sum {xs : List Int} {i p' q' r' s' a b c d e f g h k l m n : Int} (hf : GsAt xs i p' q' r' s') (h0 : ThAt xs i a b c d) (h4 : ThAt xs (IntKind.i64.wrap (i + 4)) e f g h) (h8 : ThAt xs (IntKind.i64.wrap (i + 8)) k l m n) :
    ∃ z, sumVs ⟨0, 0, 0, 1⟩ [⟨a, b, c, d⟩, ⟨e, f, g, h⟩, ⟨k, l, m, n⟩] = (⟨p', q', r', s'⟩, z) := by
  rcases hf with ⟨⟨hc, hi⟩, rfl, rfl, rfl, rfl⟩ | ⟨hb, rfl, rfl, rfl, rfl⟩
  · rw [IntWalk.i64_in _ (show -9223372036854775808 ≤ i + 4 ∧ i + 4 ≤ 9223372036854775807 from by omega)] at h4
    rw [IntWalk.i64_in _ (show -9223372036854775808 ≤ i + 8 ∧ i + 8 ≤ 9223372036854775807 from by omega)] at h8
    rw [th_val hc (by omega) h0, th_val hc (by omega) h4, th_val hc (by omega) h8]
    obtain ⟨j, rfl⟩ : ∃ j : Nat, i = (j : Int) := ⟨i.toNat, by omega⟩
    rw [show ((j : Int) + 4).toNat = j + 4 from by omega, show ((j : Int) + 8).toNat = j + 8 from by omega, Int.toNat_natCast]
    have p1 := cyc_bd hc j (k := 4) (by omega)
    have p2 := cyc_bd hc (j + 4) (k := 4) (by omega)
    have p3 := cyc_bd hc (j + 8) (k := 4) (by omega)
    obtain ⟨x, e1, e2⟩ := oct_three p1.1 p2.1 p3.1 (three_sum hc j)
    refine ⟨true, ?_⟩
    unfold sumVs
    rw [prim_add p1.1 p1.2, if_pos rfl]
    unfold sumVs
    rw [e1, if_pos rfl]
    unfold sumVs
    rw [e2, if_pos rfl]
    rfl
  · refine ⟨false, sumVs_zero _ _ ?_⟩
    by_cases hx : CirOk xs ∧ 0 ≤ i ∧ i ≤ 11
    · have hi4 : 4 ≤ i := by
        rw [show cirB xs = true from decide_eq_true hx.1, Bool.true_and] at hb
        have := of_decide_eq_false hb
        omega
      rw [IntWalk.i64_in _ (show -9223372036854775808 ≤ i + 8 ∧ i + 8 ≤ 9223372036854775807 from by omega)] at h8
      rw [th_nul (fun q => by omega) h8]
      simp
    · rw [th_nul hx h0]
      simp
/-- impl.ThirdAt behind a world that is named. -/
def TiSay (v : Value) (i p q r s : Int) (W : World) : Prop := ∀ X, Below W.heap.size W X → Calls Try.prog 54 #[cirV v, .int .i64 i] X fun e w' => e = .returned (ivV p q r s) ∧ Below X.heap.size X w'
theorem ti_run {v : Value} {i p q r s : Int} {W : World} (h : TiSay v i p q r s W) (X : World) (hX : Below W.heap.size W X) : Calls Try.prog 54 #[cirV v, .int .i64 i] X fun e w' => e = .returned (ivV p q r s) ∧ Below X.heap.size X w' := h X hX
/-- Three intervals in a row. -/
def RowT (y : Nat) (L : List Iv) (W : World) : Prop := W.ownsRow 0 44 4 (.slice (some ⟨y, 0, none⟩) 3 3) 3 (ivCs L)
theorem rowT_new {X : World} {a b c d e f g h k l m n : Int} : RowT X.heap.size [⟨a, b, c, d⟩, ⟨e, f, g, h⟩, ⟨k, l, m, n⟩] (X.alloc (.cells #[.int .i64 a, .int .i64 b, .int .i64 c, .int .i64 d, .int .i64 e, .int .i64 f, .int .i64 g, .int .i64 h, .int .i64 k, .int .i64 l, .int .i64 m, .int .i64 n] 44)) :=
  World.ownsRow_lit X _ 3 (Nat.zero_le _) (by unfold maxLen; omega) rfl
theorem rowT_new1 {X : World} {o : Obj} {a b c d e f g h k l m n : Int} : RowT (X.heap.size + 1) [⟨a, b, c, d⟩, ⟨e, f, g, h⟩, ⟨k, l, m, n⟩] ((X.alloc o).alloc (.cells #[.int .i64 a, .int .i64 b, .int .i64 c, .int .i64 d, .int .i64 e, .int .i64 f, .int .i64 g, .int .i64 h, .int .i64 k, .int .i64 l, .int .i64 m, .int .i64 n] 44)) := by
  have h := rowT_new (X := X.alloc o) (a := a) (b := b) (c := c) (d := d) (e := e) (f := f) (g := g) (h := h) (k := k) (l := l) (m := m) (n := n)
  rwa [show (X.alloc o).heap.size = X.heap.size + 1 from by simp] at h
theorem zc_alloc1 {W X : World} {t : TypeId} {o : Obj} (h : Below W.heap.size W X) : Zc W.heap.size (X.heap.size + 1) ((X.alloc o).alloc (.cells #[.int .i64 0, .int .i64 0, .int .i64 0, .int .i64 0] t)) := by
  have k := zc_alloc (t := t) (below_alC (o := o) h)
  rwa [show (X.alloc o).heap.size = X.heap.size + 1 from by simp] at k
theorem rowT_al {y : Nat} {L : List Iv} {W : World} {o : Obj} (h : RowT y L W) : RowT y L (W.alloc o) := own4_below h ((Below.refl _ _).alloc (Nat.le_refl _) o)
/-- The sum of such a row. -/
def S3Say (L : List Iv) (p q r s : Int) (z : Bool) : Prop := ∀ X y, RowT y L X → Calls Try.prog 53 #[.slice (some ⟨y, 0, none⟩) 3 3] X fun e w' => e = .returned (.tuple #[ivV p q r s, .bool z]) ∧ Below X.heap.size X w'
theorem s3_run {L : List Iv} {p q r s : Int} {z : Bool} (h : S3Say L p q r s z) (X : World) (y : Nat) (hr : RowT y L X) : Calls Try.prog 53 #[.slice (some ⟨y, 0, none⟩) 3 3] X fun e w' => e = .returned (.tuple #[ivV p q r s, .bool z]) ∧ Below X.heap.size X w' := h X y hr
theorem zc_al {X : World} {B m : Nat} {o : Obj} (h : Zc B m X) : Zc B m (X.alloc o) := by
  have hb : Below X.heap.size X (X.alloc o) := (Below.refl _ _).alloc (Nat.le_refl _) o
  exact ⟨h.1, Nat.lt_of_lt_of_le h.2.1 hb.size, (hb.cell h.2.1).trans h.2.2.1, (hb.cell h.2.1).trans h.2.2.2.1, (hb.cell h.2.1).trans h.2.2.2.2.1, (hb.cell h.2.1).trans h.2.2.2.2.2.1, fun o => (hb.frozen (p := ⟨m, o, none⟩) h.2.1).trans (h.2.2.2.2.2.2 o)⟩
theorem one_y {w : World} {m : Nat} {v : Value} (h : One m v w) : w.cell? ⟨m, 0, none⟩ = some v := h.2.1
set_option maxRecDepth 100000 in
set_option maxHeartbeats 8000000 in
theorem groupSum_impl : GroupSumImpl := by
  intro xs i p' q' r' s' hf w b0 e0 v hl h0
  obtain ⟨W0, hW0⟩ : ∃ W0, W0 = (w.alloc (.cells #[v] 26)).alloc (.cells #[.int .i64 0, .int .i64 0, .int .i64 0, .int .i64 0] 44) := ⟨_, rfl⟩
  have b1 : Below w.heap.size w W0 := by rw [hW0]; exact below_alloc2 w _ _
  have B0 := Lib.hid b1
  have C0 : Hid (One w.heap.size v W0) := Lib.hid (by rw [hW0]; exact one_al one_alloc)
  have Z0 : Hid (Zero4 (w.heap.size + 1) W0) := Lib.hid (by rw [hW0]; simpa using zero4_alloc (w := w.alloc (.cells #[v] 26)) (t := 44))
  obtain ⟨i4, hi4⟩ : ∃ x, x = IntKind.i64.wrap (i + 4) := ⟨_, rfl⟩
  obtain ⟨i8, hi8⟩ : ∃ x, x = IntKind.i64.wrap (i + 8) := ⟨_, rfl⟩
  obtain ⟨a, b, c, d, t0⟩ := thAt_ex xs i
  obtain ⟨e, f, g, h, t4⟩ := thAt_ex xs i4
  obtain ⟨k, l, m', n', t8⟩ := thAt_ex xs i8
  obtain ⟨z, hz⟩ := gs_sum hf t0 (by rw [← hi4]; exact t4) (by rw [← hi8]; exact t8)
  have T0 : TiSay v i a b c d W0 := fun X hX => thirdAt_impl t0 X b0 e0 v hl (own_below h0 (b1.trans (hX.mono b1.size)))
  have T4 : TiSay v i4 e f g h W0 := fun X hX => thirdAt_impl t4 X b0 e0 v hl (own_below h0 (b1.trans (hX.mono b1.size)))
  have T8 : TiSay v i8 k l m' n' W0 := fun X hX => thirdAt_impl t8 X b0 e0 v hl (own_below h0 (b1.trans (hX.mono b1.size)))
  have S3 : S3Say [⟨a, b, c, d⟩, ⟨e, f, g, h⟩, ⟨k, l, m', n'⟩] p' q' r' s' z := fun X y hr => sums_impl _ hz X 0 _ y 3 3 rfl (by omega) hr
  obtain ⟨p0, c0, hv⟩ := own_slice h0
  have w4 := hi4.symm
  have w8 := hi8.symm
  clear hl t0 t4 t8 h0 b1 hz hf hi4 hi8
  generalize xs.length = ln at hv
  subst hv
  go_enter Try.func27, Try.ntmps27
  go_upto_region 1 with fail
  rw [← hW0]
  clear hW0
  obtain ⟨m, hm⟩ : ∃ m, m = w.heap.size := ⟨_, rfl⟩
  rw [← hm] at C0 Z0
  (try rw [← hm])
  have HM0 := Lib.hid hm
  clear hm
  have cc := C0.out.2.1
  go_cut [5] (fun s5 wx => ∃ m5 : Nat, s5 = .pointer (some ⟨m5, 0, none⟩) ∧ Below W0.heap.size W0 wx ∧ Four m5 p' q' r' s' wx)
  case first =>
    go_region_held3 (fun w' => w'.cell? ⟨m, 0, none⟩ = some (.slice p0 ln c0)) (with_reducible first | exact one_y (one_keep (Below.refl _ _).drew C0.out) | exact one_y (one_keep (by assumption) C0.out) | exact one_y (one_keep (below_alC (Below.refl _ _).drew) C0.out) | exact one_y (one_keep (below_alC (Below.refl _ _)).drew C0.out) | exact one_y (one_keep (below_alC (by assumption)) C0.out) | exact one_y (one_keep (below_alC (below_alC (by assumption))) C0.out) | exact one_y (one_keep (below_set4C (by with_reducible exact (by assumption : Zc _ _ _).1) (by assumption)) C0.out) | exact one_y C0.out)
      (first
        | (go_at_call 54; refine (calls_zc (W := W0) (by with_reducible first | assumption | exact below_alC (by assumption) | exact (Below.refl _ _).drew | exact (below_alC (Below.refl _ _)).drew) (by with_reducible first | assumption | exact zc_alloc (by assumption) | exact zc_drew (zc_alloc (Below.refl _ _))) (ti_run (W := W0) (by with_reducible assumption) _ (by with_reducible first | assumption | exact below_alC (by assumption) | exact (Below.refl _ _).drew | exact (below_alC (Below.refl _ _)).drew))).mono ?_; rintro e1 w3 ⟨rfl, hb, hzb⟩; obtain ⟨zb, zm, z0, z1, z2, z3, zf⟩ := id hzb)
        | (go_at_call 54; refine (calls_fromF (W := W0) (by with_reducible first | assumption | exact (Below.refl _ _).drew) (ti_run (W := W0) (by with_reducible assumption) _ (by with_reducible first | assumption | exact (Below.refl _ _).drew))).mono ?_; rintro e1 w3 ⟨rfl, hb⟩)
        | (go_at_call 53; refine (calls_zc (W := W0) (by with_reducible first | exact below_alC (by assumption) | exact below_alC (below_alC (by assumption))) (by with_reducible first | exact zc_al (by assumption) | exact zc_alloc1 (by assumption) | exact zc_al (zc_alloc (by assumption))) (s3_run (by with_reducible assumption) _ _ (by with_reducible first | exact rowT_new | exact rowT_new1 | exact rowT_al rowT_new))).mono ?_; rintro e1 w3 ⟨rfl, hb, hzb⟩; obtain ⟨zb, zm, z0, z1, z2, z3, zf⟩ := id hzb)
        | (go_at_call 53; refine (calls_fromF (W := W0) (by with_reducible exact below_alC (by assumption)) (s3_run (by with_reducible assumption) _ _ (by with_reducible exact rowT_new))).mono ?_; rintro e1 w3 ⟨rfl, hb⟩))
    all_goals
      go_wp2_with fail
      go_meet
      with_reducible first
        | exact ⟨_, rfl, below_alC hb, four_alloc⟩
        | exact ⟨_, rfl, below_set4C hzb.1 hb, four_setC hzb⟩
  case rest =>
    obtain ⟨m5, rfl, hb1, h5⟩ := hcut
    obtain ⟨W5, hW⟩ : ∃ W, W = wc := ⟨_, rfl⟩
    rw [← hW] at hb1 h5 ⊢
    clear hW
    have B5 := Lib.hid (B0.out.trans (hb1.mono B0.out.size))
    obtain ⟨⟨zm, z0, z1, z2, z3⟩, zf⟩ := zero4_keep hb1 Z0.out
    obtain ⟨_, y0, y1, y2, y3⟩ := h5
    clear hb1 Z0 C0 T0 T4 T8 S3 cc
    go_wp2_with fail
    have hm1 : w.heap.size ≤ m + 1 := by have := HM0.out; omega
    obtain ⟨X, hX, ⟨gm, g0, g1, g2, g3⟩, gb⟩ := zed4_store (w := w) (p := p') (q := q') (r := r') (s := s') hm1 B5.out ⟨zm, z0, z1, z2, z3⟩
    rw [← hX]
    have GB := Lib.hid gb
    clear hX gb z0 z1 z2 z3 zm zf B5 y0 y1 y2 y3
    refine bodyPost_ret (v := ivV p' q' r' s') (by simp [results, Try.results27, go_sem, g0, g1, g2, g3]) rfl ⟨rfl, GB.out⟩
end Go.Proofs.Ytjfeeppbbckneab
