/- Contract of spec.FifthAt; the walk of laws.FnExactFifthAt. -/
import Derived.Test.YtjfeeppbbckneaaCirFifth
import Derived.Test.YtjfeeppbbckneaaCirOkLaw
namespace Go.Proofs.Ytjfeeppbbckneaa
open Go.RowKit Go.Joins
set_option linter.unusedVariables false
set_option maxRecDepth 100000 in
set_option maxHeartbeats 2000000 in
theorem fifth_spec {xs : List Int} {i p q r s : Int} (hf : FtAt xs i p q r s) (w : World) (b : Nat) (e : TypeId) (v : Value) (hl : xs.length ≤ 2000000) (h : w.ownsRow b e 1 v xs.length (intCs xs)) :
    Calls Try.prog 26 #[cirV v, .int .i64 i] w fun en w' => en = .returned (ivV p q r s) ∧ Below w.heap.size w w' := by
  have CO := Lib.hid (l12Has_any _ b e v xs i hl (own_below h (below_alloc2 w (.cells #[v] 26) (.cells #[.int .i64 0, .int .i64 0, .int .i64 0, .int .i64 0] 29))))
  rcases hf with ⟨⟨hc, hi⟩, ha⟩ | ⟨hb, rfl, rfl, rfl, rfl⟩
  · rw [show cirB xs = true from decide_eq_true hc, decide_eq_true hi, Bool.true_and] at CO
    obtain ⟨j, hj⟩ : ∃ j, j = i.toNat := ⟨_, rfl⟩
    rw [← hj] at ha
    have hi' : i = (j : Int) := by omega
    have hj12 : j < 12 := by omega
    subst hi'
    clear hj hi hl
    obtain ⟨g, cap, rfl, hg, _, _, hcl⟩ := cir_row h hc
    obtain ⟨x, hx⟩ : ∃ x, x = xs.getD j 0 := ⟨_, rfl⟩
    have q0 := hcl j hj12
    rw [← hx] at ha q0
    obtain ⟨t, ht⟩ : ∃ t, t = 19 * x - 12 := ⟨_, rfl⟩
    obtain ⟨u, hu⟩ : ∃ u, u = 12 - 12 * x := ⟨_, rfl⟩
    obtain ⟨_, _, x1, x2⟩ := ha.1
    have HN := Lib.hid (fun w => chAt_spec ha w)
    rw [show 19 * x - 12 * 1 = t from by omega, show 12 * 1 - 12 * x = u from by omega] at HN
    have v0 : IntKind.i64.wrap (19 * x) = 19 * x := IntWalk.i64_in _ (by omega)
    have v1 : IntKind.i64.wrap (19 * x - 12) = t := by rw [IntWalk.i64_in _ (by omega)]; exact ht.symm
    have v2 : IntKind.i64.wrap (12 * x) = 12 * x := IntWalk.i64_in _ (by omega)
    have v3 : IntKind.i64.wrap (12 - 12 * x) = u := by rw [IntWalk.i64_in _ (by omega)]; exact hu.symm
    clear ha hx hcl h hc ht hu
    go_enter Try.func26, Try.ntmps26
    go_wp2_with fail
    refine CO.out.mono ?_
    rintro e1 w1 ⟨rfl, b1⟩
    have Z1 : Hid (Zero4 (w.heap.size + 1) w1) := Lib.hid (by simpa using zero4_keep b1 (zero4_alloc (w := w.alloc (.cells #[.slice (some ⟨g, 0, none⟩) 12 cap] 26)) (t := 29)))
    obtain ⟨_, c0, _⟩ := one_keep b1 (one_al (o := .cells #[.int .i64 0, .int .i64 0, .int .i64 0, .int .i64 0] 29) (one_alloc (w := w) (v := .slice (some ⟨g, 0, none⟩) 12 cap) (t := 26)))
    have BB := (below_alloc2 w (.cells #[.slice (some ⟨g, 0, none⟩) 12 cap] 26) (.cells #[.int .i64 0, .int .i64 0, .int .i64 0, .int .i64 0] 29)).trans (b1.mono (by simp; omega))
    have q1 := (BB.cell (p := ⟨g, j, none⟩) hg).trans q0
    have B1 := Lib.hid BB
    clear b1 BB q0
    go_wp2_with fail
    refine (calls_zero Z1.out (Below.refl _ _) (HN.out _)).mono ?_
    rintro e3 w3 ⟨rfl, hb, ⟨zm, z0, z1, z2, z3⟩, zf⟩
    have B3 := Lib.hid (B1.out.trans (hb.mono B1.out.size))
    clear c0 hb B1 Z1 q1
    go_wp2_with fail
    obtain ⟨X, hX, ⟨gm, g0, g1, g2, g3⟩, gb⟩ := zed4_store (w := w) (p := p) (q := q) (r := r) (s := s) (by omega) B3.out ⟨zm, z0, z1, z2, z3⟩
    rw [← hX]
    have GB := Lib.hid gb
    clear hX gb z0 z1 z2 z3 zm zf B3
    refine bodyPost_ret (v := ivV p q r s) (by simp [results, Try.results26, go_sem, g0, g1, g2, g3]) rfl ⟨rfl, GB.out⟩
  · rw [hb] at CO
    obtain ⟨p0, c0, rfl⟩ := own_slice h
    clear h hl hb
    generalize xs.length = n at CO ⊢
    go_enter Try.func26, Try.ntmps26
    go_wp2_with fail
    refine CO.out.mono ?_
    rintro e1 w1 ⟨rfl, b1⟩
    obtain ⟨⟨zm, z0, z1, z2, z3⟩, zf⟩ : Zero4 (w.heap.size + 1) w1 := by simpa using zero4_keep b1 (zero4_alloc (w := w.alloc (.cells #[.slice p0 n c0] 26)) (t := 29))
    have B1 := Lib.hid ((below_alloc2 w (.cells #[.slice p0 n c0] 26) (.cells #[.int .i64 0, .int .i64 0, .int .i64 0, .int .i64 0] 29)).trans (b1.mono (by simp; omega)))
    clear b1
    go_wp2_with fail
    refine bodyPost_ret (v := ivV 0 0 0 0) (by simp [results, Try.results26, go_sem, z0, z1, z2, z3]) rfl ⟨rfl, ?_⟩
    repeat' (first | exact B1.out | (refine Below.setCell ?_ (by simp) _))
end Go.Proofs.Ytjfeeppbbckneaa
