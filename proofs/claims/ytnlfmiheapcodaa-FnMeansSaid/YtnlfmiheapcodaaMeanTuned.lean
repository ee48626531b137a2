/- impl's tunings: a function value that holds a fifth in a block; MeanTone, MeanThird, WolfOf and IsThirdPure. -/
import Derived.Test.YtnlfmiheapcodaaMeanWalks
namespace Go.Proofs.Ytnlfmiheapcodaa
open Go.RowKit Go.Joins
set_option linter.unusedVariables false
theorem below_more {w w' : World} (h : Below w.heap.size w w') (o : Obj) : Below w.heap.size w (w'.alloc o) := h.alloc h.size o
set_option maxRecDepth 100000 in
set_option maxHeartbeats 2000000 in
/-- A tuning: the fifth in a block of its own. -/
theorem tuning_impl {num den a b c d : Int} {y : Bool} (h : MfAt num den a b c d y) (w : World) :
    Calls Try.prog 64 #[.int .i64 num, .int .i64 den] w
      fun e w' => ∃ m, e = .returned (.func (.func 81) #[] #[.pointer (some ⟨m, 0, none⟩)]) ∧ Four m a b c d w' ∧ Below w.heap.size w w' := by
  have H := Lib.hid (fun w => mean_impl h w)
  clear h
  go_enter Try.func64, Try.ntmps64
  go_wp2_with fail
  refine (H.out _).mono ?_
  rintro e w1 ⟨rfl, hb⟩
  have B1 := below_more hb (.cells #[.int .i64 a, .int .i64 b, .int .i64 c, .int .i64 d] 32)
  have G1 := four_alloc (w := w1) (p := a) (q := b) (r := c) (s := d) (t := 32)
  clear hb
  go_wp2_with fail
  go_ret
  exact ⟨_, rfl, G1, B1⟩
set_option maxRecDepth 100000 in
set_option maxHeartbeats 2000000 in
/-- The tuning, called. -/
theorem tuned_impl {a b c d n p q r s : Int} {y : Bool} {m : Nat} (h : TmAt a b c d n p q r s y) (w : World) (hF : Four m a b c d w) :
    Calls Try.prog 81 #[.int .i64 n, .pointer (some ⟨m, 0, none⟩)] w fun e w' => e = .returned (.tuple #[ivV p q r s, .bool y]) ∧ Below w.heap.size w w' := by
  have H := Lib.hid (fun w => tmAt_impl h w)
  clear h
  go_enter Try.func81, Try.ntmps81
  go_upto_region 1 with fail
  obtain ⟨W0, hW⟩ : ∃ W, W = w.alloc (.cells #[.int .i64 0, .int .i64 0, .int .i64 0, .int .i64 0] 32) := ⟨_, rfl⟩
  have Z0 : Hid (Zero4 w.heap.size W0) := Lib.hid (by rw [hW]; exact zero4_alloc)
  have F0 : Hid (Four m a b c d W0) := Lib.hid (by rw [hW]; exact four_keep ((Below.refl _ _).alloc (Nat.le_refl _) _) hF)
  have B0 : Hid (Below w.heap.size w W0) := Lib.hid (by rw [hW]; exact below_alloc1 w _)
  rw [← hW]
  clear hW hF
  obtain ⟨_, x0, x1, x2, x3⟩ := F0.out
  go_wp2_with fail
  refine (calls_zero Z0.out (Below.refl _ _) (H.out _)).mono ?_
  rintro e w1 ⟨rfl, hb, ⟨zm, z0, z1, z2, z3⟩, zf⟩
  have B1 := Lib.hid (B0.out.trans (hb.mono B0.out.size))
  clear x0 x1 x2 x3 hb B0 Z0 F0
  go_wp2_with fail
  obtain ⟨X, hX, ⟨gm, g0, g1, g2, g3⟩, gb⟩ := zed4_store (w := w) (p := p) (q := q) (r := r) (s := s) (Nat.le_refl _) B1.out ⟨zm, z0, z1, z2, z3⟩
  rw [← hX]
  clear hX z0 z1 z2 z3 zm zf B1
  refine bodyPost_ret (v := .tuple #[ivV p q r s, .bool y]) (by simp [results, Try.results81, go_sem, g0, g1, g2, g3]) rfl ⟨rfl, gb⟩
set_option maxRecDepth 100000 in
set_option maxHeartbeats 2000000 in
/-- A tone of a tuning. -/
theorem toneIn_impl {a b c d n e f g h p q r s : Int} {y u : Bool} {m : Nat} (h1 : TmAt a b c d n e f g h u) (h2 : WithinAt e f g h p q r s y) (w : World) (hF : Four m a b c d w) :
    Calls Try.prog 66 #[.func (.func 81) #[] #[.pointer (some ⟨m, 0, none⟩)], .int .i64 n] w fun e w' => e = .returned (.tuple #[ivV p q r s, .bool y]) ∧ Below w.heap.size w w' := by
  have H1 := Lib.hid (fun w hF => tuned_impl (m := m) h1 w hF)
  have H2 := Lib.hid (fun w => within_impl h2 w)
  have HU : Hid (u = false → p = 0 ∧ q = 0 ∧ r = 0 ∧ s = 0 ∧ y = false) := Lib.hid (fun hu => by
    subst hu
    obtain ⟨rfl, rfl, rfl, rfl⟩ := tmAt_no h1
    exact within_zero h2)
  clear h1 h2
  go_enter Try.func66, Try.ntmps66
  go_upto_region 1 with fail
  obtain ⟨W0, hW⟩ : ∃ W, W = w.alloc (.cells #[.int .i64 0, .int .i64 0, .int .i64 0, .int .i64 0] 32) := ⟨_, rfl⟩
  have Z0 : Hid (Zero4 w.heap.size W0) := Lib.hid (by rw [hW]; exact zero4_alloc)
  have F0 : Hid (Four m a b c d W0) := Lib.hid (by rw [hW]; exact four_keep ((Below.refl _ _).alloc (Nat.le_refl _) _) hF)
  have B0 : Hid (Below w.heap.size w W0) := Lib.hid (by rw [hW]; exact below_alloc1 w _)
  rw [← hW]
  clear hW hF
  go_wp2_with fail
  refine (calls_zero Z0.out (Below.refl _ _) (H1.out _ F0.out)).mono ?_
  rintro e' w1 ⟨rfl, hb, hz⟩
  have B1 := Lib.hid ((B0.out.trans (hb.mono B0.out.size)).alloc (by have := hb.size; have := B0.out.size; omega) (.cells #[.int .i64 e, .int .i64 f, .int .i64 g, .int .i64 h] 32))
  have G1 := Lib.hid (four_alloc (w := w1) (p := e) (q := f) (r := g) (s := h) (t := 32))
  have Z1 := Lib.hid (zero4_keep ((Below.refl _ _).alloc (Nat.le_refl _) (.cells #[.int .i64 e, .int .i64 f, .int .i64 g, .int .i64 h] 32)) hz)
  clear hb hz F0 B0 Z0 H1
  go_upto_region 2 with fail
  obtain ⟨W1, hW⟩ : ∃ W, W = w1.alloc (.cells #[.int .i64 e, .int .i64 f, .int .i64 g, .int .i64 h] 32) := ⟨_, rfl⟩
  rw [← hW] at B1 G1 Z1 ⊢
  clear hW
  generalize w1.heap.size = k at G1 ⊢
  cases u
  · obtain ⟨rfl, rfl, rfl, rfl, rfl⟩ := HU.out rfl
    obtain ⟨⟨zm, z0, z1, z2, z3⟩, zf⟩ := Z1.out
    clear H2 G1
    go_wp2_with fail
    obtain ⟨X, hX, ⟨gm, g0, g1, g2, g3⟩, gb⟩ := zed4_store (w := w) (p := 0) (q := 0) (r := 0) (s := 0) (Nat.le_refl _) B1.out ⟨zm, z0, z1, z2, z3⟩
    rw [← hX]
    clear hX z0 z1 z2 z3 zm zf B1
    refine bodyPost_ret (v := .tuple #[ivV 0 0 0 0, .bool false]) (by simp [results, Try.results66, go_sem, g0, g1, g2, g3]) rfl ⟨rfl, gb⟩
  · obtain ⟨_, x0, x1, x2, x3⟩ := G1.out
    clear HU G1
    go_wp2_with fail
    refine (calls_zero Z1.out (Below.refl _ _) (H2.out _)).mono ?_
    rintro e' w2 ⟨rfl, hb, ⟨zm, z0, z1, z2, z3⟩, zf⟩
    have B2 := Lib.hid (B1.out.trans (hb.mono B1.out.size))
    clear x0 x1 x2 x3 hb B1 Z1
    go_wp2_with fail
    obtain ⟨X, hX, ⟨gm, g0, g1, g2, g3⟩, gb⟩ := zed4_store (w := w) (p := p) (q := q) (r := r) (s := s) (Nat.le_refl _) B2.out ⟨zm, z0, z1, z2, z3⟩
    rw [← hX]
    clear hX z0 z1 z2 z3 zm zf B2
    refine bodyPost_ret (v := .tuple #[ivV p q r s, .bool y]) (by simp [results, Try.results66, go_sem, g0, g1, g2, g3]) rfl ⟨rfl, gb⟩
set_option maxRecDepth 100000 in
set_option maxHeartbeats 2000000 in
/-- The wolf of a tuning. -/
theorem wolfIn_impl {a b c d e f g h p q r s : Int} {y u : Bool} {m : Nat} (h1 : TmAt a b c d 11 e f g h u) (h2 : diffV ⟨e, f, g, h⟩ octV = (⟨p, q, r, s⟩, y)) (w : World) (hF : Four m a b c d w) :
    Calls Try.prog 63 #[.func (.func 81) #[] #[.pointer (some ⟨m, 0, none⟩)]] w fun e w' => e = .returned (.tuple #[ivV p q r s, .bool y]) ∧ Below w.heap.size w w' := by
  have H1 := Lib.hid (fun w hF => tuned_impl (m := m) h1 w hF)
  have DS : DiffSays e f g h 7 0 0 1 p q r s y := diff_says ⟨e, f, g, h⟩ octV ⟨p, q, r, s⟩ y h2
  have HU : Hid (u = false → p = 0 ∧ q = 0 ∧ r = 0 ∧ s = 0 ∧ y = false) := Lib.hid (fun hu => by
    subst hu
    obtain ⟨rfl, rfl, rfl, rfl⟩ := tmAt_no h1
    rw [show diffV ⟨0, 0, 0, 0⟩ octV = (⟨0, 0, 0, 0⟩, false) from rfl] at h2
    injection h2 with k1 k2
    injection k1 with k3 k4 k5 k6
    exact ⟨k3.symm, k4.symm, k5.symm, k6.symm, k2.symm⟩)
  clear h1 h2
  go_enter Try.func63, Try.ntmps63
  go_upto_region 1 with fail
  obtain ⟨W0, hW⟩ : ∃ W, W = w.alloc (.cells #[.int .i64 0, .int .i64 0, .int .i64 0, .int .i64 0] 32) := ⟨_, rfl⟩
  have Z0 : Hid (Zero4 w.heap.size W0) := Lib.hid (by rw [hW]; exact zero4_alloc)
  have F0 : Hid (Four m a b c d W0) := Lib.hid (by rw [hW]; exact four_keep ((Below.refl _ _).alloc (Nat.le_refl _) _) hF)
  have B0 : Hid (Below w.heap.size w W0) := Lib.hid (by rw [hW]; exact below_alloc1 w _)
  rw [← hW]
  clear hW hF
  go_wp2_with fail
  refine (calls_zero Z0.out (Below.refl _ _) (H1.out _ F0.out)).mono ?_
  rintro e' w1 ⟨rfl, hb, hz⟩
  have B1 := Lib.hid ((B0.out.trans (hb.mono B0.out.size)).alloc (by have := hb.size; have := B0.out.size; omega) (.cells #[.int .i64 e, .int .i64 f, .int .i64 g, .int .i64 h] 32))
  have G1 := Lib.hid (four_alloc (w := w1) (p := e) (q := f) (r := g) (s := h) (t := 32))
  have Z1 := Lib.hid (zero4_keep ((Below.refl _ _).alloc (Nat.le_refl _) (.cells #[.int .i64 e, .int .i64 f, .int .i64 g, .int .i64 h] 32)) hz)
  have KZ : Hid (w1.heap.size ≠ w.heap.size) := Lib.hid (by have := hz.1.1; omega)
  clear hb hz F0 B0 Z0 H1
  go_upto_region 2 with fail
  obtain ⟨W1, hW⟩ : ∃ W, W = w1.alloc (.cells #[.int .i64 e, .int .i64 f, .int .i64 g, .int .i64 h] 32) := ⟨_, rfl⟩
  rw [← hW] at B1 G1 Z1 ⊢
  clear hW
  generalize w1.heap.size = k at G1 KZ ⊢
  cases u
  · obtain ⟨rfl, rfl, rfl, rfl, rfl⟩ := HU.out rfl
    obtain ⟨⟨zm, z0, z1, z2, z3⟩, zf⟩ := Z1.out
    clear DS G1
    go_wp2_with fail
    obtain ⟨X, hX, ⟨gm, g0, g1, g2, g3⟩, gb⟩ := zed4_store (w := w) (p := 0) (q := 0) (r := 0) (s := 0) (Nat.le_refl _) B1.out ⟨zm, z0, z1, z2, z3⟩
    rw [← hX]
    clear hX z0 z1 z2 z3 zm zf B1
    refine bodyPost_ret (v := .tuple #[ivV 0 0 0 0, .bool false]) (by simp [results, Try.results63, go_sem, g0, g1, g2, g3]) rfl ⟨rfl, gb⟩
  · clear HU
    go_upto_region 4 with fail
    go_region_held3 (fun w' => w'.cell? ⟨k, 0, none⟩ = some (.int .i64 e) ∧ w'.cell? ⟨k, 1, none⟩ = some (.int .i64 f) ∧ w'.cell? ⟨k, 2, none⟩ = some (.int .i64 g) ∧ w'.cell? ⟨k, 3, none⟩ = some (.int .i64 h)) (with_reducible first | exact four_cellsF (four_drewF G1.out) | exact four_cellsF (four_keep (by assumption) G1.out) | exact four_cellsF G1.out | exact four_cellsF (four_other KZ.out (four_keep (by assumption) G1.out)))
      (first
        | (go_at_call 38; refine (calls_fromF (W := W1) (by with_reducible first | assumption | exact (Below.refl _ _).drew) (pure_impl_yes 7 0 0 _ (by decide))).mono ?_; rintro e1 w2 ⟨rfl, hb⟩)
        | (go_at_call 49; refine (calls_zero (W := W1) Z1.out (by with_reducible first | assumption | exact (Below.refl _ _).drew) (DS _)).mono ?_; rintro e1 w2 ⟨rfl, hb, hz⟩; obtain ⟨⟨zm, z0, z1, z2, z3⟩, zf⟩ := hz))
    have B2 := Lib.hid (B1.out.trans (hb.mono B1.out.size))
    obtain ⟨X, hX, ⟨gm, g0, g1, g2, g3⟩, gb⟩ := zed4_store (w := w) (p := p) (q := q) (r := r) (s := s) (Nat.le_refl _) B2.out ⟨zm, z0, z1, z2, z3⟩
    rw [← hX]
    clear hX z0 z1 z2 z3 zm zf B2 hb
    go_wp2_with fail
    refine bodyPost_ret (v := .tuple #[ivV p q r s, .bool y]) (by simp [results, Try.results63, go_sem, g0, g1, g2, g3]) rfl ⟨rfl, gb⟩
end Go.Proofs.Ytnlfmiheapcodaa
