/- Contract of impl.InvertInterval. -/
import Derived.Test.YtjnhfgacgobfcaaDoorWithinMath
import Derived.Test.YtjnhfgacgobfcaaDoorPureWalks
namespace Go.Proofs.YtjnhfgacgobfcaaDoor
open Go.RowKit Go.Joins
set_option linter.unusedVariables false
/-- What InvertInterval answers. -/
def InvAt (a b c d p q r s : Int) (y : Bool) : Prop :=
  (okI a b c d = true ∧ CheckAt (d - a) (-b) (-c) d p q r s y) ∨ (okI a b c d = false ∧ p = 0 ∧ q = 0 ∧ r = 0 ∧ s = 0 ∧ y = false)
theorem invAt_ex (a b c d : Int) : ∃ p q r s y, InvAt a b c d p q r s y := by
  obtain ⟨x, hx⟩ : ∃ x : Bool, okI a b c d = x := ⟨_, rfl⟩
  cases x
  · exact ⟨0, 0, 0, 0, false, Or.inr ⟨hx, rfl, rfl, rfl, rfl, rfl⟩⟩
  · obtain ⟨d1, d2, a1, a2, b1, b2, c1, c2⟩ := okI_nums hx
    obtain ⟨p, q, r, s, y, hc⟩ := checkAt_ex (a := d - a) (b := -b) (c := -c) (d := d) ⟨by omega, by omega, by omega, by omega, by omega, by omega, by omega, by omega⟩
    exact ⟨p, q, r, s, y, Or.inl ⟨hx, hc⟩⟩
/-- The octave and the interval downwards, added. -/
theorem inv_add {x : Iv} (hx : 1 ≤ x.root) : simV (sumV ⟨1, 0, 0, 1⟩ (simV ⟨x.two * -1, x.three * -1, x.five * -1, x.root⟩)) = simV ⟨x.root - x.two, -x.three, -x.five, x.root⟩ := by
  have hr : 1 ≤ (⟨x.two * -1, x.three * -1, x.five * -1, x.root⟩ : Iv).root := hx
  rw [sumV_comm, simV_eq (sumV_root (simV_root hr) (by decide)) (sumV_root hr (by decide)) (sumV_prop (simV_prop hr))]
  unfold sumV
  simp only
  congr 2 <;> omega
/-- What AddIntervals answers here. -/
theorem addInv {a b c d p q r s : Int} {y : Bool} (hx : okI a b c d = true) (h : CheckAt (d - a) (-b) (-c) d p q r s y) :
    addV ⟨1, 0, 0, 1⟩ (simV ⟨a * -1, b * -1, c * -1, d⟩) = (⟨p, q, r, s⟩, y) := by
  obtain ⟨d1, d2, a1, a2, b1, b2, c1, c2⟩ := okI_nums hx
  have okN : okV (simV ⟨a * -1, b * -1, c * -1, d⟩) = true := simV_ok (show okI (a * -1) (b * -1) (c * -1) d = true from okI_mk (by omega))
  have e := inv_add (x := ⟨a, b, c, d⟩) d1
  simp only at e
  unfold addV
  rw [e]
  rcases h.2 with ⟨rfl, hk, rfl, rfl, rfl, rfl⟩ | ⟨rfl, hk, rfl, rfl, rfl, rfl⟩
  · rw [if_pos ⟨by decide, okN, hk⟩]; rfl
  · rw [if_neg (fun h => by have := h.2.2; unfold okV simV at this; simp only at this; rw [hk] at this; cases this)]
/-- The interval downwards. -/
def DownAt (a b c d e f g h p q r s : Int) (y : Bool) : Prop := okI a b c d = true ∧ CheckAt (d - a) (-b) (-c) d p q r s y ∧ (⟨e, f, g, h⟩ : Iv) = simV ⟨a * -1, b * -1, c * -1, d⟩
theorem downAt_times {a b c d e f g h p q r s : Int} {y : Bool} (hh : DownAt a b c d e f g h p q r s y) (w : World) :
    Calls Tryd.prog 9 #[ivV a b c d, .int .i64 (-1)] w fun en w' => en = .returned (.tuple #[ivV e f g h, .bool true]) ∧ Below w.heap.size w w' := by
  obtain ⟨hx, _, he⟩ := hh
  obtain ⟨d1, d2, a1, a2, b1, b2, c1, c2⟩ := okI_nums hx
  have okN : okV (simV ⟨a * -1, b * -1, c * -1, d⟩) = true := simV_ok (show okI (a * -1) (b * -1) (c * -1) d = true from okI_mk (by omega))
  injection he with e1 e2 e3 e4
  subst e1 e2 e3 e4
  exact times_of a b c d (-1) _ _ _ _ hx (by omega) (by omega) ⟨rfl, rfl, rfl, rfl⟩ okN w
theorem downAt_add {a b c d e f g h p q r s : Int} {y : Bool} (hh : DownAt a b c d e f g h p q r s y) (w : World) :
    Calls Tryd.prog 8 #[ivV 1 0 0 1, ivV e f g h] w fun en w' => en = .returned (.tuple #[ivV p q r s, .bool y]) ∧ Below w.heap.size w w' := by
  obtain ⟨hx, hc, he⟩ := hh
  have t := add_total ⟨1, 0, 0, 1⟩ ⟨e, f, g, h⟩ w
  rw [he, addInv hx hc, ← he] at t
  exact t
theorem octave_one (w : World) : Calls Tryd.prog 10 #[.int .i64 1, .int .i64 0, .int .i64 0] w fun en w' => en = .returned (ivV 1 0 0 1) ∧ Below w.heap.size w w' := pure_impl_yes 1 0 0 w (by decide)
set_option maxRecDepth 100000 in
set_option maxHeartbeats 2000000 in
theorem inv_impl_yes {a b c d e f g h p q r s : Int} {y : Bool} (hh : DownAt a b c d e f g h p q r s y) (w : World) :
    Calls Tryd.prog 7 #[ivV a b c d] w fun en w' => en = .returned (.tuple #[ivV p q r s, .bool y]) ∧ Below w.heap.size w w' := by
  have H := Lib.hid hh
  clear hh
  go_enter Tryd.func7, Tryd.ntmps7
  go_wp2_with fail
  refine (downAt_times H.out _).mono ?_
  rintro en w1 ⟨rfl, hb⟩
  have hz : Zero4 (w.heap.size + 1) w1 := by
    refine zero4_keep hb ?_
    have e : w.heap.size + 1 = (w.alloc (.cells #[.int .i64 a, .int .i64 b, .int .i64 c, .int .i64 d] 25)).heap.size := by simp
    rw [e]
    exact zero4_alloc
  have B1 := Lib.hid ((below_alloc2 w _ _).trans (hb.mono (by simp; omega)))
  clear hb
  go_upto_region 4 with fail
  obtain ⟨W1, hW⟩ : ∃ W, W = w1.alloc (.cells #[.int .i64 e, .int .i64 f, .int .i64 g, .int .i64 h] 25) := ⟨_, rfl⟩
  have hf : Four w1.heap.size e f g h W1 := by rw [hW]; exact four_alloc
  have hz1 : Zero4 (w.heap.size + 1) W1 := by rw [hW]; exact zero4_keep ((Below.refl _ _).alloc (Nat.le_refl _) _) hz
  have B2 : Hid (Below w.heap.size w W1) := Lib.hid (by rw [hW]; exact B1.out.alloc B1.out.size _)
  have hkz : w1.heap.size ≠ w.heap.size + 1 := by have := hz.1.1; omega
  rw [← hW]
  clear hW hz B1
  obtain ⟨k, hk⟩ : ∃ k, k = w1.heap.size := ⟨_, rfl⟩
  obtain ⟨z, hzz⟩ : ∃ k, k = w.heap.size + 1 := ⟨_, rfl⟩
  have hbz : w.heap.size ≤ z := by omega
  rw [← hk] at hf hkz ⊢
  rw [← hzz] at hz1 hkz ⊢
  have F1 := Lib.hid hf
  have Z1 := Lib.hid hz1
  have KZ := Lib.hid hkz
  have BZ := Lib.hid hbz
  clear hf hz1 hkz hbz hzz hk
  go_region_held3 (fun w' => w'.cell? ⟨k, 0, none⟩ = some (.int .i64 e) ∧ w'.cell? ⟨k, 1, none⟩ = some (.int .i64 f) ∧ w'.cell? ⟨k, 2, none⟩ = some (.int .i64 g) ∧ w'.cell? ⟨k, 3, none⟩ = some (.int .i64 h)) (with_reducible first | exact four_cellsF (four_drewF F1.out) | exact four_cellsF (four_keep (by assumption) F1.out) | exact four_cellsF F1.out | exact four_cellsF (four_other KZ.out (four_keep (by assumption) F1.out)))
    (first
      | (go_at_call 10; refine (calls_fromF (W := W1) (by with_reducible first | assumption | exact (Below.refl _ _).drew) (octave_one _)).mono ?_; rintro e1 w2 ⟨rfl, hb⟩)
      | (go_at_call 8; refine (calls_zero (W := W1) Z1.out (by with_reducible first | assumption | exact (Below.refl _ _).drew) (downAt_add H.out _)).mono ?_; rintro e1 w2 ⟨rfl, hb, hz⟩; obtain ⟨⟨zm, z0, z1, z2, z3⟩, zf⟩ := hz))
  obtain ⟨X, hX, ⟨gm, g0, g1, g2, g3⟩, gb⟩ := stored4 (p := p) (q := q) (r := r) (s := s) B2.out.size BZ.out hb ⟨zm, z0, z1, z2, z3⟩
  rw [← hX]
  have GB := Lib.hid (B2.out.trans gb)
  clear hX gb z0 z1 z2 z3 zm zf hb
  go_wp2_with fail
  refine bodyPost_ret (v := .tuple #[ivV p q r s, .bool y]) (by simp [results, Tryd.results7, go_sem, g0, g1, g2, g3]) rfl ⟨rfl, GB.out⟩
set_option maxHeartbeats 400000 in
theorem inv_impl_no {a b c d : Int} (hx : okI a b c d = false) (w : World) :
    Calls Tryd.prog 7 #[ivV a b c d] w fun e w' => e = .returned (.tuple #[ivV 0 0 0 0, .bool false]) ∧ Below w.heap.size w w' := by
  have HX := Lib.hid hx
  clear hx
  go_enter Tryd.func7, Tryd.ntmps7
  go_wp2_with fail
  refine (times_impl_bad _ _ _ _ _ _ HX.out).mono ?_
  rintro e w1 ⟨rfl, hb⟩
  obtain ⟨hc, hf⟩ := bcellT hb
  have q0 : w1.cell? ⟨w.heap.size + 1, 0, none⟩ = some (.int .i64 0) := by rw [hc _ _ (by simp)]; simp [go_sem]
  have q1 : w1.cell? ⟨w.heap.size + 1, 1, none⟩ = some (.int .i64 0) := by rw [hc _ _ (by simp)]; simp [go_sem]
  have q2 : w1.cell? ⟨w.heap.size + 1, 2, none⟩ = some (.int .i64 0) := by rw [hc _ _ (by simp)]; simp [go_sem]
  have q3 : w1.cell? ⟨w.heap.size + 1, 3, none⟩ = some (.int .i64 0) := by rw [hc _ _ (by simp)]; simp [go_sem]
  have s1 := hb.size
  simp at s1
  have f1 : ∀ o, w1.frozen? ⟨w.heap.size + 1, o, none⟩ = false := fun o => by rw [hf _ _ (by simp)]; simp [go_sem]
  have z0 : w.heap.size + 1 < w1.heap.size := by omega
  have z1 : ¬ w1.heap.size = w.heap.size + 1 := by omega
  have kb : Below w.heap.size w w1 := (below_alloc2 w _ _).trans (hb.mono (by simp; omega))
  clear hb hc hf
  go_wp2_with fail
  refine bodyPost_ret (v := .tuple #[ivV 0 0 0 0, .bool false]) (by simp [results, Tryd.results7, go_sem, q0, q1, q2, q3, World.cell?_alloc_past, z0]) rfl ⟨rfl, ?_⟩
  exact (below_set4w (by omega) kb).alloc (by have := kb.size; simp; omega) _
theorem inv_impl {a b c d p q r s : Int} {y : Bool} (h : InvAt a b c d p q r s y) (w : World) :
    Calls Tryd.prog 7 #[ivV a b c d] w fun e w' => e = .returned (.tuple #[ivV p q r s, .bool y]) ∧ Below w.heap.size w w' := by
  rcases h with ⟨hx, hc⟩ | ⟨h, rfl, rfl, rfl, rfl, rfl⟩
  · exact inv_impl_yes (e := (simV ⟨a * -1, b * -1, c * -1, d⟩).two) (f := (simV ⟨a * -1, b * -1, c * -1, d⟩).three) (g := (simV ⟨a * -1, b * -1, c * -1, d⟩).five) (h := (simV ⟨a * -1, b * -1, c * -1, d⟩).root) ⟨hx, hc, rfl⟩ w
  · exact inv_impl_no h w
end Go.Proofs.YtjnhfgacgobfcaaDoor
