/- Contracts of MeanTone, MeanThird, WolfOf and IsThirdPure of the program. -/
import Derived.Test.YtnlfmiheapcodaaMeanTuned
import Derived.Test.YtnlfmiheapcodaaPureThird
namespace Go.Proofs.Ytnlfmiheapcodaa
open Go.RowKit Go.Joins
set_option linter.unusedVariables false
/-- What MeanTone answers. -/
def MtAt (num den n p q r s : Int) (y : Bool) : Prop :=
  ((-12 ≤ n ∧ n ≤ 12) ∧ ∃ a b c d u e f g h v, MfAt num den a b c d u ∧ TmAt a b c d n e f g h v ∧ WithinAt e f g h p q r s y) ∨
  ((n < -12 ∨ (¬ n < -12 ∧ 12 < n)) ∧ p = 0 ∧ q = 0 ∧ r = 0 ∧ s = 0 ∧ y = false)
theorem mtAt_ex (num den n : Int) : ∃ p q r s y, MtAt num den n p q r s y := by
  by_cases hn : -12 ≤ n ∧ n ≤ 12
  · obtain ⟨a, b, c, d, u, h1⟩ := mfAt_ex num den
    obtain ⟨e, f, g, h, v, h2⟩ := tmAt_ex a b c d n
    obtain ⟨p, q, r, s, y, h3⟩ := withinAt_ex e f g h
    exact ⟨p, q, r, s, y, .inl ⟨hn, a, b, c, d, u, e, f, g, h, v, h1, h2, h3⟩⟩
  · exact ⟨_, _, _, _, _, .inr ⟨by omega, rfl, rfl, rfl, rfl, rfl⟩⟩
/-- What WolfOf answers. -/
def WfAt (num den p q r s : Int) (y : Bool) : Prop :=
  ∃ a b c d u e f g h v e' f' g' h' v', MfAt num den a b c d u ∧ TmAt a b c d 11 e f g h v ∧ TmAt a b c d (-11) e' f' g' h' v' ∧ diffV ⟨e, f, g, h⟩ octV = (⟨p, q, r, s⟩, y) ∧ addV ⟨e', f', g', h'⟩ octV = (⟨p, q, r, s⟩, y)
theorem wfAt_yes {num den : Int} (hp : PartOk num den) : WfAt num den (wolV num den).two (wolV num den).three (wolV num den).five (wolV num den).root true :=
  ⟨_, _, _, _, _, _, _, _, _, _, _, _, _, _, _, .inl ⟨hp, rfl, rfl, rfl, rfl, rfl⟩, (mf_times hp (n := 11) (by omega)).2, (mf_times hp (n := -11) (by omega)).2, (mf_wolf hp).2.1, (mf_wolf hp).1⟩
theorem wfAt_ex (num den : Int) : ∃ p q r s y, WfAt num den p q r s y := by
  by_cases hp : PartOk num den
  · exact ⟨_, _, _, _, _, wfAt_yes hp⟩
  · have hz : ∀ n, TmAt 0 0 0 0 n 0 0 0 0 false := fun n => .inr ⟨.inl zero_bad, rfl, rfl, rfl, rfl, rfl⟩
    refine ⟨0, 0, 0, 0, false, 0, 0, 0, 0, false, 0, 0, 0, 0, false, 0, 0, 0, 0, false, .inr ⟨?_, rfl, rfl, rfl, rfl, rfl⟩, hz _, hz _, rfl, rfl⟩
    unfold PartOk at hp
    omega
/-- What IsThirdPure answers. -/
def TpAt (num den : Int) (y : Bool) : Prop := ∃ p q r s u, MtAt num den 4 p q r s u ∧ y = (u && ((p == -2) && (q == 0) && (r == 1) && (s == 1)))
theorem tpAt_ex (num den : Int) : ∃ y, TpAt num den y := by
  obtain ⟨p, q, r, s, u, h⟩ := mtAt_ex num den 4
  exact ⟨_, p, q, r, s, u, h, rfl⟩
set_option maxRecDepth 100000 in
set_option maxHeartbeats 2000000 in
theorem mtone_impl {num den n p q r s : Int} {y : Bool} (h : MtAt num den n p q r s y) (w : World) :
    Calls Try.prog 37 #[.int .i64 num, .int .i64 den, .int .i64 n] w fun e w' => e = .returned (.tuple #[ivV p q r s, .bool y]) ∧ Below w.heap.size w w' := by
  rcases h with ⟨⟨n1, n2⟩, a, b, c, d, u, e, f, g, h, v, h1, h2, h3⟩ | ⟨hb, rfl, rfl, rfl, rfl, rfl⟩
  · have HT := Lib.hid (fun w => tuning_impl h1 w)
    have HI := Lib.hid (fun m w hF => toneIn_impl (m := m) h2 h3 w hF)
    clear h1 h2 h3
    have q1 : ¬ n < -12 := by omega
    have q2 : ¬ 12 < n := by omega
    go_enter Try.func37, Try.ntmps37
    go_wp2_with fail
    refine (HT.out _).mono ?_
    rintro e' w1 ⟨m, rfl, hF, hb⟩
    have Z1 := Lib.hid (zero4_keep hb zero4_alloc)
    have B1 := Lib.hid ((below_alloc1 w _).trans (hb.mono (by simp)))
    clear hb
    go_wp2_with fail
    refine (calls_zero Z1.out (Below.refl _ _) (HI.out m _ hF)).mono ?_
    rintro e' w2 ⟨rfl, hb, ⟨zm, z0, z1, z2, z3⟩, zf⟩
    have B2 := Lib.hid (B1.out.trans (hb.mono B1.out.size))
    clear hb B1 Z1 hF
    go_wp2_with fail
    obtain ⟨X, hX, ⟨gm, g0, g1, g2, g3⟩, gb⟩ := zed4_store (w := w) (p := p) (q := q) (r := r) (s := s) (Nat.le_refl _) B2.out ⟨zm, z0, z1, z2, z3⟩
    rw [← hX]
    clear hX z0 z1 z2 z3 zm zf B2
    refine bodyPost_ret (v := .tuple #[ivV p q r s, .bool y]) (by simp [results, Try.results37, go_sem, g0, g1, g2, g3]) rfl ⟨rfl, gb⟩
  · rcases hb with h | ⟨h1, h2⟩
    all_goals
      go_enter Try.func37, Try.ntmps37
      go_wp2_with fail
      refine bodyPost_ret (v := .tuple #[ivV 0 0 0 0, .bool false]) (by simp [results, Try.results37, go_sem]) rfl ⟨rfl, ?_⟩
      repeat' (first | exact below_alloc1 w _ | (refine Below.setCell ?_ (by simp) _))
set_option maxRecDepth 100000 in
set_option maxHeartbeats 2000000 in
theorem mthird_impl {num den p q r s : Int} {y : Bool} (h : MtAt num den 4 p q r s y) (w : World) :
    Calls Try.prog 57 #[.int .i64 num, .int .i64 den] w fun e w' => e = .returned (.tuple #[ivV p q r s, .bool y]) ∧ Below w.heap.size w w' := by
  have H := Lib.hid (fun w => mtone_impl h w)
  clear h
  go_enter Try.func57, Try.ntmps57
  go_wp2_with fail
  refine (calls_zero zero4_alloc (Below.refl _ _) (H.out _)).mono ?_
  rintro e' w2 ⟨rfl, hb, ⟨zm, z0, z1, z2, z3⟩, zf⟩
  have B2 := Lib.hid ((below_alloc1 w _).trans (hb.mono (by simp)))
  clear hb
  go_wp2_with fail
  obtain ⟨X, hX, ⟨gm, g0, g1, g2, g3⟩, gb⟩ := zed4_store (w := w) (p := p) (q := q) (r := r) (s := s) (Nat.le_refl _) B2.out ⟨zm, z0, z1, z2, z3⟩
  rw [← hX]
  clear hX z0 z1 z2 z3 zm zf B2
  refine bodyPost_ret (v := .tuple #[ivV p q r s, .bool y]) (by simp [results, Try.results57, go_sem, g0, g1, g2, g3]) rfl ⟨rfl, gb⟩
set_option maxRecDepth 100000 in
set_option maxHeartbeats 2000000 in
theorem wolf_impl {num den p q r s : Int} {y : Bool} (h : WfAt num den p q r s y) (w : World) :
    Calls Try.prog 34 #[.int .i64 num, .int .i64 den] w fun e w' => e = .returned (.tuple #[ivV p q r s, .bool y]) ∧ Below w.heap.size w w' := by
  obtain ⟨a, b, c, d, u, e, f, g, h, v, e', f', g', h', v', h1, h2, h3, h4, h5⟩ := h
  have HT := Lib.hid (fun w => tuning_impl h1 w)
  have HI := Lib.hid (fun m w hF => wolfIn_impl (m := m) h2 h4 w hF)
  clear h1 h2 h3 h4 h5
  go_enter Try.func34, Try.ntmps34
  go_wp2_with fail
  refine (HT.out _).mono ?_
  rintro e1 w1 ⟨m, rfl, hF, hb⟩
  have Z1 := Lib.hid (zero4_keep hb zero4_alloc)
  have B1 := Lib.hid ((below_alloc1 w _).trans (hb.mono (by simp)))
  clear hb
  go_wp2_with fail
  refine (calls_zero Z1.out (Below.refl _ _) (HI.out m _ hF)).mono ?_
  rintro e1 w2 ⟨rfl, hb, ⟨zm, z0, z1, z2, z3⟩, zf⟩
  have B2 := Lib.hid (B1.out.trans (hb.mono B1.out.size))
  clear hb B1 Z1 hF
  go_wp2_with fail
  obtain ⟨X, hX, ⟨gm, g0, g1, g2, g3⟩, gb⟩ := zed4_store (w := w) (p := p) (q := q) (r := r) (s := s) (Nat.le_refl _) B2.out ⟨zm, z0, z1, z2, z3⟩
  rw [← hX]
  clear hX z0 z1 z2 z3 zm zf B2
  refine bodyPost_ret (v := .tuple #[ivV p q r s, .bool y]) (by simp [results, Try.results34, go_sem, g0, g1, g2, g3]) rfl ⟨rfl, gb⟩
set_option maxRecDepth 100000 in
set_option maxHeartbeats 2000000 in
theorem third_impl {num den : Int} {y : Bool} (h : TpAt num den y) (w : World) :
    Calls Try.prog 30 #[.int .i64 num, .int .i64 den] w fun e w' => e = .returned (.bool y) ∧ Below w.heap.size w w' := by
  obtain ⟨p, q, r, s, u, h1, hy⟩ := h
  have H := Lib.hid (fun w => mthird_impl h1 w)
  have HY := Lib.hid hy
  clear h1 hy
  go_enter Try.func30, Try.ntmps30
  go_wp2_with fail
  refine (H.out _).mono ?_
  rintro e' w1 ⟨rfl, hb⟩
  have B1 := Lib.hid (below_more hb (.cells #[.int .i64 p, .int .i64 q, .int .i64 r, .int .i64 s] 32))
  have G1 := Lib.hid (four_alloc (w := w1) (p := p) (q := q) (r := r) (s := s) (t := 32))
  clear hb H
  go_upto_region 2 with fail
  obtain ⟨W1, hW⟩ : ∃ W, W = w1.alloc (.cells #[.int .i64 p, .int .i64 q, .int .i64 r, .int .i64 s] 32) := ⟨_, rfl⟩
  rw [← hW] at B1 G1 ⊢
  clear hW
  generalize w1.heap.size = k at G1 ⊢
  cases u
  · refine wp_region_held_drew (S := (fun w' => w'.cell? ⟨k, 0, none⟩ = some (.int .i64 p) ∧ w'.cell? ⟨k, 1, none⟩ = some (.int .i64 q) ∧ w'.cell? ⟨k, 2, none⟩ = some (.int .i64 r) ∧ w'.cell? ⟨k, 3, none⟩ = some (.int .i64 s))) (by kernel_rfl) ?_ (fun hHeld => ?_)
    · exact four_cellsF (four_drewF G1.out)
    refine takeD (i := 0) (d := (some 13)) (v := (.bool false)) rfl rfl (by kernel_rfl) (by kernel_rfl) (by kernel_rfl) (fun _ _ _ h => h) (Or.inl ⟨by kernel_rfl, ?_⟩) (by assumption) ?_
    · intro wS hSw
      (try dsimp only at hSw)
      go_simp
    (try simp only [Act.put]); (try simp only [List.setIfInBounds_toArray]); (try simp only [List.set_cons_succ]); (try simp only [List.set_cons_zero])
    refine takeD (i := 1) (d := (some 14)) (v := (.bool false)) rfl rfl (by kernel_rfl) (by kernel_rfl) (by kernel_rfl) (fun _ _ _ h => h) (Or.inl ⟨by kernel_rfl, ?_⟩) (by assumption) ?_
    · intro wS hSw
      (try dsimp only at hSw)
      go_simp
    (try simp only [Act.put]); (try simp only [List.setIfInBounds_toArray]); (try simp only [List.set_cons_succ]); (try simp only [List.set_cons_zero])
    refine takeD (i := 2) (d := (some 15)) (v := undef) rfl rfl (by kernel_rfl) (by kernel_rfl) (by kernel_rfl) (fun _ _ _ h => h) (Or.inr ⟨by kernel_rfl, rfl⟩) (by assumption) ?_
    (try simp only [Act.put]); (try simp only [List.setIfInBounds_toArray]); (try simp only [List.set_cons_succ]); (try simp only [List.set_cons_zero])
    refine takeD (i := 3) (d := (some 16)) (v := undef) rfl rfl (by kernel_rfl) (by kernel_rfl) (by kernel_rfl) (fun _ _ _ h => h) (Or.inr ⟨by kernel_rfl, rfl⟩) (by assumption) ?_
    (try simp only [Act.put]); (try simp only [List.setIfInBounds_toArray]); (try simp only [List.set_cons_succ]); (try simp only [List.set_cons_zero])
    refine takeD (i := 4) (d := (some 17)) (v := undef) rfl rfl (by kernel_rfl) (by kernel_rfl) (by kernel_rfl) (fun _ _ _ h => h) (Or.inr ⟨by kernel_rfl, rfl⟩) (by assumption) ?_
    (try simp only [Act.put]); (try simp only [List.setIfInBounds_toArray]); (try simp only [List.set_cons_succ]); (try simp only [List.set_cons_zero])
    refine takeD (i := 5) (d := (some 18)) (v := (.bool false)) rfl rfl (by kernel_rfl) (by kernel_rfl) (by kernel_rfl) (fun _ _ _ h => h) (Or.inl ⟨by kernel_rfl, ?_⟩) (by assumption) ?_
    · intro wS hSw
      (try dsimp only at hSw)
      go_simp
    (try simp only [Act.put]); (try simp only [List.setIfInBounds_toArray]); (try simp only [List.set_cons_succ]); (try simp only [List.set_cons_zero])
    refine takeD (i := 6) (d := (some 4)) (v := (.bool false)) rfl rfl (by kernel_rfl) (by kernel_rfl) (by kernel_rfl) (fun _ _ _ h => h) (Or.inl ⟨by kernel_rfl, ?_⟩) (by assumption) ?_
    · intro wS hSw
      (try dsimp only at hSw)
      go_simp
    (try simp only [Act.put]); (try simp only [List.setIfInBounds_toArray]); (try simp only [List.set_cons_succ]); (try simp only [List.set_cons_zero])
    refine wpAnyH_done (by kernel_rfl) ?_ _
    go_wp2_with fail
    go_ret
    exact ⟨ret_boolT (by rw [HY.out]; rfl), B1.out.drew⟩
  · rcases (show (p = -2 ∧ q = 0 ∧ r = 1 ∧ s = 1) ∨ p ≠ -2 ∨ (p = -2 ∧ q ≠ 0) ∨ (p = -2 ∧ q = 0 ∧ r ≠ 1) ∨ (p = -2 ∧ q = 0 ∧ r = 1 ∧ s ≠ 1) by omega) with ⟨rfl, rfl, rfl, rfl⟩ | h1 | ⟨rfl, h1⟩ | ⟨rfl, rfl, h1⟩ | ⟨rfl, rfl, rfl, h1⟩
    · go_region_held3 (fun w' => w'.cell? ⟨k, 0, none⟩ = some (.int .i64 (-2)) ∧ w'.cell? ⟨k, 1, none⟩ = some (.int .i64 (0)) ∧ w'.cell? ⟨k, 2, none⟩ = some (.int .i64 (1)) ∧ w'.cell? ⟨k, 3, none⟩ = some (.int .i64 (1))) (with_reducible first | exact four_cellsF (four_drewF G1.out) | exact four_cellsF (four_keep (by assumption) G1.out) | exact four_cellsF G1.out)
        (first
          | (go_at_call 50; refine (calls_fromF (W := W1) (by with_reducible first | assumption | exact (Below.refl _ _).drew) (pureThird_impl _)).mono ?_; rintro e1 w2 ⟨rfl, hb⟩))
      go_wp2_with fail
      go_ret
      exact ⟨ret_boolT (by rw [HY.out]; simp), B1.out.trans (hb.mono B1.out.size)⟩
    · go_region_held3 (fun w' => w'.cell? ⟨k, 0, none⟩ = some (.int .i64 (p)) ∧ w'.cell? ⟨k, 1, none⟩ = some (.int .i64 (q)) ∧ w'.cell? ⟨k, 2, none⟩ = some (.int .i64 (r)) ∧ w'.cell? ⟨k, 3, none⟩ = some (.int .i64 (s))) (with_reducible first | exact four_cellsF (four_drewF G1.out) | exact four_cellsF (four_keep (by assumption) G1.out) | exact four_cellsF G1.out)
        (first
          | (go_at_call 50; refine (calls_fromF (W := W1) (by with_reducible first | assumption | exact (Below.refl _ _).drew) (pureThird_impl _)).mono ?_; rintro e1 w2 ⟨rfl, hb⟩))
      go_wp2_with fail
      go_ret
      exact ⟨ret_boolT (by rw [HY.out]; simp [h1]), B1.out.trans (hb.mono B1.out.size)⟩
    · go_region_held3 (fun w' => w'.cell? ⟨k, 0, none⟩ = some (.int .i64 (-2)) ∧ w'.cell? ⟨k, 1, none⟩ = some (.int .i64 (q)) ∧ w'.cell? ⟨k, 2, none⟩ = some (.int .i64 (r)) ∧ w'.cell? ⟨k, 3, none⟩ = some (.int .i64 (s))) (with_reducible first | exact four_cellsF (four_drewF G1.out) | exact four_cellsF (four_keep (by assumption) G1.out) | exact four_cellsF G1.out)
        (first
          | (go_at_call 50; refine (calls_fromF (W := W1) (by with_reducible first | assumption | exact (Below.refl _ _).drew) (pureThird_impl _)).mono ?_; rintro e1 w2 ⟨rfl, hb⟩))
      go_wp2_with fail
      go_ret
      exact ⟨ret_boolT (by rw [HY.out]; simp [h1]), B1.out.trans (hb.mono B1.out.size)⟩
    · go_region_held3 (fun w' => w'.cell? ⟨k, 0, none⟩ = some (.int .i64 (-2)) ∧ w'.cell? ⟨k, 1, none⟩ = some (.int .i64 (0)) ∧ w'.cell? ⟨k, 2, none⟩ = some (.int .i64 (r)) ∧ w'.cell? ⟨k, 3, none⟩ = some (.int .i64 (s))) (with_reducible first | exact four_cellsF (four_drewF G1.out) | exact four_cellsF (four_keep (by assumption) G1.out) | exact four_cellsF G1.out)
        (first
          | (go_at_call 50; refine (calls_fromF (W := W1) (by with_reducible first | assumption | exact (Below.refl _ _).drew) (pureThird_impl _)).mono ?_; rintro e1 w2 ⟨rfl, hb⟩))
      go_wp2_with fail
      go_ret
      exact ⟨ret_boolT (by rw [HY.out]; simp [h1]), B1.out.trans (hb.mono B1.out.size)⟩
    · go_region_held3 (fun w' => w'.cell? ⟨k, 0, none⟩ = some (.int .i64 (-2)) ∧ w'.cell? ⟨k, 1, none⟩ = some (.int .i64 (0)) ∧ w'.cell? ⟨k, 2, none⟩ = some (.int .i64 (1)) ∧ w'.cell? ⟨k, 3, none⟩ = some (.int .i64 (s))) (with_reducible first | exact four_cellsF (four_drewF G1.out) | exact four_cellsF (four_keep (by assumption) G1.out) | exact four_cellsF G1.out)
        (first
          | (go_at_call 50; refine (calls_fromF (W := W1) (by with_reducible first | assumption | exact (Below.refl _ _).drew) (pureThird_impl _)).mono ?_; rintro e1 w2 ⟨rfl, hb⟩))
      go_wp2_with fail
      go_ret
      exact ⟨ret_boolT (by rw [HY.out]; simp [h1]), B1.out.trans (hb.mono B1.out.size)⟩
end Go.Proofs.Ytnlfmiheapcodaa
