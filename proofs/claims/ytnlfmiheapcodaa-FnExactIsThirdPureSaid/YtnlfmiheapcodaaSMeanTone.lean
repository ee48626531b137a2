/- Contracts of MeanTone, MeanThird, WolfOf and IsThirdPure of the model. -/
import Derived.Test.YtnlfmiheapcodaaMeanTone
import Derived.Test.YtnlfmiheapcodaaSAddTone
namespace Go.Proofs.Ytnlfmiheapcodaa
open Go.RowKit Go.Joins
set_option linter.unusedVariables false
theorem mf_no {num den a b c d : Int} (h : MfAt num den a b c d false) : a = 0 ∧ b = 0 ∧ c = 0 ∧ d = 0 := by
  rcases h with ⟨_, _, _, _, _, h⟩ | ⟨_, h1, h2, h3, h4, _⟩
  · cases h
  · exact ⟨h1, h2, h3, h4⟩
theorem wolf_no (p q r s : Int) (y : Bool) (h : addV ⟨0, 0, 0, 0⟩ octV = (⟨p, q, r, s⟩, y)) : p = 0 ∧ q = 0 ∧ r = 0 ∧ s = 0 ∧ y = false := by
  rw [show addV ⟨0, 0, 0, 0⟩ octV = (⟨0, 0, 0, 0⟩, false) from rfl] at h
  injection h with k1 k2
  injection k1 with k3 k4 k5 k6
  exact ⟨k3.symm, k4.symm, k5.symm, k6.symm, k2.symm⟩
set_option maxRecDepth 100000 in
set_option maxHeartbeats 2000000 in
/-- MeanTone where the number of fifths is out of its range. -/
theorem mtone_spec_out {num den n a b c d : Int} {u : Bool} (h1 : MfAt num den a b c d u) (hn : decide (-12 ≤ n ∧ n ≤ 12) = false) (w : World) :
    Calls Try.prog 76 #[.int .i64 num, .int .i64 den, .int .i64 n] w fun e w' => e = .returned (.tuple #[ivV 0 0 0 0, .bool false]) ∧ Below w.heap.size w w' := by
  have HF := Lib.hid (fun w => mean_spec h1 w)
  have HR := Lib.hid hn
  clear h1 hn
  go_enter Try.func76, Try.ntmps76
  go_upto_region 1 with fail
  obtain ⟨W0, hW⟩ : ∃ W, W = w.alloc (.cells #[.int .i64 0, .int .i64 0, .int .i64 0, .int .i64 0] 32) := ⟨_, rfl⟩
  have Z0 : Hid (Zero4 w.heap.size W0) := Lib.hid (by rw [hW]; exact zero4_alloc)
  have B0 : Hid (Below w.heap.size w W0) := Lib.hid (by rw [hW]; exact below_alloc1 w _)
  rw [← hW]
  clear hW
  go_wp2_with fail
  refine (calls_zero Z0.out (Below.refl _ _) (HF.out _)).mono ?_
  rintro e' w1 ⟨rfl, hb, hz⟩
  have B1 := Lib.hid ((B0.out.trans (hb.mono B0.out.size)).alloc (by have := hb.size; have := B0.out.size; omega) (.cells #[.int .i64 a, .int .i64 b, .int .i64 c, .int .i64 d] 32))
  have G1 := Lib.hid (four_alloc (w := w1) (p := a) (q := b) (r := c) (s := d) (t := 32))
  have Z1 := Lib.hid (zero4_keep ((Below.refl _ _).alloc (Nat.le_refl _) (.cells #[.int .i64 a, .int .i64 b, .int .i64 c, .int .i64 d] 32)) hz)
  clear hb hz B0 Z0
  go_upto_region 2 with fail
  obtain ⟨W1, hW⟩ : ∃ W, W = w1.alloc (.cells #[.int .i64 a, .int .i64 b, .int .i64 c, .int .i64 d] 32) := ⟨_, rfl⟩
  rw [← hW] at B1 G1 Z1 ⊢
  clear hW
  generalize w1.heap.size = k at G1 ⊢
  cases u
  · obtain ⟨⟨zm, z0, z1, z2, z3⟩, zf⟩ := Z1.out
    clear G1
    go_wp2_with fail
    obtain ⟨X, hX, ⟨gm, g0, g1, g2, g3⟩, gb⟩ := zed4_store (w := w) (p := 0) (q := 0) (r := 0) (s := 0) (Nat.le_refl _) B1.out ⟨zm, z0, z1, z2, z3⟩
    rw [← hX]
    clear hX z0 z1 z2 z3 zm zf B1
    refine bodyPost_ret (v := .tuple #[ivV 0 0 0 0, .bool false]) (by simp [results, Try.results76, go_sem, g0, g1, g2, g3]) rfl ⟨rfl, gb⟩
  · go_wp2_with fail
    refine (inT_any _ _ _ _).mono ?_
    rintro e' w2 ⟨rfl, rfl⟩
    rw [HR.out]
    obtain ⟨⟨zm, z0, z1, z2, z3⟩, zf⟩ := Z1.out
    clear G1
    go_wp2_with fail
    obtain ⟨X, hX, ⟨gm, g0, g1, g2, g3⟩, gb⟩ := zed4_store (w := w) (p := 0) (q := 0) (r := 0) (s := 0) (Nat.le_refl _) B1.out ⟨zm, z0, z1, z2, z3⟩
    rw [← hX]
    clear hX z0 z1 z2 z3 zm zf B1
    refine bodyPost_ret (v := .tuple #[ivV 0 0 0 0, .bool false]) (by simp [results, Try.results76, go_sem, g0, g1, g2, g3]) rfl ⟨rfl, gb⟩
set_option maxRecDepth 100000 in
set_option maxHeartbeats 2000000 in
theorem mtone_spec_in {num den n a b c d e f g h p q r s : Int} {u v y : Bool} (h1 : MfAt num den a b c d u) (h2 : TmAt a b c d n e f g h v) (h3 : WithinAt e f g h p q r s y) (hn : decide (-12 ≤ n ∧ n ≤ 12) = true) (w : World) :
    Calls Try.prog 76 #[.int .i64 num, .int .i64 den, .int .i64 n] w fun e w' => e = .returned (.tuple #[ivV p q r s, .bool y]) ∧ Below w.heap.size w w' := by
  have HF := Lib.hid (fun w => mean_spec h1 w)
  have HT := Lib.hid (fun w => tmAt_spec h2 w)
  have HW := Lib.hid (fun w => within_spec h3 w)
  have HV : Hid (v = false → p = 0 ∧ q = 0 ∧ r = 0 ∧ s = 0 ∧ y = false) := Lib.hid (fun hv => by
    subst hv
    obtain ⟨rfl, rfl, rfl, rfl⟩ := tmAt_no h2
    exact within_zero h3)
  have HU : Hid (u = false → p = 0 ∧ q = 0 ∧ r = 0 ∧ s = 0 ∧ y = false) := Lib.hid (fun hu => by
    subst hu
    obtain ⟨rfl, rfl, rfl, rfl⟩ := mf_no h1
    obtain ⟨rfl, rfl, rfl, rfl, rfl⟩ := tmAt_zero h2
    exact within_zero h3)
  have HR := Lib.hid hn
  clear h1 h2 h3 hn
  go_enter Try.func76, Try.ntmps76
  go_upto_region 1 with fail
  obtain ⟨W0, hW⟩ : ∃ W, W = w.alloc (.cells #[.int .i64 0, .int .i64 0, .int .i64 0, .int .i64 0] 32) := ⟨_, rfl⟩
  have Z0 : Hid (Zero4 w.heap.size W0) := Lib.hid (by rw [hW]; exact zero4_alloc)
  have B0 : Hid (Below w.heap.size w W0) := Lib.hid (by rw [hW]; exact below_alloc1 w _)
  rw [← hW]
  clear hW
  go_wp2_with fail
  refine (calls_zero Z0.out (Below.refl _ _) (HF.out _)).mono ?_
  rintro e' w1 ⟨rfl, hb, hz⟩
  have B1 := Lib.hid ((B0.out.trans (hb.mono B0.out.size)).alloc (by have := hb.size; have := B0.out.size; omega) (.cells #[.int .i64 a, .int .i64 b, .int .i64 c, .int .i64 d] 32))
  have G1 := Lib.hid (four_alloc (w := w1) (p := a) (q := b) (r := c) (s := d) (t := 32))
  have Z1 := Lib.hid (zero4_keep ((Below.refl _ _).alloc (Nat.le_refl _) (.cells #[.int .i64 a, .int .i64 b, .int .i64 c, .int .i64 d] 32)) hz)
  clear hb hz B0 Z0
  go_upto_region 2 with fail
  obtain ⟨W1, hW⟩ : ∃ W, W = w1.alloc (.cells #[.int .i64 a, .int .i64 b, .int .i64 c, .int .i64 d] 32) := ⟨_, rfl⟩
  rw [← hW] at B1 G1 Z1 ⊢
  clear hW
  generalize w1.heap.size = k at G1 ⊢
  cases u
  · obtain ⟨rfl, rfl, rfl, rfl, rfl⟩ := HU.out rfl
    clear HT HW HV
    obtain ⟨⟨zm, z0, z1, z2, z3⟩, zf⟩ := Z1.out
    clear G1
    go_wp2_with fail
    obtain ⟨X, hX, ⟨gm, g0, g1, g2, g3⟩, gb⟩ := zed4_store (w := w) (p := 0) (q := 0) (r := 0) (s := 0) (Nat.le_refl _) B1.out ⟨zm, z0, z1, z2, z3⟩
    rw [← hX]
    clear hX z0 z1 z2 z3 zm zf B1
    refine bodyPost_ret (v := .tuple #[ivV 0 0 0 0, .bool false]) (by simp [results, Try.results76, go_sem, g0, g1, g2, g3]) rfl ⟨rfl, gb⟩
  · clear HU
    go_wp2_with fail
    refine (inT_any _ _ _ _).mono ?_
    rintro e' w2 ⟨rfl, rfl⟩
    rw [HR.out]
    obtain ⟨_, x0, x1, x2, x3⟩ := G1.out
    go_wp2_with fail
    refine (calls_zero Z1.out (Below.refl _ _) (HT.out _)).mono ?_
    rintro e' w2 ⟨rfl, hb, hz⟩
    have B2 := Lib.hid ((B1.out.trans (hb.mono B1.out.size)).alloc (by have := hb.size; have := B1.out.size; omega) (.cells #[.int .i64 e, .int .i64 f, .int .i64 g, .int .i64 h] 32))
    have G2 := Lib.hid (four_alloc (w := w2) (p := e) (q := f) (r := g) (s := h) (t := 32))
    have Z2 := Lib.hid (zero4_keep ((Below.refl _ _).alloc (Nat.le_refl _) (.cells #[.int .i64 e, .int .i64 f, .int .i64 g, .int .i64 h] 32)) hz)
    clear hb hz B1 Z1 G1 x0 x1 x2 x3 HT
    go_upto_region 5 with fail
    obtain ⟨W2, hW⟩ : ∃ W, W = w2.alloc (.cells #[.int .i64 e, .int .i64 f, .int .i64 g, .int .i64 h] 32) := ⟨_, rfl⟩
    rw [← hW] at B2 G2 Z2 ⊢
    clear hW
    generalize w2.heap.size = l at G2 ⊢
    cases v
    · obtain ⟨rfl, rfl, rfl, rfl, rfl⟩ := HV.out rfl
      clear HW
      obtain ⟨⟨zm, z0, z1, z2, z3⟩, zf⟩ := Z2.out
      clear G2
      go_wp2_with fail
      obtain ⟨X, hX, ⟨gm, g0, g1, g2, g3⟩, gb⟩ := zed4_store (w := w) (p := 0) (q := 0) (r := 0) (s := 0) (Nat.le_refl _) B2.out ⟨zm, z0, z1, z2, z3⟩
      rw [← hX]
      clear hX z0 z1 z2 z3 zm zf B2
      refine bodyPost_ret (v := .tuple #[ivV 0 0 0 0, .bool false]) (by simp [results, Try.results76, go_sem, g0, g1, g2, g3]) rfl ⟨rfl, gb⟩
    · obtain ⟨_, x0, x1, x2, x3⟩ := G2.out
      clear HV G2
      go_wp2_with fail
      refine (calls_zero Z2.out (Below.refl _ _) (HW.out _)).mono ?_
      rintro e' w3 ⟨rfl, hb, ⟨zm, z0, z1, z2, z3⟩, zf⟩
      have B3 := Lib.hid (B2.out.trans (hb.mono B2.out.size))
      clear x0 x1 x2 x3 hb B2 Z2
      go_wp2_with fail
      obtain ⟨X, hX, ⟨gm, g0, g1, g2, g3⟩, gb⟩ := zed4_store (w := w) (p := p) (q := q) (r := r) (s := s) (Nat.le_refl _) B3.out ⟨zm, z0, z1, z2, z3⟩
      rw [← hX]
      clear hX z0 z1 z2 z3 zm zf B3
      refine bodyPost_ret (v := .tuple #[ivV p q r s, .bool y]) (by simp [results, Try.results76, go_sem, g0, g1, g2, g3]) rfl ⟨rfl, gb⟩
theorem mtone_spec {num den n p q r s : Int} {y : Bool} (h : MtAt num den n p q r s y) (w : World) :
    Calls Try.prog 76 #[.int .i64 num, .int .i64 den, .int .i64 n] w fun e w' => e = .returned (.tuple #[ivV p q r s, .bool y]) ∧ Below w.heap.size w w' := by
  rcases h with ⟨hn, a, b, c, d, u, e, f, g, h, v, h1, h2, h3⟩ | ⟨hb, rfl, rfl, rfl, rfl, rfl⟩
  · exact mtone_spec_in h1 h2 h3 (decide_eq_true hn) w
  · obtain ⟨a, b, c, d, u, h1⟩ := mfAt_ex num den
    exact mtone_spec_out h1 (decide_eq_false (by omega)) w
set_option maxRecDepth 100000 in
set_option maxHeartbeats 2000000 in
theorem mthird_spec {num den p q r s : Int} {y : Bool} (h : MtAt num den 4 p q r s y) (w : World) :
    Calls Try.prog 55 #[.int .i64 num, .int .i64 den] w fun e w' => e = .returned (.tuple #[ivV p q r s, .bool y]) ∧ Below w.heap.size w w' := by
  have H := Lib.hid (fun w => mtone_spec h w)
  clear h
  go_enter Try.func55, Try.ntmps55
  go_wp2_with fail
  refine (calls_zero zero4_alloc (Below.refl _ _) (H.out _)).mono ?_
  rintro e' w2 ⟨rfl, hb, ⟨zm, z0, z1, z2, z3⟩, zf⟩
  have B2 := Lib.hid ((below_alloc1 w _).trans (hb.mono (by simp)))
  clear hb
  go_wp2_with fail
  obtain ⟨X, hX, ⟨gm, g0, g1, g2, g3⟩, gb⟩ := zed4_store (w := w) (p := p) (q := q) (r := r) (s := s) (Nat.le_refl _) B2.out ⟨zm, z0, z1, z2, z3⟩
  rw [← hX]
  clear hX z0 z1 z2 z3 zm zf B2
  refine bodyPost_ret (v := .tuple #[ivV p q r s, .bool y]) (by simp [results, Try.results55, go_sem, g0, g1, g2, g3]) rfl ⟨rfl, gb⟩
set_option maxRecDepth 100000 in
set_option maxHeartbeats 2000000 in
theorem third_spec {num den : Int} {y : Bool} (h : TpAt num den y) (w : World) :
    Calls Try.prog 29 #[.int .i64 num, .int .i64 den] w fun e w' => e = .returned (.bool y) ∧ Below w.heap.size w w' := by
  obtain ⟨p, q, r, s, u, h1, hy⟩ := h
  have H := Lib.hid (fun w => mthird_spec h1 w)
  have HY := Lib.hid hy
  clear h1 hy
  go_enter Try.func29, Try.ntmps29
  go_wp2_with fail
  refine (H.out _).mono ?_
  rintro e' w1 ⟨rfl, hb⟩
  have B1 := Lib.hid (below_more hb (.cells #[.int .i64 p, .int .i64 q, .int .i64 r, .int .i64 s] 32))
  have G1 := Lib.hid (four_alloc (w := w1) (p := p) (q := q) (r := r) (s := s) (t := 32))
  clear hb H
  go_upto_region 2 with fail
  obtain ⟨W1, hW⟩ : ∃ W, W = w1.alloc (.cells #[.int .i64 p, .int .i64 q, .int .i64 r, .int .i64 s] 32) := ⟨_, rfl⟩
  rw [← hW] at B1 G1 ⊢
  clear hW
  generalize w1.heap.size = k at G1 ⊢
  cases u
  · refine wp_region_held_drew (S := (fun w' => w'.cell? ⟨k, 0, none⟩ = some (.int .i64 p) ∧ w'.cell? ⟨k, 1, none⟩ = some (.int .i64 q) ∧ w'.cell? ⟨k, 2, none⟩ = some (.int .i64 r) ∧ w'.cell? ⟨k, 3, none⟩ = some (.int .i64 s))) (by kernel_rfl) ?_ (fun hHeld => ?_)
    · exact four_cellsF (four_drewF G1.out)
    refine takeD (i := 0) (d := (some 13)) (v := (.bool false)) rfl rfl (by kernel_rfl) (by kernel_rfl) (by kernel_rfl) (fun _ _ _ h => h) (Or.inl ⟨by kernel_rfl, ?_⟩) (by assumption) ?_
    · intro wS hSw
      (try dsimp only at hSw)
      go_simp
    (try simp only [Act.put]); (try simp only [List.setIfInBounds_toArray]); (try simp only [List.set_cons_succ]); (try simp only [List.set_cons_zero])
    refine takeD (i := 1) (d := (some 14)) (v := (.bool false)) rfl rfl (by kernel_rfl) (by kernel_rfl) (by kernel_rfl) (fun _ _ _ h => h) (Or.inl ⟨by kernel_rfl, ?_⟩) (by assumption) ?_
    · intro wS hSw
      (try dsimp only at hSw)
      go_simp
    (try simp only [Act.put]); (try simp only [List.setIfInBounds_toArray]); (try simp only [List.set_cons_succ]); (try simp only [List.set_cons_zero])
    refine takeD (i := 2) (d := (some 15)) (v := undef) rfl rfl (by kernel_rfl) (by kernel_rfl) (by kernel_rfl) (fun _ _ _ h => h) (Or.inr ⟨by kernel_rfl, rfl⟩) (by assumption) ?_
    (try simp only [Act.put]); (try simp only [List.setIfInBounds_toArray]); (try simp only [List.set_cons_succ]); (try simp only [List.set_cons_zero])
    refine takeD (i := 3) (d := (some 16)) (v := undef) rfl rfl (by kernel_rfl) (by kernel_rfl) (by kernel_rfl) (fun _ _ _ h => h) (Or.inr ⟨by kernel_rfl, rfl⟩) (by assumption) ?_
    (try simp only [Act.put]); (try simp only [List.setIfInBounds_toArray]); (try simp only [List.set_cons_succ]); (try simp only [List.set_cons_zero])
    refine takeD (i := 4) (d := (some 17)) (v := undef) rfl rfl (by kernel_rfl) (by kernel_rfl) (by kernel_rfl) (fun _ _ _ h => h) (Or.inr ⟨by kernel_rfl, rfl⟩) (by assumption) ?_
    (try simp only [Act.put]); (try simp only [List.setIfInBounds_toArray]); (try simp only [List.set_cons_succ]); (try simp only [List.set_cons_zero])
    refine takeD (i := 5) (d := (some 18)) (v := (.bool false)) rfl rfl (by kernel_rfl) (by kernel_rfl) (by kernel_rfl) (fun _ _ _ h => h) (Or.inl ⟨by kernel_rfl, ?_⟩) (by assumption) ?_
    · intro wS hSw
      (try dsimp only at hSw)
      go_simp
    (try simp only [Act.put]); (try simp only [List.setIfInBounds_toArray]); (try simp only [List.set_cons_succ]); (try simp only [List.set_cons_zero])
    refine takeD (i := 6) (d := (some 4)) (v := (.bool false)) rfl rfl (by kernel_rfl) (by kernel_rfl) (by kernel_rfl) (fun _ _ _ h => h) (Or.inl ⟨by kernel_rfl, ?_⟩) (by assumption) ?_
    · intro wS hSw
      (try dsimp only at hSw)
      go_simp
    (try simp only [Act.put]); (try simp only [List.setIfInBounds_toArray]); (try simp only [List.set_cons_succ]); (try simp only [List.set_cons_zero])
    refine wpAnyH_done (by kernel_rfl) ?_ _
    go_wp2_with fail
    go_ret
    exact ⟨ret_boolT (by rw [HY.out]; rfl), B1.out.drew⟩
  · rcases (show (p = -2 ∧ q = 0 ∧ r = 1 ∧ s = 1) ∨ p ≠ -2 ∨ (p = -2 ∧ q ≠ 0) ∨ (p = -2 ∧ q = 0 ∧ r ≠ 1) ∨ (p = -2 ∧ q = 0 ∧ r = 1 ∧ s ≠ 1) by omega) with ⟨rfl, rfl, rfl, rfl⟩ | h1 | ⟨rfl, h1⟩ | ⟨rfl, rfl, h1⟩ | ⟨rfl, rfl, rfl, h1⟩
    · go_region_held3 (fun w' => w'.cell? ⟨k, 0, none⟩ = some (.int .i64 (-2)) ∧ w'.cell? ⟨k, 1, none⟩ = some (.int .i64 (0)) ∧ w'.cell? ⟨k, 2, none⟩ = some (.int .i64 (1)) ∧ w'.cell? ⟨k, 3, none⟩ = some (.int .i64 (1))) (with_reducible first | exact four_cellsF (four_drewF G1.out) | exact four_cellsF (four_keep (by assumption) G1.out) | exact four_cellsF G1.out)
        (first
          | (go_at_call 56; refine (calls_fromF (W := W1) (by with_reducible first | assumption | exact (Below.refl _ _).drew) (pure_spec_yes (-2) 0 1 _ (by decide))).mono ?_; rintro e1 w2 ⟨rfl, hb⟩))
      go_wp2_with fail
      go_ret
      exact ⟨ret_boolT (by rw [HY.out]; simp), B1.out.trans (hb.mono B1.out.size)⟩
    · go_region_held3 (fun w' => w'.cell? ⟨k, 0, none⟩ = some (.int .i64 (p)) ∧ w'.cell? ⟨k, 1, none⟩ = some (.int .i64 (q)) ∧ w'.cell? ⟨k, 2, none⟩ = some (.int .i64 (r)) ∧ w'.cell? ⟨k, 3, none⟩ = some (.int .i64 (s))) (with_reducible first | exact four_cellsF (four_drewF G1.out) | exact four_cellsF (four_keep (by assumption) G1.out) | exact four_cellsF G1.out)
        (first
          | (go_at_call 56; refine (calls_fromF (W := W1) (by with_reducible first | assumption | exact (Below.refl _ _).drew) (pure_spec_yes (-2) 0 1 _ (by decide))).mono ?_; rintro e1 w2 ⟨rfl, hb⟩))
      go_wp2_with fail
      go_ret
      exact ⟨ret_boolT (by rw [HY.out]; simp [h1]), B1.out.trans (hb.mono B1.out.size)⟩
    · go_region_held3 (fun w' => w'.cell? ⟨k, 0, none⟩ = some (.int .i64 (-2)) ∧ w'.cell? ⟨k, 1, none⟩ = some (.int .i64 (q)) ∧ w'.cell? ⟨k, 2, none⟩ = some (.int .i64 (r)) ∧ w'.cell? ⟨k, 3, none⟩ = some (.int .i64 (s))) (with_reducible first | exact four_cellsF (four_drewF G1.out) | exact four_cellsF (four_keep (by assumption) G1.out) | exact four_cellsF G1.out)
        (first
          | (go_at_call 56; refine (calls_fromF (W := W1) (by with_reducible first | assumption | exact (Below.refl _ _).drew) (pure_spec_yes (-2) 0 1 _ (by decide))).mono ?_; rintro e1 w2 ⟨rfl, hb⟩))
      go_wp2_with fail
      go_ret
      exact ⟨ret_boolT (by rw [HY.out]; simp [h1]), B1.out.trans (hb.mono B1.out.size)⟩
    · go_region_held3 (fun w' => w'.cell? ⟨k, 0, none⟩ = some (.int .i64 (-2)) ∧ w'.cell? ⟨k, 1, none⟩ = some (.int .i64 (0)) ∧ w'.cell? ⟨k, 2, none⟩ = some (.int .i64 (r)) ∧ w'.cell? ⟨k, 3, none⟩ = some (.int .i64 (s))) (with_reducible first | exact four_cellsF (four_drewF G1.out) | exact four_cellsF (four_keep (by assumption) G1.out) | exact four_cellsF G1.out)
        (first
          | (go_at_call 56; refine (calls_fromF (W := W1) (by with_reducible first | assumption | exact (Below.refl _ _).drew) (pure_spec_yes (-2) 0 1 _ (by decide))).mono ?_; rintro e1 w2 ⟨rfl, hb⟩))
      go_wp2_with fail
      go_ret
      exact ⟨ret_boolT (by rw [HY.out]; simp [h1]), B1.out.trans (hb.mono B1.out.size)⟩
    · go_region_held3 (fun w' => w'.cell? ⟨k, 0, none⟩ = some (.int .i64 (-2)) ∧ w'.cell? ⟨k, 1, none⟩ = some (.int .i64 (0)) ∧ w'.cell? ⟨k, 2, none⟩ = some (.int .i64 (1)) ∧ w'.cell? ⟨k, 3, none⟩ = some (.int .i64 (s))) (with_reducible first | exact four_cellsF (four_drewF G1.out) | exact four_cellsF (four_keep (by assumption) G1.out) | exact four_cellsF G1.out)
        (first
          | (go_at_call 56; refine (calls_fromF (W := W1) (by with_reducible first | assumption | exact (Below.refl _ _).drew) (pure_spec_yes (-2) 0 1 _ (by decide))).mono ?_; rintro e1 w2 ⟨rfl, hb⟩))
      go_wp2_with fail
      go_ret
      exact ⟨ret_boolT (by rw [HY.out]; simp [h1]), B1.out.trans (hb.mono B1.out.size)⟩
end Go.Proofs.Ytnlfmiheapcodaa
