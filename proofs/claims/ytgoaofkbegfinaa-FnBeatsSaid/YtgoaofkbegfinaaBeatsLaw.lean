/- The walk of laws.FnBeats over the program's contracts. -/
import Derived.Test.YtgoaofkbegfinaaDrawPitch
import Derived.Test.YtgoaofkbegfinaaPitchLaw
import Derived.Test.YtgoaofkbegfinaaAtWalks
import Derived.Test.YtgoaofkbegfinaaTakeD
import Derived.Deep.RegionHeld3
import Derived.Deep.DeepCutAuto
namespace Go.Proofs.Ytgoaofkbegfinaa
open Go.RowKit Go.Joins
set_option linter.unusedVariables false
/-- Pitches that lie in blocks. -/
def Duos (L : List (Nat × Int × Int)) (w : World) : Prop := ∀ e, e ∈ L → Duo e.1 e.2.1 e.2.2 w
theorem duos_keep {L : List (Nat × Int × Int)} {w w' : World} (hb : Below w.heap.size w w') (h : Duos L w) : Duos L w' := fun e he => duo_keep hb (h e he)
theorem duos_al {L : List (Nat × Int × Int)} {w : World} {x y : Int} {t : TypeId} (h : Duos L w) : Duos ((w.heap.size, x, y) :: L) (w.alloc (.cells #[.int .i64 x, .int .i64 y] t)) := fun e he => by
  rcases List.mem_cons.1 he with rfl | he
  · exact duo_alloc
  · exact duo_al (h e he)
/-- The law's six pitches, as the last region loads them. -/
theorem duos_six {ma mb mx my mf mz : Nat} {a a' b b' x x' f f' : Int} {w : World} (h : Duos [(mz, 0, 0), (mf, f, f'), (my, x, x'), (mx, x, x'), (ma, a, a'), (mb, b, b')] w) :
    ((w.cell? ⟨ma, 0, none⟩ = some (.int .i64 a) ∧ w.cell? ⟨ma, 1, none⟩ = some (.int .i64 a')) ∧ (w.cell? ⟨mb, 0, none⟩ = some (.int .i64 b) ∧ w.cell? ⟨mb, 1, none⟩ = some (.int .i64 b')) ∧ (w.cell? ⟨mx, 0, none⟩ = some (.int .i64 x) ∧ w.cell? ⟨mx, 1, none⟩ = some (.int .i64 x'))) ∧
      (w.cell? ⟨my, 0, none⟩ = some (.int .i64 x) ∧ w.cell? ⟨my, 1, none⟩ = some (.int .i64 x')) ∧ (w.cell? ⟨mf, 0, none⟩ = some (.int .i64 f) ∧ w.cell? ⟨mf, 1, none⟩ = some (.int .i64 f')) ∧ w.cell? ⟨mz, 0, none⟩ = some (.int .i64 0) ∧ w.cell? ⟨mz, 1, none⟩ = some (.int .i64 0) :=
  ⟨⟨(h _ (List.mem_cons_of_mem _ (List.mem_cons_of_mem _ (List.mem_cons_of_mem _ (List.mem_cons_of_mem _ List.mem_cons_self))))).2, (h _ (List.mem_cons_of_mem _ (List.mem_cons_of_mem _ (List.mem_cons_of_mem _ (List.mem_cons_of_mem _ (List.mem_cons_of_mem _ List.mem_cons_self)))))).2, (h _ (List.mem_cons_of_mem _ (List.mem_cons_of_mem _ (List.mem_cons_of_mem _ List.mem_cons_self)))).2⟩,
    (h _ (List.mem_cons_of_mem _ (List.mem_cons_of_mem _ List.mem_cons_self))).2, (h _ (List.mem_cons_of_mem _ List.mem_cons_self)).2, (h _ List.mem_cons_self).2⟩
set_option maxRecDepth 100000 in
set_option maxHeartbeats 8000000 in
theorem walk_BeatsBy (PI : PkImpl) (CI : CmpImpl17) (TI : TpImpl17) (BI : BtImpl) (a0 : Option Addr) (len0 cap0 : Nat) (z0 : List Int) (w : World) (hr : IsRow .u8 w a0 len0 cap0 z0) :
    Calls Try.prog 3 #[.slice a0 len0 cap0] w fun e w' => e = .returned (.bool true) ∧ Below w.heap.size w w' := by
  have hlen := (row_len hr).2
  by_cases hbig : 1048576 < len0
  · have t0 : decide (1048576 < (len0 : Int)) = true := by simp; omega
    go_enter Try.func3, Try.ntmps3
    go_wp2_with fail
    refine (bigW_any _ _ _ _ hlen).mono ?_
    rintro e w' ⟨rfl, rfl⟩
    go_wp2_with fail
    go_ret
    exact ⟨rfl, Below.refl _ _⟩
  · have t0 : decide (1048576 < (len0 : Int)) = false := by simp; omega
    obtain ⟨u, hu, hat⟩ := at_fix hr (by omega) 0 (by omega)
    obtain ⟨v, hv, hav⟩ := at_fix hr (by omega) 1 (by omega)
    have AT := Lib.hid hat
    have AV := Lib.hid hav
    have HLEN := Lib.hid hlen
    have HR := Lib.hid hr
    clear hr hbig hlen hat hav
    go_enter Try.func3, Try.ntmps3
    go_wp2_with fail
    refine (bigW_any _ _ _ _ HLEN.out).mono ?_
    rintro e w' ⟨rfl, rfl⟩
    rw [t0]
    clear t0
    go_wp2_with fail
    refine (drawPitches_any HR.out).mono ?_
    rintro e w1 ⟨a, a', b, b', ha, hb, rfl, b1⟩
    have HA := Lib.hid ha
    have HB := Lib.hid hb
    have B1 := Lib.hid b1
    clear ha hb b1
    go_upto_region 4 with fail
    obtain ⟨W1, hW1⟩ : ∃ W, W = (w1.alloc (.cells #[.int .i64 a, .int .i64 a'] 25)).alloc (.cells #[.int .i64 b, .int .i64 b'] 25) := ⟨_, rfl⟩
    have D1 : Hid (Duos [(w1.heap.size, a, a'), (w1.heap.size + 1, b, b')] W1) := Lib.hid (by
      rw [hW1]
      have h := twoD_alloc w1 a a' b b' 25
      intro e he
      simp only [List.mem_cons, List.not_mem_nil, or_false] at he
      rcases he with rfl | rfl
      · exact h.1
      · exact h.2)
    have B2 : Hid (Below w.heap.size w W1) := Lib.hid (by rw [hW1]; exact B1.out.trans ((below_alloc2 w1 _ _).mono B1.out.size))
    rw [← hW1]
    obtain ⟨m, hm⟩ : ∃ m, m = w1.heap.size := ⟨_, rfl⟩
    rw [← hm] at D1 ⊢
    clear hW1 hm B1
    go_wp2_with fail
    refine (AT.out _ B2.out).mono ?_
    rintro e w2 ⟨rfl, rfl⟩
    go_wp2_with fail
    refine (AV.out _ B2.out).mono ?_
    rintro e w3 ⟨rfl, rfl⟩
    obtain ⟨_, c0, c1⟩ := D1.out (m, a, a') (by simp)
    obtain ⟨_, c2, c3⟩ := D1.out (m + 1, b, b') (by simp)
    go_upto_region 6 with fail
    generalize 1 + (u : Int) % 6 = p
    generalize 1 + (v : Int) % 6 = q
    obtain ⟨x, x', z, hf⟩ := beat_ex a a' b b' p q
    obtain ⟨y, y', z2, hg⟩ := beat_ex b b' a a' q p
    obtain ⟨e1, e2, e3⟩ := beat_comm HA.out.1 HB.out.1 hf hg
    subst e1 e2 e3
    obtain ⟨f, f', z3, ht⟩ := times_ex17 a a' 3 2
    obtain ⟨e3, hpf, uf, uf', g, hg1, hg2, hg3⟩ := fifth17 HA.out ht
    subst e3
    obtain ⟨h, h', z4, h4⟩ := beat_ex a a' f f' 3 2
    obtain ⟨c1, hc1⟩ := cmp_ex17 a a' f f'
    obtain ⟨⟨e1, e2, e3⟩, e4⟩ := pure17 HA.out hpf uf uf' hg1 hg2 hg3 h4 hc1
    subst e1 e2 e3 e4
    obtain ⟨c, hc⟩ := cmp_ex17 a a' b b'
    obtain ⟨d, hd⟩ := cmp_ex17 b b' a a'
    have hcd := cmp_neg17 HA.out.1 HB.out.1 hc hd
    have hc0 := cmp_zero17 HA.out.1 HB.out.1 hc
    have hc3 : -1 ≤ c ∧ c ≤ 1 := by rcases hc with ⟨_, h⟩ | ⟨_, h⟩ <;> omega
    obtain ⟨k, hk1⟩ : ∃ k, (c == 0) = k := ⟨_, rfl⟩
    have hk2 : (a == b && (a' == b')) = k := by
      rw [← hk1]
      by_cases h0 : c = 0
      · obtain ⟨q1, q2⟩ := hc0.1 h0
        subst q1 q2
        simp [h0]
      · have : ¬ (a = b ∧ a' = b') := fun q => h0 (hc0.2 q)
        rw [show (c == 0) = false by simpa using h0]
        by_cases q1 : a = b
        · have q2 : ¬ a' = b' := fun q => this ⟨q1, q⟩
          simp [q2]
        · simp [q1]
    have hneg : IntKind.i64.wrap (-d) = c := by rw [hcd]; exact IntWalk.i64_in _ (by omega)
    have KEY := Lib.hid (And.intro hk1 (And.intro hk2 hneg))
    have C1 := Lib.hid (fun w => BI _ _ _ _ _ _ _ _ _ hf w)
    have C2 := Lib.hid (fun w => BI _ _ _ _ _ _ _ _ _ hg w)
    have C3 := Lib.hid (fun w => TI _ _ _ _ _ _ _ ht w)
    have C4 := Lib.hid (fun w => BI _ _ _ _ _ _ _ _ _ h4 w)
    have Q1 := Lib.hid (fun w => CI _ _ _ _ _ hc1 w)
    have Q2 := Lib.hid (fun w => CI _ _ _ _ _ hc w)
    have Q3 := Lib.hid (fun w => CI _ _ _ _ _ hd w)
    have Q4 := Lib.hid (fun w => PI f f' w)
    rw [show pkB f f' = true from decide_eq_true hpf] at Q4
    clear hf hg ht h4 hc1 hc hd hcd hc0 hc3 hk1 hk2 hneg hpf uf uf' hg1 hg2 hg3 hu hv AT AV HA HB HR HLEN PI CI TI BI
    go_wp2_with fail
    refine (C1.out _).mono ?_
    rintro e w4 ⟨rfl, hb⟩
    have D2 := Lib.hid (duos_al (x := x) (y := x') (t := 25) (duos_keep hb D1.out))
    have B3 := Lib.hid (below_growP (B2.out.trans (hb.mono B2.out.size)) (.cells #[.int .i64 x, .int .i64 x'] 25))
    clear hb c0 c1 c2 c3 D1 B2
    go_upto_region 7 with fail
    obtain ⟨W2, hW⟩ : ∃ W, W = w4.alloc (.cells #[.int .i64 x, .int .i64 x'] 25) := ⟨_, rfl⟩
    rw [← hW] at D2 B3 ⊢
    clear hW
    generalize w4.heap.size = m2 at D2 ⊢
    obtain ⟨_, c0, c1⟩ := D2.out (m, a, a') (by simp)
    obtain ⟨_, c2, c3⟩ := D2.out (m + 1, b, b') (by simp)
    go_wp2_with fail
    refine (C2.out _).mono ?_
    rintro e w4 ⟨rfl, hb⟩
    have D3 := Lib.hid (duos_al (x := x) (y := x') (t := 25) (duos_keep hb D2.out))
    have B4 := Lib.hid (below_growP (B3.out.trans (hb.mono B3.out.size)) (.cells #[.int .i64 x, .int .i64 x'] 25))
    clear hb c0 c1 c2 c3 D2 B3
    go_upto_region 8 with fail
    obtain ⟨W3, hW⟩ : ∃ W, W = w4.alloc (.cells #[.int .i64 x, .int .i64 x'] 25) := ⟨_, rfl⟩
    rw [← hW] at D3 B4 ⊢
    clear hW
    generalize w4.heap.size = m3 at D3 ⊢
    obtain ⟨_, c0, c1⟩ := D3.out (m, a, a') (by simp)
    obtain ⟨_, c2, c3⟩ := D3.out (m + 1, b, b') (by simp)
    go_wp2_with fail
    refine (C3.out _).mono ?_
    rintro e w4 ⟨rfl, hb⟩
    have D4 := Lib.hid (duos_al (x := f) (y := f') (t := 25) (duos_keep hb D3.out))
    have B5 := Lib.hid (below_growP (B4.out.trans (hb.mono B4.out.size)) (.cells #[.int .i64 f, .int .i64 f'] 25))
    clear hb c0 c1 c2 c3 D3 B4
    go_upto_region 9 with fail
    obtain ⟨W4, hW⟩ : ∃ W, W = w4.alloc (.cells #[.int .i64 f, .int .i64 f'] 25) := ⟨_, rfl⟩
    rw [← hW] at D4 B5 ⊢
    clear hW
    generalize w4.heap.size = m4 at D4 ⊢
    obtain ⟨_, c0, c1⟩ := D4.out (m, a, a') (by simp)
    obtain ⟨_, c2, c3⟩ := D4.out (m4, f, f') (by simp)
    go_wp2_with fail
    refine (C4.out _).mono ?_
    rintro e w4 ⟨rfl, hb⟩
    have D5 := Lib.hid (duos_al (x := 0) (y := 0) (t := 25) (duos_keep hb D4.out))
    have B6 := Lib.hid (below_growP (B5.out.trans (hb.mono B5.out.size)) (.cells #[.int .i64 0, .int .i64 0] 25))
    clear hb c0 c1 c2 c3 D4 B5
    go_upto_region 10 with fail
    obtain ⟨W5, hW⟩ : ∃ W, W = w4.alloc (.cells #[.int .i64 0, .int .i64 0] 25) := ⟨_, rfl⟩
    rw [← hW] at D5 B6 ⊢
    clear hW
    generalize w4.heap.size = m5 at D5 ⊢
    have r1 : (z == z) = true := by cases z <;> rfl
    have r2 : (x == x) = true := by simp
    have r3 : (x' == x') = true := by simp
    have r4 : (c == c) = true := by simp
    have r5 : (k == k) = true := by cases k <;> rfl
    obtain ⟨s1, s2, s3⟩ := KEY.out
    clear C1 C2 C3 C4
    refine wp_region_held_drew (S := (fun w' => ((w'.cell? ⟨m, 0, none⟩ = some (.int .i64 a) ∧ w'.cell? ⟨m, 1, none⟩ = some (.int .i64 a')) ∧ (w'.cell? ⟨m + 1, 0, none⟩ = some (.int .i64 b) ∧ w'.cell? ⟨m + 1, 1, none⟩ = some (.int .i64 b')) ∧ (w'.cell? ⟨m2, 0, none⟩ = some (.int .i64 x) ∧ w'.cell? ⟨m2, 1, none⟩ = some (.int .i64 x'))) ∧ (w'.cell? ⟨m3, 0, none⟩ = some (.int .i64 x) ∧ w'.cell? ⟨m3, 1, none⟩ = some (.int .i64 x')) ∧ (w'.cell? ⟨m4, 0, none⟩ = some (.int .i64 f) ∧ w'.cell? ⟨m4, 1, none⟩ = some (.int .i64 f')) ∧ w'.cell? ⟨m5, 0, none⟩ = some (.int .i64 0) ∧ w'.cell? ⟨m5, 1, none⟩ = some (.int .i64 0))) (by kernel_rfl) ?_ (fun hHeld => ?_)
    · exact duos_six (show Duos _ W5.drew from D5.out)
    refine takeD (i := 0) (d := (some 57)) (v := (.bool z)) rfl rfl (by kernel_rfl) (by kernel_rfl) (by kernel_rfl) (fun _ _ _ h => h) (Or.inl ⟨by kernel_rfl, ?_⟩) (by assumption) ?_
    · intro wS hSw
      (try dsimp only at hSw)
      go_simp
    (try simp only [Act.put]); (try simp only [List.setIfInBounds_toArray]); (try simp only [List.set_cons_succ]); (try simp only [List.set_cons_zero])
    refine takeD (i := 1) (d := (some 58)) (v := (.bool z)) rfl rfl (by kernel_rfl) (by kernel_rfl) (by kernel_rfl) (fun _ _ _ h => h) (Or.inl ⟨by kernel_rfl, ?_⟩) (by assumption) ?_
    · intro wS hSw
      (try dsimp only at hSw)
      go_simp
    (try simp only [Act.put]); (try simp only [List.setIfInBounds_toArray]); (try simp only [List.set_cons_succ]); (try simp only [List.set_cons_zero])
    refine takeD (i := 2) (d := (some 59)) (v := (.bool true)) rfl rfl (by kernel_rfl) (by kernel_rfl) (by kernel_rfl) (fun _ _ _ h => h) (Or.inl ⟨by kernel_rfl, ?_⟩) (by assumption) ?_
    · intro wS hSw
      (try dsimp only at hSw)
      go_simp
    (try simp only [Act.put]); (try simp only [List.setIfInBounds_toArray]); (try simp only [List.set_cons_succ]); (try simp only [List.set_cons_zero])
    refine takeD (i := 3) (d := (some 60)) (v := (.bool true)) rfl rfl (by kernel_rfl) (by kernel_rfl) (by kernel_rfl) (fun _ _ _ h => h) (Or.inl ⟨by kernel_rfl, ?_⟩) (by assumption) ?_
    · intro wS hSw
      (try dsimp only at hSw)
      go_simp
    (try simp only [Act.put]); (try simp only [List.setIfInBounds_toArray]); (try simp only [List.set_cons_succ]); (try simp only [List.set_cons_zero])
    refine takeD (i := 4) (d := (some 61)) (v := (pchV x x')) rfl rfl (by kernel_rfl) (by kernel_rfl) (by kernel_rfl) (fun _ _ _ h => h) (Or.inl ⟨by kernel_rfl, ?_⟩) (by assumption) ?_
    · intro wS hSw
      (try dsimp only at hSw)
      go_simp
    (try simp only [Act.put]); (try simp only [List.setIfInBounds_toArray]); (try simp only [List.set_cons_succ]); (try simp only [List.set_cons_zero])
    refine takeD (i := 5) (d := (some 62)) (v := (pchV x x')) rfl rfl (by kernel_rfl) (by kernel_rfl) (by kernel_rfl) (fun _ _ _ h => h) (Or.inl ⟨by kernel_rfl, ?_⟩) (by assumption) ?_
    · intro wS hSw
      (try dsimp only at hSw)
      go_simp
    (try simp only [Act.put]); (try simp only [List.setIfInBounds_toArray]); (try simp only [List.set_cons_succ]); (try simp only [List.set_cons_zero])
    refine takeD (i := 6) (d := (some 63)) (v := (.bool true)) rfl rfl (by kernel_rfl) (by kernel_rfl) (by kernel_rfl) (fun _ _ _ h => h) (Or.inl ⟨by kernel_rfl, ?_⟩) (by assumption) ?_
    · intro wS hSw
      (try dsimp only at hSw)
      go_simp
    (try simp only [Act.put]); (try simp only [List.setIfInBounds_toArray]); (try simp only [List.set_cons_succ]); (try simp only [List.set_cons_zero])
    refine takeD (i := 7) (d := (some 64)) (v := (.bool true)) rfl rfl (by kernel_rfl) (by kernel_rfl) (by kernel_rfl) (fun _ _ _ h => h) (Or.inl ⟨by kernel_rfl, ?_⟩) (by assumption) ?_
    · intro wS hSw
      (try dsimp only at hSw)
      go_simp
    (try simp only [Act.put]); (try simp only [List.setIfInBounds_toArray]); (try simp only [List.set_cons_succ]); (try simp only [List.set_cons_zero])
    refine takeD (i := 8) (d := (some 65)) (v := (.bool true)) rfl rfl (by kernel_rfl) (by kernel_rfl) (by kernel_rfl) (fun _ _ _ h => h) (Or.inl ⟨by kernel_rfl, ?_⟩) (by assumption) ?_
    · intro wS hSw
      (try dsimp only at hSw)
      go_simp
    (try simp only [Act.put]); (try simp only [List.setIfInBounds_toArray]); (try simp only [List.set_cons_succ]); (try simp only [List.set_cons_zero])
    refine takeD (i := 9) (d := (some 66)) (v := (.bool true)) rfl rfl (by kernel_rfl) (by kernel_rfl) (by kernel_rfl) (fun _ _ _ h => h) (Or.inl ⟨by kernel_rfl, ?_⟩) (by assumption) ?_
    · intro wS hSw
      (try dsimp only at hSw)
      go_simp
    (try simp only [Act.put]); (try simp only [List.setIfInBounds_toArray]); (try simp only [List.set_cons_succ]); (try simp only [List.set_cons_zero])
    refine takeD (i := 10) (d := (some 67)) (v := (.bool true)) rfl rfl (by kernel_rfl) (by kernel_rfl) (by kernel_rfl) (fun _ _ _ h => h) (Or.inl ⟨by kernel_rfl, ?_⟩) (by assumption) ?_
    · intro wS hSw
      (try dsimp only at hSw)
      go_simp
    (try simp only [Act.put]); (try simp only [List.setIfInBounds_toArray]); (try simp only [List.set_cons_succ]); (try simp only [List.set_cons_zero])
    refine takeD (i := 11) (d := (some 68)) (v := (.bool true)) rfl rfl (by kernel_rfl) (by kernel_rfl) (by kernel_rfl) (fun _ _ _ h => h) (Or.inl ⟨by kernel_rfl, ?_⟩) (by assumption) ?_
    · intro wS hSw
      (try dsimp only at hSw)
      go_simp
    (try simp only [Act.put]); (try simp only [List.setIfInBounds_toArray]); (try simp only [List.set_cons_succ]); (try simp only [List.set_cons_zero])
    refine takeD (i := 12) (d := (some 69)) (v := (.bool true)) rfl rfl (by kernel_rfl) (by kernel_rfl) (by kernel_rfl) (fun _ _ _ h => h) (Or.inl ⟨by kernel_rfl, ?_⟩) (by assumption) ?_
    · intro wS hSw
      (try dsimp only at hSw)
      go_simp
    (try simp only [Act.put]); (try simp only [List.setIfInBounds_toArray]); (try simp only [List.set_cons_succ]); (try simp only [List.set_cons_zero])
    refine takeD (i := 13) (d := (some 70)) (v := (.bool true)) rfl rfl (by kernel_rfl) (by kernel_rfl) (by kernel_rfl) (fun _ _ _ h => h) (Or.inl ⟨by kernel_rfl, ?_⟩) (by assumption) ?_
    · intro wS hSw
      (try dsimp only at hSw)
      go_simp
    (try simp only [Act.put]); (try simp only [List.setIfInBounds_toArray]); (try simp only [List.set_cons_succ]); (try simp only [List.set_cons_zero])
    refine takeD (i := 14) (d := (some 71)) (v := (.bool true)) rfl rfl (by kernel_rfl) (by kernel_rfl) (by kernel_rfl) (fun _ _ _ h => h) (Or.inl ⟨by kernel_rfl, ?_⟩) (by assumption) ?_
    · intro wS hSw
      (try dsimp only at hSw)
      go_simp
    (try simp only [Act.put]); (try simp only [List.setIfInBounds_toArray]); (try simp only [List.set_cons_succ]); (try simp only [List.set_cons_zero])
    refine takeD (i := 15) (d := (some 72)) (v := (pchV 0 0)) rfl rfl (by kernel_rfl) (by kernel_rfl) (by kernel_rfl) (fun _ _ _ h => h) (Or.inl ⟨by kernel_rfl, ?_⟩) (by assumption) ?_
    · intro wS hSw
      (try dsimp only at hSw)
      go_simp
    (try simp only [Act.put]); (try simp only [List.setIfInBounds_toArray]); (try simp only [List.set_cons_succ]); (try simp only [List.set_cons_zero])
    refine takeD (i := 16) (d := (some 73)) (v := (pchV 0 0)) rfl rfl (by kernel_rfl) (by kernel_rfl) (by kernel_rfl) (fun _ _ _ h => h) (Or.inl ⟨by kernel_rfl, ?_⟩) (by assumption) ?_
    · intro wS hSw
      (try dsimp only at hSw)
      go_simp
    (try simp only [Act.put]); (try simp only [List.setIfInBounds_toArray]); (try simp only [List.set_cons_succ]); (try simp only [List.set_cons_zero])
    refine takeD (i := 17) (d := (some 74)) (v := (.bool true)) rfl rfl (by kernel_rfl) (by kernel_rfl) (by kernel_rfl) (fun _ _ _ h => h) (Or.inl ⟨by kernel_rfl, ?_⟩) (by assumption) ?_
    · intro wS hSw
      (try dsimp only at hSw)
      go_simp
    (try simp only [Act.put]); (try simp only [List.setIfInBounds_toArray]); (try simp only [List.set_cons_succ]); (try simp only [List.set_cons_zero])
    refine takeD (i := 18) (d := (some 75)) (v := (.bool true)) rfl rfl (by kernel_rfl) (by kernel_rfl) (by kernel_rfl) (fun _ _ _ h => h) (Or.inl ⟨by kernel_rfl, ?_⟩) (by assumption) ?_
    · intro wS hSw
      (try dsimp only at hSw)
      go_simp
    (try simp only [Act.put]); (try simp only [List.setIfInBounds_toArray]); (try simp only [List.set_cons_succ]); (try simp only [List.set_cons_zero])
    refine takeD (i := 19) (d := (some 76)) (v := (.bool true)) rfl rfl (by kernel_rfl) (by kernel_rfl) (by kernel_rfl) (fun _ _ _ h => h) (Or.inl ⟨by kernel_rfl, ?_⟩) (by assumption) ?_
    · intro wS hSw
      (try dsimp only at hSw)
      go_simp
    (try simp only [Act.put]); (try simp only [List.setIfInBounds_toArray]); (try simp only [List.set_cons_succ]); (try simp only [List.set_cons_zero])
    refine takeD (i := 20) (d := (some 77)) (v := (pchV a a')) rfl rfl (by kernel_rfl) (by kernel_rfl) (by kernel_rfl) (fun _ _ _ h => h) (Or.inl ⟨by kernel_rfl, ?_⟩) (by assumption) ?_
    · intro wS hSw
      (try dsimp only at hSw)
      go_simp
    (try simp only [Act.put]); (try simp only [List.setIfInBounds_toArray]); (try simp only [List.set_cons_succ]); (try simp only [List.set_cons_zero])
    refine takeD (i := 21) (d := (some 78)) (v := (pchV f f')) rfl rfl (by kernel_rfl) (by kernel_rfl) (by kernel_rfl) (fun _ _ _ h => h) (Or.inl ⟨by kernel_rfl, ?_⟩) (by assumption) ?_
    · intro wS hSw
      (try dsimp only at hSw)
      go_simp
    (try simp only [Act.put]); (try simp only [List.setIfInBounds_toArray]); (try simp only [List.set_cons_succ]); (try simp only [List.set_cons_zero])
    refine wpAnyH_ready (rs := [22]) (by kernel_rfl) (by simp) ?_
    refine AllReadyH.cons rfl (fun K hK => ?_) AllReadyH.nil
    go_simp
    refine (ans_from (Q1.out _) (Below.refl _ _).drew).mono ?_
    rintro e1 w1 ⟨rfl, hb⟩
    go_wp2_with fail
    refine hK.out _ _ ?_ (fun hHeld => ?_)
    · exact duos_six (duos_keep hb D5.out)
    clear hK K
    (try simp only [Act.put]); (try simp only [List.setIfInBounds_toArray]); (try simp only [List.set_cons_succ]); (try simp only [List.set_cons_zero])
    refine takeD (i := 23) (d := (some 80)) (v := (.bool true)) rfl rfl (by kernel_rfl) (by kernel_rfl) (by kernel_rfl) (fun _ _ _ h => h) (Or.inl ⟨by kernel_rfl, ?_⟩) (by assumption) ?_
    · intro wS hSw
      (try dsimp only at hSw)
      go_simp
    (try simp only [Act.put]); (try simp only [List.setIfInBounds_toArray]); (try simp only [List.set_cons_succ]); (try simp only [List.set_cons_zero])
    refine takeD (i := 24) (d := (some 81)) (v := (.bool true)) rfl rfl (by kernel_rfl) (by kernel_rfl) (by kernel_rfl) (fun _ _ _ h => h) (Or.inl ⟨by kernel_rfl, ?_⟩) (by assumption) ?_
    · intro wS hSw
      (try dsimp only at hSw)
      go_simp
    (try simp only [Act.put]); (try simp only [List.setIfInBounds_toArray]); (try simp only [List.set_cons_succ]); (try simp only [List.set_cons_zero])
    refine takeD (i := 25) (d := (some 82)) (v := (.bool true)) rfl rfl (by kernel_rfl) (by kernel_rfl) (by kernel_rfl) (fun _ _ _ h => h) (Or.inl ⟨by kernel_rfl, ?_⟩) (by assumption) ?_
    · intro wS hSw
      (try dsimp only at hSw)
      go_simp
    (try simp only [Act.put]); (try simp only [List.setIfInBounds_toArray]); (try simp only [List.set_cons_succ]); (try simp only [List.set_cons_zero])
    refine takeD (i := 26) (d := (some 83)) (v := (pchV a a')) rfl rfl (by kernel_rfl) (by kernel_rfl) (by kernel_rfl) (fun _ _ _ h => h) (Or.inl ⟨by kernel_rfl, ?_⟩) (by assumption) ?_
    · intro wS hSw
      (try dsimp only at hSw)
      go_simp
    (try simp only [Act.put]); (try simp only [List.setIfInBounds_toArray]); (try simp only [List.set_cons_succ]); (try simp only [List.set_cons_zero])
    refine takeD (i := 27) (d := (some 84)) (v := (pchV b b')) rfl rfl (by kernel_rfl) (by kernel_rfl) (by kernel_rfl) (fun _ _ _ h => h) (Or.inl ⟨by kernel_rfl, ?_⟩) (by assumption) ?_
    · intro wS hSw
      (try dsimp only at hSw)
      go_simp
    (try simp only [Act.put]); (try simp only [List.setIfInBounds_toArray]); (try simp only [List.set_cons_succ]); (try simp only [List.set_cons_zero])
    refine takeD (i := 29) (d := (some 86)) (v := (pchV b b')) rfl rfl (by kernel_rfl) (by kernel_rfl) (by kernel_rfl) (fun _ _ _ h => h) (Or.inl ⟨by kernel_rfl, ?_⟩) (by assumption) ?_
    · intro wS hSw
      (try dsimp only at hSw)
      go_simp
    (try simp only [Act.put]); (try simp only [List.setIfInBounds_toArray]); (try simp only [List.set_cons_succ]); (try simp only [List.set_cons_zero])
    refine takeD (i := 30) (d := (some 87)) (v := (pchV a a')) rfl rfl (by kernel_rfl) (by kernel_rfl) (by kernel_rfl) (fun _ _ _ h => h) (Or.inl ⟨by kernel_rfl, ?_⟩) (by assumption) ?_
    · intro wS hSw
      (try dsimp only at hSw)
      go_simp
    (try simp only [Act.put]); (try simp only [List.setIfInBounds_toArray]); (try simp only [List.set_cons_succ]); (try simp only [List.set_cons_zero])
    refine wpAnyH_ready (rs := [28]) (by kernel_rfl) (by simp) ?_
    refine AllReadyH.cons rfl (fun K hK => ?_) AllReadyH.nil
    go_simp
    refine (ans_from (Q2.out _) hb).mono ?_
    rintro e1 w1 ⟨rfl, hb⟩
    go_wp2_with fail
    refine hK.out _ _ ?_ (fun hHeld => ?_)
    · exact duos_six (duos_keep hb D5.out)
    clear hK K
    (try simp only [Act.put]); (try simp only [List.setIfInBounds_toArray]); (try simp only [List.set_cons_succ]); (try simp only [List.set_cons_zero])
    refine wpAnyH_ready (rs := [31]) (by kernel_rfl) (by simp) ?_
    refine AllReadyH.cons rfl (fun K hK => ?_) AllReadyH.nil
    go_simp
    refine (ans_from (Q3.out _) hb).mono ?_
    rintro e1 w1 ⟨rfl, hb⟩
    go_wp2_with fail
    refine hK.out _ _ ?_ (fun hHeld => ?_)
    · exact duos_six (duos_keep hb D5.out)
    clear hK K
    (try simp only [Act.put]); (try simp only [List.setIfInBounds_toArray]); (try simp only [List.set_cons_succ]); (try simp only [List.set_cons_zero])
    refine takeD (i := 32) (d := (some 89)) (v := (.int .i64 c)) rfl rfl (by kernel_rfl) (by kernel_rfl) (by kernel_rfl) (fun _ _ _ h => h) (Or.inl ⟨by kernel_rfl, ?_⟩) (by assumption) ?_
    · intro wS hSw
      (try dsimp only at hSw)
      go_simp
    (try simp only [Act.put]); (try simp only [List.setIfInBounds_toArray]); (try simp only [List.set_cons_succ]); (try simp only [List.set_cons_zero])
    refine takeD (i := 33) (d := (some 90)) (v := (.bool true)) rfl rfl (by kernel_rfl) (by kernel_rfl) (by kernel_rfl) (fun _ _ _ h => h) (Or.inl ⟨by kernel_rfl, ?_⟩) (by assumption) ?_
    · intro wS hSw
      (try dsimp only at hSw)
      go_simp
    (try simp only [Act.put]); (try simp only [List.setIfInBounds_toArray]); (try simp only [List.set_cons_succ]); (try simp only [List.set_cons_zero])
    refine takeD (i := 34) (d := (some 91)) (v := (.bool true)) rfl rfl (by kernel_rfl) (by kernel_rfl) (by kernel_rfl) (fun _ _ _ h => h) (Or.inl ⟨by kernel_rfl, ?_⟩) (by assumption) ?_
    · intro wS hSw
      (try dsimp only at hSw)
      go_simp
    (try simp only [Act.put]); (try simp only [List.setIfInBounds_toArray]); (try simp only [List.set_cons_succ]); (try simp only [List.set_cons_zero])
    refine takeD (i := 35) (d := (some 92)) (v := (.bool true)) rfl rfl (by kernel_rfl) (by kernel_rfl) (by kernel_rfl) (fun _ _ _ h => h) (Or.inl ⟨by kernel_rfl, ?_⟩) (by assumption) ?_
    · intro wS hSw
      (try dsimp only at hSw)
      go_simp
    (try simp only [Act.put]); (try simp only [List.setIfInBounds_toArray]); (try simp only [List.set_cons_succ]); (try simp only [List.set_cons_zero])
    refine takeD (i := 36) (d := (some 93)) (v := (pchV a a')) rfl rfl (by kernel_rfl) (by kernel_rfl) (by kernel_rfl) (fun _ _ _ h => h) (Or.inl ⟨by kernel_rfl, ?_⟩) (by assumption) ?_
    · intro wS hSw
      (try dsimp only at hSw)
      go_simp
    (try simp only [Act.put]); (try simp only [List.setIfInBounds_toArray]); (try simp only [List.set_cons_succ]); (try simp only [List.set_cons_zero])
    refine takeD (i := 37) (d := (some 94)) (v := (pchV b b')) rfl rfl (by kernel_rfl) (by kernel_rfl) (by kernel_rfl) (fun _ _ _ h => h) (Or.inl ⟨by kernel_rfl, ?_⟩) (by assumption) ?_
    · intro wS hSw
      (try dsimp only at hSw)
      go_simp
    (try simp only [Act.put]); (try simp only [List.setIfInBounds_toArray]); (try simp only [List.set_cons_succ]); (try simp only [List.set_cons_zero])
    refine takeD (i := 40) (d := (some 97)) (v := (pchV a a')) rfl rfl (by kernel_rfl) (by kernel_rfl) (by kernel_rfl) (fun _ _ _ h => h) (Or.inl ⟨by kernel_rfl, ?_⟩) (by assumption) ?_
    · intro wS hSw
      (try dsimp only at hSw)
      go_simp
    (try simp only [Act.put]); (try simp only [List.setIfInBounds_toArray]); (try simp only [List.set_cons_succ]); (try simp only [List.set_cons_zero])
    refine takeD (i := 41) (d := (some 98)) (v := (pchV b b')) rfl rfl (by kernel_rfl) (by kernel_rfl) (by kernel_rfl) (fun _ _ _ h => h) (Or.inl ⟨by kernel_rfl, ?_⟩) (by assumption) ?_
    · intro wS hSw
      (try dsimp only at hSw)
      go_simp
    (try simp only [Act.put]); (try simp only [List.setIfInBounds_toArray]); (try simp only [List.set_cons_succ]); (try simp only [List.set_cons_zero])
    refine takeD (i := 42) (d := (some 99)) (v := (.bool k)) rfl rfl (by kernel_rfl) (by kernel_rfl) (by kernel_rfl) (fun _ _ _ h => h) (Or.inl ⟨by kernel_rfl, ?_⟩) (by assumption) ?_
    · intro wS hSw
      (try dsimp only at hSw)
      go_simp
      (rw [← s2]; by_cases q1 : a = b <;> by_cases q2 : a' = b' <;> simp [q1, q2])
    (try simp only [Act.put]); (try simp only [List.setIfInBounds_toArray]); (try simp only [List.set_cons_succ]); (try simp only [List.set_cons_zero])
    refine wpAnyH_ready (rs := [38]) (by kernel_rfl) (by simp) ?_
    refine AllReadyH.cons rfl (fun K hK => ?_) AllReadyH.nil
    go_simp
    refine (ans_from (Q2.out _) hb).mono ?_
    rintro e1 w1 ⟨rfl, hb⟩
    go_wp2_with fail
    refine hK.out _ _ ?_ (fun hHeld => ?_)
    · exact duos_six (duos_keep hb D5.out)
    clear hK K
    (try simp only [Act.put]); (try simp only [List.setIfInBounds_toArray]); (try simp only [List.set_cons_succ]); (try simp only [List.set_cons_zero])
    refine takeD (i := 39) (d := (some 96)) (v := (.bool k)) rfl rfl (by kernel_rfl) (by kernel_rfl) (by kernel_rfl) (fun _ _ _ h => h) (Or.inl ⟨by kernel_rfl, ?_⟩) (by assumption) ?_
    · intro wS hSw
      (try dsimp only at hSw)
      go_simp
    (try simp only [Act.put]); (try simp only [List.setIfInBounds_toArray]); (try simp only [List.set_cons_succ]); (try simp only [List.set_cons_zero])
    refine takeD (i := 43) (d := (some 100)) (v := (.bool true)) rfl rfl (by kernel_rfl) (by kernel_rfl) (by kernel_rfl) (fun _ _ _ h => h) (Or.inl ⟨by kernel_rfl, ?_⟩) (by assumption) ?_
    · intro wS hSw
      (try dsimp only at hSw)
      go_simp
    (try simp only [Act.put]); (try simp only [List.setIfInBounds_toArray]); (try simp only [List.set_cons_succ]); (try simp only [List.set_cons_zero])
    refine takeD (i := 44) (d := (some 101)) (v := (.bool true)) rfl rfl (by kernel_rfl) (by kernel_rfl) (by kernel_rfl) (fun _ _ _ h => h) (Or.inl ⟨by kernel_rfl, ?_⟩) (by assumption) ?_
    · intro wS hSw
      (try dsimp only at hSw)
      go_simp
    (try simp only [Act.put]); (try simp only [List.setIfInBounds_toArray]); (try simp only [List.set_cons_succ]); (try simp only [List.set_cons_zero])
    refine takeD (i := 45) (d := (some 102)) (v := (.bool true)) rfl rfl (by kernel_rfl) (by kernel_rfl) (by kernel_rfl) (fun _ _ _ h => h) (Or.inl ⟨by kernel_rfl, ?_⟩) (by assumption) ?_
    · intro wS hSw
      (try dsimp only at hSw)
      go_simp
    (try simp only [Act.put]); (try simp only [List.setIfInBounds_toArray]); (try simp only [List.set_cons_succ]); (try simp only [List.set_cons_zero])
    refine takeD (i := 46) (d := (some 103)) (v := (pchV f f')) rfl rfl (by kernel_rfl) (by kernel_rfl) (by kernel_rfl) (fun _ _ _ h => h) (Or.inl ⟨by kernel_rfl, ?_⟩) (by assumption) ?_
    · intro wS hSw
      (try dsimp only at hSw)
      go_simp
    (try simp only [Act.put]); (try simp only [List.setIfInBounds_toArray]); (try simp only [List.set_cons_succ]); (try simp only [List.set_cons_zero])
    refine wpAnyH_ready (rs := [47]) (by kernel_rfl) (by simp) ?_
    refine AllReadyH.cons rfl (fun K hK => ?_) AllReadyH.nil
    go_simp
    refine (ans_from (Q4.out _) hb).mono ?_
    rintro e1 w1 ⟨rfl, hb⟩
    go_wp2_with fail
    refine hK.out _ _ ?_ (fun hHeld => ?_)
    · exact duos_six (duos_keep hb D5.out)
    clear hK K
    (try simp only [Act.put]); (try simp only [List.setIfInBounds_toArray]); (try simp only [List.set_cons_succ]); (try simp only [List.set_cons_zero])
    refine takeD (i := 48) (d := (some 105)) (v := (.bool true)) rfl rfl (by kernel_rfl) (by kernel_rfl) (by kernel_rfl) (fun _ _ _ h => h) (Or.inl ⟨by kernel_rfl, ?_⟩) (by assumption) ?_
    · intro wS hSw
      (try dsimp only at hSw)
      go_simp
    (try simp only [Act.put]); (try simp only [List.setIfInBounds_toArray]); (try simp only [List.set_cons_succ]); (try simp only [List.set_cons_zero])
    refine takeD (i := 49) (d := (some 2)) (v := (.bool true)) rfl rfl (by kernel_rfl) (by kernel_rfl) (by kernel_rfl) (fun _ _ _ h => h) (Or.inl ⟨by kernel_rfl, ?_⟩) (by assumption) ?_
    · intro wS hSw
      (try dsimp only at hSw)
      go_simp
    (try simp only [Act.put]); (try simp only [List.setIfInBounds_toArray]); (try simp only [List.set_cons_succ]); (try simp only [List.set_cons_zero])
    refine wpAnyH_done (by kernel_rfl) ?_ _
    go_wp2_with fail
    go_ret
    exact ⟨rfl, B6.out.trans (hb.mono B6.out.size)⟩
end Go.Proofs.Ytgoaofkbegfinaa
