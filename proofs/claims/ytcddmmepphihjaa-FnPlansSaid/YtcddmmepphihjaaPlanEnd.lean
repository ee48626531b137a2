/- Contracts of impl.RunPlan, UsualPlan and ClosingBeats; the walks of the six laws of P19 over the landed program. -/
import Derived.Test.YtcddmmepphihjaaPlanLoop
import Derived.Test.YtcddmmepphihjaaPlanLaw
import Derived.Test.YtcddmmepphihjaaUsualLaw
import Derived.Test.YtcddmmepphihjaaPlansLaw
namespace Go.Proofs.Ytcddmmepphihjaa
open Go.RowKit Go.Joins
set_option linter.unusedVariables false
set_option linter.unusedSimpArgs false
set_option maxHeartbeats 1000000 in
theorem usualKind_at {k : Nat} {u : Int} (h : k < 11) (hu : usK k = u) (w : World) : Calls Try.prog 46 #[.int .i64 (k : Int)] w fun e w' => e = .returned (.int .i64 u) ∧ w = w' := by
  subst hu
  rcases (show k = 0 ∨ k = 1 ∨ k = 2 ∨ k = 3 ∨ k = 4 ∨ k = 5 ∨ k = 6 ∨ k = 7 ∨ k = 8 ∨ k = 9 ∨ k = 10 from by omega) with rfl | rfl | rfl | rfl | rfl | rfl | rfl | rfl | rfl | rfl | rfl
  all_goals
    clear h
    go_enter Try.func46, Try.ntmps46
    go_wp2_with fail
    go_ret
    exact ⟨rfl, rfl⟩
theorem usTo_at (b : Int) {k : Nat} (h : k < 11) : ivAt (usTo b 11) k = ⟨(k : Int), (k : Int) + 1, usK k, b⟩ := by simp [ivAt, usTo, h]
set_option maxRecDepth 100000 in
set_option maxHeartbeats 4000000 in
theorem usual_impl : UsualImpl := by
  intro b w
  obtain ⟨i0, hi, hz0, hz1, hz2⟩ := info_parts4 infoSt
  by_cases hb0 : b < 0
  · have R := Lib.hid (show usL b = [] from if_neg (fun q => by omega))
    go_enter Try.func20, Try.ntmps20
    go_wp2_with fail
    go_ret
    exact ⟨_, rfl, by rw [R.out]; exact World.ownsRow_nil _ _ _ _, Below.refl _ _⟩
  · by_cases hb1 : b > 5000
    · have R := Lib.hid (show usL b = [] from if_neg (fun q => by omega))
      go_enter Try.func20, Try.ntmps20
      go_wp2_with fail
      go_ret
      exact ⟨_, rfl, by rw [R.out]; exact World.ownsRow_nil _ _ _ _, Below.refl _ _⟩
    · have R := Lib.hid (show usL b = usTo b 11 from if_pos (by omega))
      have HL := Lib.hid (usTo_len b 11)
      go_enter Try.func20, Try.ntmps20
      go_wp2_with (at_make; refine wpList_make_full _ rfl _ _ 28 rfl w.heap.size 36 i0 (ivV 0 0 0 0) 4 Try.underlying28 hi hz0 hz1 _ _ _ _ 11 rfl rfl rfl rfl (by rw [hz2]; omega) (by unfold maxLen; omega) (Nat.le_refl _) ?_; intro w1 hown1 hgrow1)
      go_loopw [14] (fun i wr => ∃ k : Nat, k ≤ 11 ∧ i = .int .i64 k ∧ wr.ownsRow w.heap.size 36 4 (.slice (some ⟨w.heap.size, 0, none⟩) 11 11) 11 (ivCs (copiedIv (usTo b 11) k 11)) ∧ Below w.heap.size w wr) (fun i _ => 11 - (intOf i).toNat)
      case atStart =>
        refine ⟨0, Nat.zero_le _, rfl, ?_, (Below.refl _ _).grown hgrow1 (Nat.le_refl _) (by simp)⟩
        rw [show copiedIv (usTo b 11) 0 11 = List.replicate 11 ⟨0, 0, 0, 0⟩ from by simp [copiedIv], ivCs_rep, ← made4]
        exact hown1
      case round =>
        obtain ⟨k, hk, rfl, hown, hb⟩ := hrel
        clear hown1 hgrow1
        by_cases hlt : k < 11
        · have q3 : (k : Int) < 11 := by omega
          have k0 : 0 ≤ (k : Int) := by omega
          obtain ⟨u, hu⟩ : ∃ u, usK k = u := ⟨_, rfl⟩
          have UK := Lib.hid (fun w => usualKind_at hlt hu w)
          obtain ⟨X, hX⟩ : ∃ X : Iv, X = ⟨(k : Int), (k : Int) + 1, u, b⟩ := ⟨_, rfl⟩
          have HXX : Hid (ivAt (usTo b 11) k = X) := Lib.hid (by rw [hX, ← hu]; exact usTo_at b hlt)
          have hcl : (copiedIv (usTo b 11) k 11).length = 11 := copiedIv_len (usTo b 11) k 11 (by omega) HL.out
          obtain ⟨c0, c1, c2, c3⟩ := own_iv hown hcl.symm k hlt
          have f0 := hown.frozenAt (k * 4)
          have f1 := hown.frozenAt (k * 4 + 1)
          have f2 := hown.frozenAt (k * 4 + 2)
          have f3 := hown.frozenAt (k * 4 + 3)
          have R1 := ((((hown.stored (k * 4) (.int .i64 X.two)).1.stored (k * 4 + 1) (.int .i64 X.three)).1.stored (k * 4 + 2) (.int .i64 X.five)).1.stored (k * 4 + 3) (.int .i64 X.root)).1
          rw [ivCs_set _ k X (by omega)] at R1
          have R3 : Hid ((copiedIv (usTo b 11) k 11).set k X = copiedIv (usTo b 11) (k + 1) 11) := Lib.hid (by rw [← HXX.out]; exact copiedIv_set (usTo b 11) k 11 hlt HL.out)
          rw [R3.out] at R1
          have R2 := (((hb.setCell (p := ⟨w.heap.size, k * 4, none⟩) (Nat.le_refl _) (.int .i64 X.two)).setCell (p := ⟨w.heap.size, k * 4 + 1, none⟩) (Nat.le_refl _) (.int .i64 X.three)).setCell (p := ⟨w.heap.size, k * 4 + 2, none⟩) (Nat.le_refl _) (.int .i64 X.five)).setCell (p := ⟨w.heap.size, k * 4 + 3, none⟩) (Nat.le_refl _) (.int .i64 X.root)
          generalize ivAt (copiedIv (usTo b 11) k 11) k = Y at c0 c1 c2 c3
          rw [hX] at R1 R2
          dsimp only at R1 R2
          have S1 := Lib.hid R1
          have S2 := Lib.hid R2
          clear hown hb hcl R3 HXX hX hu R1 R2 X
          go_wp2_with fail
          refine (UK.out _).mono ?_
          rintro e1 w2 ⟨rfl, rfl⟩
          go_wp2_with fail
          go_roundw
          case rel => exact ⟨k + 1, by omega, by go_num, S1.out, S2.out⟩
          case measure => simp [intOf]; omega
        · obtain rfl : k = 11 := by omega
          have S1 : Hid (wr.ownsRow w.heap.size 36 4 (.slice (some ⟨w.heap.size, 0, none⟩) 11 11) (usL b).length (ivCs (usL b))) := Lib.hid (by
            have e : copiedIv (usTo b 11) 11 11 = usTo b 11 := by simp [copiedIv, List.take_of_length_le (Nat.le_of_eq HL.out)]
            rw [e] at hown
            rw [R.out, HL.out]
            exact hown)
          have B1 := Lib.hid hb
          clear hown hb
          go_wp2_with fail
          go_ret
          exact ⟨_, rfl, S1.out, B1.out⟩
theorem keep_run {W w4 : World} {m g k : Nat} {a t kd bt P : Int} (hF : Four m a t kd bt W) (hC : W.cell? ⟨g, k, none⟩ = some (.int .i64 P)) (hb : Below W.drew.heap.size W.drew w4) : w4.cell? ⟨m, 0, none⟩ = some (.int .i64 a) ∧ w4.cell? ⟨m, 2, none⟩ = some (.int .i64 kd) ∧ w4.cell? ⟨m, 3, none⟩ = some (.int .i64 bt) ∧ w4.cell? ⟨g, k, none⟩ = some (.int .i64 P) := by
  have h := four_keep hb (four_drewF hF)
  exact ⟨h.2.1, h.2.2.2.1, h.2.2.2.2, (hb.cell (p := ⟨g, k, none⟩) (show g < W.heap.size from World.block_lt_of_cell? _ _ hC)).trans hC⟩
set_option maxRecDepth 100000 in
set_option maxHeartbeats 8000000 in
theorem run_impl : RunImpl := by
  intro s w b v xs hl h
  obtain ⟨i0, hif, hz0, hz1, hz2⟩ := info_parts infoInt
  have PK := Lib.hid (planOk_impl w b v xs hl h)
  obtain ⟨n, hn⟩ : ∃ n, n = xs.length := ⟨_, rfl⟩
  have HN := Lib.hid hn
  rw [← hn] at h hl
  have HO := Lib.hid h
  have hs : ∃ p c, v = .slice p n c := by
    rcases own4_shape h with ⟨q, q'⟩ | ⟨g, cap, q, _⟩
    · exact ⟨none, 0, by rw [q, q']⟩
    · exact ⟨_, _, q⟩
  obtain ⟨p, c, rfl⟩ := hs
  clear h hn
  by_cases h1 : PlOk xs
  · rw [show planB xs = true from decide_eq_true h1] at PK
    by_cases h2 : FineOk s
    · have H2 := Lib.hid (decide_eq_true h2)
      have HP := Lib.hid h1
      have HF := Lib.hid h2
      have hn11 : n ≤ 11 := by have := h1.1; have := HN.out; omega
      clear h1 h2
      go_enter Try.func17, Try.ntmps17
      go_wp2_with fail
      refine PK.out.mono ?_
      rintro e1 w1 ⟨rfl, b1⟩
      go_wp2_with fail
      refine (fineI_at H2.out _).mono ?_
      rintro e1 w2 ⟨rfl, rfl⟩
      have B1 := Lib.hid b1
      have hsz := b1.size
      clear b1
      go_wp2_with (at_make; refine wpList_make_full _ rfl _ _ 31 rfl w.heap.size 3 i0 (.int .i64 0) 1 Try.underlying31 hif hz0 hz1 _ _ _ _ 12 rfl rfl rfl rfl (by rw [hz2]; omega) (by unfold maxLen; omega) hsz ?_; intro w3 hown1 hgrow1; obtain ⟨⟨q0, f0⟩, hown2, hb2⟩ := pit_start (s := s) (xs := xs) hsz hown1 (B1.out.grown hgrow1 hsz (by simp)))
      obtain ⟨g, hg⟩ : ∃ g, g = w1.heap.size := ⟨_, rfl⟩
      obtain ⟨W0, hW0⟩ : ∃ W, W = w3.setCell ⟨w1.heap.size, 0, none⟩ (.int .i64 s) := ⟨_, rfl⟩
      rw [← hW0] at hown2 hb2 ⊢
      have O0 : Hid (W0.ownsRow w.heap.size 3 1 (.slice (some ⟨g, 0, none⟩) 12 12) 12 (intCs (pitL s xs 0))) := Lib.hid (by rw [hg]; exact hown2)
      have B0 := Lib.hid hb2
      rw [← hg]
      have HGG := Lib.hid (show w.heap.size ≤ g by omega)
      clear hW0 hown1 hgrow1 q0 f0 hown2 hb2 hg B1 hsz
      go_loopw [24] (fun i wr => ∃ k : Nat, k ≤ n ∧ i = .int .i64 (k : Int) ∧ Hid (∀ j, j < k → pitK s xs (j + 1) ≠ 0) ∧ Hid (wr.ownsRow w.heap.size 3 1 (.slice (some ⟨g, 0, none⟩) 12 12) 12 (intCs (pitL s xs k))) ∧ Hid (Below w.heap.size w wr)) (fun i _ => n - (intOf i).toNat)
      case atStart => exact ⟨0, Nat.zero_le _, rfl, Lib.hid (fun j hj => by omega), O0, B0⟩
      case round =>
        obtain ⟨k, hk, rfl, HA, HT, HB⟩ := hrel
        by_cases hlt : k < n
        · have q3 : (k : Int) < n := by omega
          obtain ⟨gx, cx, hgx, _, lgx⟩ := own4_pos HO.out (by omega)
          simp only [Value.slice.injEq, true_and] at hgx
          obtain ⟨rfl, rfl⟩ := hgx
          have r1 := own_iv (own4_below HO.out HB.out) HN.out k hlt
          obtain ⟨kd, bt, hX, hkd, hbt⟩ := good_step HP.out (k := k) (by have := HN.out; omega)
          rw [hX] at r1
          obtain ⟨x0, x1, x2, x3⟩ := r1
          dsimp only at x0 x1 x2 x3
          have hQ : pitK s xs (k + 1) = tunV (pitK s xs k) kd bt := by show tunV _ _ _ = _; rw [hX]
          obtain ⟨P, hP⟩ : ∃ P, P = pitK s xs k := ⟨_, rfl⟩
          obtain ⟨Q, hQQ⟩ : ∃ Q, Q = pitK s xs (k + 1) := ⟨_, rfl⟩
          have TN : Hid (∀ X, Calls Try.prog 13 #[.int .i64 P, .int .i64 kd, .int .i64 bt] X fun e w' => e = .returned (.int .i64 Q) ∧ Below X.heap.size X w') := Lib.hid (fun X => by rw [hQQ, hQ, hP]; exact tun_impl _ _ _ X)
          have HQ := Lib.hid hQQ
          have HPP := Lib.hid hP
          have HLT := Lib.hid hlt
          have k12 : (k : Int) < 12 := by omega
          have k0 : 0 ≤ (k : Int) := by omega
          obtain ⟨T, hT⟩ : ∃ T : Nat, T = k + 1 := ⟨_, rfl⟩
          have x1' : wr.cell? ⟨gx, k * 4 + 1, none⟩ = some (.int .i64 (T : Int)) := by rw [x1, hT]; push_cast; rfl
          clear x1
          have HTT := Lib.hid hT
          have t1 : 0 ≤ (T : Int) := by omega
          have t2 : (T : Int) < 12 := by omega
          clear hlt hX hQ hP hQQ hkd hbt lgx O0 B0 hT
          go_upto_region 8 with fail
          obtain ⟨W1, hW1⟩ : ∃ W, W = wr.alloc (.cells #[.int .i64 (k : Int), .int .i64 (T : Int), .int .i64 kd, .int .i64 bt] 36) := ⟨_, rfl⟩
          have BA : Hid (Below w.heap.size w W1) := Lib.hid (by rw [hW1]; exact HB.out.alloc HB.out.size _)
          have HT1 : Hid (W1.ownsRow w.heap.size 3 1 (.slice (some ⟨g, 0, none⟩) 12 12) 12 (intCs (pitL s xs k))) := Lib.hid (by rw [hW1]; exact HT.out.alloc _)
          have F4 : Four wr.heap.size (k : Int) (T : Int) kd bt W1 := by rw [hW1]; exact four_alloc
          rw [← hW1]
          clear hW1 x0 x1' x2 x3
          generalize wr.heap.size = m1 at F4 ⊢
          have FF := Lib.hid F4
          clear F4
          have cP := own_icell HT1.out k (by omega)
          rw [pitL_at s xs k (by omega), if_pos (Nat.le_refl _), ← HPP.out] at cP
          have CP := Lib.hid cP
          clear cP
          go_region_held3 (fun w' => w'.cell? ⟨m1, 0, none⟩ = some (.int .i64 (k : Int)) ∧ w'.cell? ⟨m1, 2, none⟩ = some (.int .i64 kd) ∧ w'.cell? ⟨m1, 3, none⟩ = some (.int .i64 bt) ∧ w'.cell? ⟨g, k, none⟩ = some (.int .i64 P)) (with_reducible first | exact keep_run FF.out CP.out (Below.refl _ _) | exact keep_run FF.out CP.out (by assumption))
            (first
              | (go_at_call 13; refine (TN.out _).mono ?_; rintro e1 w4 ⟨rfl, hb⟩; obtain ⟨hc, hf⟩ := bcellT hb))
          obtain ⟨WD, hWD⟩ : ∃ W, W = W1.drew := ⟨_, rfl⟩
          have hb' : Below WD.heap.size WD w4 := by rw [hWD]; exact hb
          have HT2 : Hid (w4.ownsRow w.heap.size 3 1 (.slice (some ⟨g, 0, none⟩) 12 12) 12 (intCs (pitL s xs k))) := Lib.hid (own_below (show WD.ownsRow w.heap.size 3 1 _ 12 (intCs (pitL s xs k)) from by rw [hWD]; exact HT1.out) hb')
          have BD : Hid (Below w.heap.size w WD) := Lib.hid (by rw [hWD]; exact BA.out.drew)
          have HB1 : Hid (Below w.heap.size w w4) := Lib.hid (BD.out.trans (hb'.mono BD.out.size))
          have F5 : Four m1 (k : Int) (T : Int) kd bt w4 := four_keep hb' (by rw [hWD]; exact four_drewF FF.out)
          have z1 := F5.2.2.1
          clear hb hc hf hb' hWD F5
          by_cases q0 : Q = 0
          · have R := Lib.hid (run_no (s := s) (xs := xs) (run_bad0 (k := k) (by have := HLT.out; have := HN.out; omega) (by rw [← HQ.out]; exact q0)))
            subst q0
            go_wp2_with fail
            go_ret2
            exact rowB_nil R.out HB1.out
          · have e0 : (Q == 0) = false := by simpa using q0
            have fT := HT2.out.frozenAt T
            have cT := own_icell HT2.out T (by omega)
            have ST := (HT2.out.stored T (.int .i64 Q)).1
            rw [intCs_set, HTT.out, HQ.out, pitL_set s xs (by omega)] at ST
            have ST2 : Hid ((w4.setCell ⟨g, T, none⟩ (.int .i64 Q)).ownsRow w.heap.size 3 1 (.slice (some ⟨g, 0, none⟩) 12 12) 12 (intCs (pitL s xs (k + 1)))) := Lib.hid (by rw [HTT.out, HQ.out]; exact ST)
            have BA2 := Lib.hid (HB1.out.setCell (p := ⟨g, T, none⟩) (by have := HGG.out; simp only; omega) (.int .i64 Q))
            have HA2 : Hid (∀ j, j < k + 1 → pitK s xs (j + 1) ≠ 0) := Lib.hid (fun j hj => (show j < k ∨ j = k from by omega).elim (HA.out j) (fun q => by rw [q, ← HQ.out]; exact q0))
            clear ST q0
            go_wp2_with fail
            go_roundw
            case rel => exact ⟨k + 1, HLT.out, by go_num, HA2, ST2, BA2⟩
            case measure => simp [intOf]; omega
        · have q3 : ¬ (k : Int) < n := by omega
          have e : k = n := by omega
          subst e
          have R := Lib.hid (run_yes (s := s) (xs := xs) ⟨⟨HP.out, HF.out⟩, fun j hj => HA.out j (by rw [HN.out]; exact hj)⟩)
          have HK := HN
          clear hlt O0 B0
          go_wp2_with fail
          go_ret2
          exact rowB_yes (by rw [HK.out] at HT; exact R.out) (pitL_len _ _ _) (by rw [← HK.out]; exact HT.out) HB.out
    · have H2 := Lib.hid (decide_eq_false h2)
      have R := Lib.hid (run_no (s := s) (xs := xs) (fun q => h2 q.1.2))
      clear h1 h2
      go_enter Try.func17, Try.ntmps17
      go_wp2_with fail
      refine PK.out.mono ?_
      rintro e1 w1 ⟨rfl, b1⟩
      go_wp2_with fail
      refine (fineI_at H2.out _).mono ?_
      rintro e1 w2 ⟨rfl, rfl⟩
      go_wp2_with fail
      go_ret2
      exact rowB_nil R.out b1
  · rw [show planB xs = false from decide_eq_false h1] at PK
    have R := Lib.hid (run_no (s := s) (xs := xs) (fun q => h1 q.1.1))
    clear h1
    go_enter Try.func17, Try.ntmps17
    go_wp2_with fail
    refine PK.out.mono ?_
    rintro e1 w1 ⟨rfl, b1⟩
    go_wp2_with fail
    go_ret2
    exact rowB_nil R.out b1
theorem clos_short {s : Int} {xs : List Iv} (h : ¬ xs.length = 11) (hp : PlOk xs) (u : Int) : (pitL s xs xs.length).getD 11 0 = 0 ∧ heardV 0 u 2 = -1 ∧ closV s xs = -1 := by
  refine ⟨?_, heardV_no (fun q => fine0 q.1), if_neg (fun q => h q.2)⟩
  rw [pitL_at s xs _ (by omega), if_neg (by have := hp.1; omega)]
theorem clos_full {s : Int} {xs : List Iv} (h : xs.length = 11) (hr : RunOk s xs) : (pitL s xs xs.length).getD 11 0 = pitK s xs 11 ∧ heardV (pitK s xs 11) s 2 = closV s xs := by
  refine ⟨by rw [h, pitL_at s xs _ (by omega), if_pos (by omega)], ?_⟩
  have f : FineOk (pitK s xs 11) := (pitK_fine hr.1.2 11).resolve_left (hr.2 10 (by omega))
  unfold heardV closV
  rw [if_pos ⟨f, hr.1.2, by omega⟩, if_pos ⟨hr, h⟩]
  rw [show hdA 2 = 3 from rfl, show hdB 2 = 4 from rfl]
theorem keep_clos {W w4 : World} {g : Nat} {P Q : Int} (hP : W.cell? ⟨g, 11, none⟩ = some (.int .i64 P)) (hQ : W.cell? ⟨g, 0, none⟩ = some (.int .i64 Q)) (hb : Below W.drew.heap.size W.drew w4) : w4.cell? ⟨g, 11, none⟩ = some (.int .i64 P) ∧ w4.cell? ⟨g, 0, none⟩ = some (.int .i64 Q) :=
  ⟨(hb.cell (p := ⟨g, 11, none⟩) (show g < W.heap.size from World.block_lt_of_cell? _ _ hP)).trans hP, (hb.cell (p := ⟨g, 0, none⟩) (show g < W.heap.size from World.block_lt_of_cell? _ _ hQ)).trans hQ⟩
set_option maxHeartbeats 2000000 in
theorem clos_impl : ClosImpl19 := by
  intro s w b v xs hl h
  have RI := Lib.hid (run_impl s w b v xs hl h)
  by_cases hr : RunOk s xs
  · obtain ⟨e1, e2⟩ := run_yes hr
    rw [e1, e2] at RI
    clear h
    obtain ⟨P, hP⟩ : ∃ P, P = (pitL s xs xs.length).getD 11 0 := ⟨_, rfl⟩
    have HC : Hid (heardV P s 2 = closV s xs) := Lib.hid (by
      by_cases h11 : xs.length = 11
      · obtain ⟨q1, q2⟩ := clos_full h11 hr
        rw [hP, q1, q2]
      · obtain ⟨q1, q2, q3⟩ := clos_short (s := s) h11 hr.1.1 s
        rw [hP, q1, q2, q3])
    have HP := Lib.hid hP
    have HD := Lib.hid (fun w => hd_impl P s 2 w)
    rw [HC.out] at HD
    clear hP e1 e2 hr HC
    go_enter Try.func23, Try.ntmps23
    go_wp2_with fail
    refine RI.out.mono ?_
    rintro e1 w1 ⟨u, rfl, hu, b1⟩
    rw [pitL_len] at hu
    obtain ⟨g, c, rfl⟩ : ∃ g c, u = .slice (some ⟨g, 0, none⟩) 12 c := by
      rcases hu.2 with ⟨_, q'⟩ | ⟨g, cap, cur, hv, _⟩
      · omega
      · exact ⟨g, cap, hv⟩
    have c11 := own_icell hu 11 (by omega)
    rw [← HP.out] at c11
    have c0 := own_icell hu 0 (by omega)
    rw [pitL_at s xs _ (by omega), if_pos (Nat.zero_le _)] at c0
    have C11 := Lib.hid c11
    have C0 : Hid (w1.cell? ⟨g, 0, none⟩ = some (.int .i64 s)) := Lib.hid c0
    have B1 := Lib.hid b1
    clear hu c11 c0 b1
    go_upto_region 4 with fail
    go_region_held3 (fun w' => w'.cell? ⟨g, 11, none⟩ = some (.int .i64 P) ∧ w'.cell? ⟨g, 0, none⟩ = some (.int .i64 s)) (with_reducible first | exact keep_clos C11.out C0.out (Below.refl _ _) | exact keep_clos C11.out C0.out (by assumption))
      (first
        | (go_at_call 14; refine (HD.out _).mono ?_; rintro e1 w4 ⟨rfl, hb⟩; obtain ⟨hc, hf⟩ := bcellT hb))
    have B4 := Lib.hid (B1.out.drew.trans (hb.mono B1.out.drew.size))
    clear hb hc hf
    go_wp2_with fail
    go_ret
    exact ⟨rfl, B4.out⟩
  · obtain ⟨e1, e2⟩ := run_no hr
    rw [e1, e2] at RI
    have R := Lib.hid (show closV s xs = -1 from if_neg (fun q => hr q.1))
    clear h hr e1 e2
    go_enter Try.func23, Try.ntmps23
    go_wp2_with fail
    refine RI.out.mono ?_
    rintro e1 w1 ⟨u, rfl, hu, b1⟩
    have B1 := Lib.hid b1
    clear hu b1
    go_wp2_with fail
    go_ret
    exact ⟨ret_int R.out.symm, B1.out⟩
theorem walk_FnExactPlanOk (a : Option Addr) (len cap : Nat) (xs : List Iv) (w : World) (hr : IvRow w a len xs) : Calls Try.prog 6 #[.slice a len cap] w fun e w' => e = .returned (.bool true) ∧ Below w.heap.size w w' := walk_PlanOkBy planOk_impl a len cap xs w hr
theorem walk_FnExactRunPlan (a0 : Int) (a : Option Addr) (len cap : Nat) (xs : List Iv) (w : World) (h0 : (Lit.int .i64 a0).wf = true) (hr : IvRow w a len xs) : Calls Try.prog 7 #[.int .i64 a0, .slice a len cap] w fun e w' => e = .returned (.bool true) ∧ Below w.heap.size w w' := walk_RunPlanBy run_impl a0 a len cap xs w h0 hr
theorem walk_FnExactKeysTuned (a : Option Addr) (len cap : Nat) (xs : List Iv) (w : World) (hr : IvRow w a len xs) : Calls Try.prog 8 #[.slice a len cap] w fun e w' => e = .returned (.bool true) ∧ Below w.heap.size w w' := walk_KeysTunedBy keys_impl a len cap xs w hr
theorem walk_FnExactUsualPlan (a : Int) (_ : (Lit.int .i64 a).wf = true) (w : World) : Calls Try.prog 9 #[.int .i64 a] w fun e w' => e = .returned (.bool true) ∧ Below w.heap.size w w' := walk_UsualPlanBy usual_impl a w
theorem walk_FnExactClosingBeats (a0 : Int) (a : Option Addr) (len cap : Nat) (xs : List Iv) (w : World) (h0 : (Lit.int .i64 a0).wf = true) (hr : IvRow w a len xs) : Calls Try.prog 10 #[.int .i64 a0, .slice a len cap] w fun e w' => e = .returned (.bool true) ∧ Below w.heap.size w w' := walk_ClosingBeatsBy clos_impl a0 a len cap xs w h0 hr
theorem walk_FnPlans (a0 : Option Addr) (len0 cap0 : Nat) (z0 : List Int) (w : World) (hr : IsRow .u8 w a0 len0 cap0 z0) : Calls Try.prog 4 #[.slice a0 len0 cap0] w fun e w' => e = .returned (.bool true) ∧ Below w.heap.size w w' := walk_FnPlansBy run_impl keys_impl hd_impl usual_impl planOk_impl clos_impl a0 len0 cap0 z0 w hr
end Go.Proofs.Ytcddmmepphihjaa
