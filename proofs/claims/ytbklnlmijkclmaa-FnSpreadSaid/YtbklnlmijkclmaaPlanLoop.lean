/- Contracts of impl.keysOfPlan (a labelled loop), PlanOk, KeysTuned and RunPlan. -/
import Derived.Test.YtbklnlmijkclmaaPlanKeys
namespace Go.Proofs.Ytbklnlmijkclmaa
open Go.RowKit Go.Joins
set_option linter.unusedVariables false
set_option linter.unusedSimpArgs false
theorem stepB_not {k : Nat} {fr ton kd bt : Int} (h : ¬ StepB fr ton kd bt) (hk : k ≤ 10) : ¬ StGood k ⟨fr, ton, kd, bt⟩ := by
  rintro ⟨⟨e1, e2⟩, ⟨e3, e4⟩, e5⟩
  dsimp only at e1 e2 e3 e4 e5
  refine h ⟨⟨by omega, e5⟩, by omega, ?_⟩
  omega
theorem keys_up {w : World} {B g cap k : Nat} {T : Nat} (hT : T = k + 1) (h : w.ownsRow B 3 1 (.slice (some ⟨g, 0, none⟩) (k + 1 + 1) cap) (k + 1 + 1) (intCs (keyUp k) ++ [.int .i64 (T : Int)])) : w.ownsRow B 3 1 (.slice (some ⟨g, 0, none⟩) (k + 1 + 1) cap) (k + 1 + 1) (intCs (keyUp (k + 1))) := by
  rw [keyUp_succ, intCs_app]
  subst hT
  exact h
theorem rowB_up {w W : World} {v : Value} {n : Nat} {xs : List Iv} (hn : n = xs.length) (hp : PlOk xs) (h : W.ownsRow w.heap.size 3 1 v (n + 1) (intCs (keyUp n))) (hb : Below w.heap.size w W) : RowB (keysL xs) (planB xs) w (.returned (.tuple #[v, .bool true])) W := by
  subst hn
  rw [keysL_up hp, show planB xs = true from decide_eq_true hp]
  exact ⟨_, rfl, by rw [keyUp_len]; exact h, hb⟩
theorem lit_keys (w : World) : (w.alloc (.cells #[.int .i64 0] 3)).ownsRow w.heap.size 3 1 (.slice (some ⟨w.heap.size, 0, none⟩) 1 1) (0 + 1) (intCs (keyUp 0)) := World.ownsRow_lit (base := w.heap.size) (e := 3) (size := 1) w #[.int .i64 0] 1 (Nat.le_refl _) (by unfold maxLen; omega) rfl
set_option maxRecDepth 100000 in
set_option maxHeartbeats 8000000 in
theorem keysOf_impl (w : World) (b : Nat) (e : TypeId) (v : Value) (xs : List Iv) (hl : xs.length ≤ 2000000) (h : w.ownsRow b e 4 v xs.length (ivCs xs)) :
    Calls Try.prog 43 #[v] w (RowB (keysL xs) (planB xs) w) := by
  obtain ⟨i0, hif, hz0, hz1, hz2⟩ := info_parts infoInt
  obtain ⟨n, hn⟩ : ∃ n, n = xs.length := ⟨_, rfl⟩
  have HN := Lib.hid hn
  rw [← hn] at h hl
  have HO := Lib.hid h
  have hs : ∃ p c, v = .slice p n c := by
    rcases own4_shape h with ⟨q, q'⟩ | ⟨g, cap, q, _⟩
    · exact ⟨none, 0, by rw [q, q']⟩
    · exact ⟨_, _, q⟩
  obtain ⟨p, c, rfl⟩ := hs
  clear h hn
  have BAD : Hid (¬ PlOk xs → keysL xs = [] ∧ planB xs = false) := Lib.hid (fun q => ⟨keysL_no q, decide_eq_false q⟩)
  by_cases h11 : n ≤ 11
  · have H11 := Lib.hid h11
    have LK := Lib.hid (lit_keys w)
    go_enter Try.func43, Try.ntmps43
    go_wp2
    go_step3
    go_wp2
    go_step3
    go_wp2
    obtain ⟨W0, hW0⟩ : ∃ W, W = w.alloc (.cells #[.int .i64 0] 3) := ⟨_, rfl⟩
    rw [← hW0] at LK ⊢
    have B0 : Hid (Below w.heap.size w W0) := Lib.hid (by rw [hW0]; exact below_alloc1 _ _)
    clear hW0
    go_loopg [4, 15] n (fun gk v i wr => ∃ k : Nat, k + gk = n ∧ i = .int .i64 (k : Int) ∧ Hid (∀ j, j < k → StGood j (ivAt xs j)) ∧ Hid (wr.ownsRow w.heap.size 3 1 v (k + 1) (intCs (keyUp k))) ∧ Hid (Below w.heap.size w wr))
    case atStart => exact ⟨0, by omega, rfl, Lib.hid (fun j hj => by omega), LK, B0⟩
    case round =>
      obtain ⟨k, hkg, rfl, HA, HT, HB⟩ := hrel
      cases gk with
      | zero =>
        have q3 : ¬ (k : Int) < n := by omega
        obtain rfl : k = n := by omega
        have HP : Hid (PlOk xs) := Lib.hid ⟨by have := HN.out; omega, by rw [← HN.out]; exact HA.out⟩
        go_wp2_with fail
        (try rw [Exit.noGoto_ret])
        go_ret2
        exact rowB_up HN.out HP.out HT.out HB.out
      | succ g =>
        have hlt : k < n := by omega
        have q3 : (k : Int) < n := by omega
        have k10 : k ≤ 10 := by omega
        obtain ⟨gx, cx, hgx, _, lgx⟩ := own4_pos HO.out (by omega)
        simp only [Value.slice.injEq, true_and] at hgx
        obtain ⟨rfl, rfl⟩ := hgx
        have r1 := own_iv (own4_below HO.out HB.out) HN.out k hlt
        obtain ⟨X, hX⟩ : ∃ X, X = ivAt xs k := ⟨_, rfl⟩
        rw [← hX] at r1
        have HXX := Lib.hid hX
        obtain ⟨fr, ton, kd, bt⟩ := X
        obtain ⟨x0, x1, x2, x3⟩ := r1
        dsimp only at x0 x1 x2 x3
        have bad : ¬ StGood k ⟨fr, ton, kd, bt⟩ → keysL xs = [] ∧ planB xs = false := fun q => BAD.out (fun r => q (by rw [hX]; exact r.2 k (by have := HN.out; omega)))
        have BADK := Lib.hid bad
        clear hX bad lgx B0 LK
        go_upto_region 7 with fail
        obtain ⟨W1, hW1⟩ : ∃ W, W = wr.alloc (.cells #[.int .i64 fr, .int .i64 ton, .int .i64 kd, .int .i64 bt] 32) := ⟨_, rfl⟩
        have BA : Hid (Below w.heap.size w W1) := Lib.hid (by rw [hW1]; exact HB.out.alloc HB.out.size _)
        have HT1 : Hid (W1.ownsRow w.heap.size 3 1 u4 (k + 1) (intCs (keyUp k))) := Lib.hid (by rw [hW1]; exact HT.out.alloc _)
        have F4 : Four wr.heap.size fr ton kd bt W1 := by rw [hW1]; exact four_alloc
        rw [← hW1]
        clear hW1 x0 x1 x2 x3
        generalize wr.heap.size = m1 at F4 ⊢
        have FF := Lib.hid F4
        obtain ⟨_, y0, y1, y2, y3⟩ := F4
        by_cases hS : StepB fr ton kd bt
        · have HS := Lib.hid (decide_eq_true hS)
          obtain ⟨⟨hkd, hbt⟩, hfr, hton⟩ := hS
          obtain ⟨F, hF⟩ : ∃ F : Nat, fr = F := ⟨fr.toNat, by omega⟩
          obtain ⟨T, hT⟩ : ∃ T : Nat, T = (F + 1) % 12 := ⟨_, rfl⟩
          have hF11 : F ≤ 11 := by omega
          have h4 : ton = (T : Int) := by omega
          have GO : Hid (F ≤ k → ¬ T ≤ k → T = k + 1 ∧ StGood k ⟨fr, ton, kd, bt⟩) := Lib.hid (fun a b => by
            obtain ⟨_, e1, _, e3⟩ := good_of (kd := kd) hF h4 ⟨by omega, hbt⟩ hF11 hT a b
            exact ⟨e1, e3⟩)
          have NO : Hid ((¬ F ≤ k ∨ T ≤ k) → ¬ StGood k ⟨fr, ton, kd, bt⟩) := Lib.hid (fun a q => by
            obtain ⟨⟨r1, r2⟩, _⟩ := q
            simp only at r1 r2
            omega)
          subst hF h4
          clear hkd hbt hfr hton hT
          obtain ⟨p4, c4, hg4, hl4⟩ : ∃ g4 c4, u4 = .slice (some ⟨g4, 0, none⟩) (k + 1) c4 ∧ (w.heap.size ≤ g4 ∧ g4 < W1.heap.size) := by
            rcases HT1.out.2 with ⟨_, q'⟩ | ⟨g4, c4, cur, hv, hb4, hg4, _⟩
            · omega
            · exact ⟨g4, c4, hv, hb4, lt_of_block hg4⟩
          subst hg4
          go_wp2_with fail
          refine (planStep_at HS.out _).mono ?_
          rintro e1 w1 ⟨rfl, b1⟩
          have BB : Hid (Below w.heap.size w w1) := Lib.hid (BA.out.trans (b1.mono BA.out.size))
          have HT2 : Hid (w1.ownsRow w.heap.size 3 1 (.slice (some ⟨p4, 0, none⟩) (k + 1) c4) (k + 1) (intCs (keyUp k))) := Lib.hid (own_below HT1.out b1)
          have F5 := four_keep b1 FF.out
          obtain ⟨_, z0, z1, z2, z3⟩ := F5
          clear b1 y0 y1 y2 y3 BA HT1
          by_cases h6 : T ≤ k
          · have R := Lib.hid (BADK.out (NO.out (.inr h6)))
            have C6 : Hid (decide ((T : Int) ∈ keyUp k) = true) := Lib.hid (by rw [keyUp_mem]; exact decide_eq_true h6)
            clear h6
            go_wp2_with fail
            refine (contains_impl _ w.heap.size 3 _ (keyUp k) (T : Int) C6.out (by rw [keyUp_len]; omega) (by rw [keyUp_len]; exact HT2.out)).mono ?_
            rintro e1 w2 ⟨rfl, rfl⟩
            go_wp2_with fail
            (try rw [Exit.noGoto_ret])
            go_ret2
            exact rowB_nil R.out BB.out
          · have C6 : Hid (decide ((T : Int) ∈ keyUp k) = false) := Lib.hid (by rw [keyUp_mem]; exact decide_eq_false h6)
            have H6 := Lib.hid h6
            clear h6
            go_wp2_with fail
            refine (contains_impl _ w.heap.size 3 _ (keyUp k) (T : Int) C6.out (by rw [keyUp_len]; omega) (by rw [keyUp_len]; exact HT2.out)).mono ?_
            rintro e1 w2 ⟨rfl, rfl⟩
            go_wp2_with fail
            go_loopg [4, 30] (k + 1) (fun g2 v i wy => ∃ j : Nat, j + g2 = k + 1 ∧ i = .int .i64 (j : Int) ∧ Hid (∀ t, t < j → t ≠ F) ∧ v = .slice (some ⟨p4, 0, none⟩) (k + 1) c4 ∧ w1 = wy)
            case atStart => exact ⟨0, by omega, rfl, Lib.hid (fun t ht => by omega), rfl, rfl⟩
            case round =>
              obtain ⟨j, hjg, rfl, HJ, rfl, rfl⟩ := hrel
              cases gk with
              | zero =>
                have q5 : ¬ ((j : Int) < (k : Int) + 1) := by omega
                have R := Lib.hid (BADK.out (NO.out (.inl (fun q => HJ.out F (by omega) rfl))))
                go_wp2_with fail
                (try rw [Exit.noGoto_ret])
                go_ret2
                exact rowB_nil R.out BB.out
              | succ g2 =>
                have q5 : (j : Int) < (k : Int) + 1 := by omega
                have j0 : 0 ≤ (j : Int) := by omega
                have cJ := own_icell HT2.out j (by omega)
                rw [keyUp_at k j (by omega)] at cJ
                by_cases hjF : j = F
                · subst hjF
                  have hT := (GO.out (by omega) H6.out).1
                  have HTT := Lib.hid hT
                  have HGD := Lib.hid (GO.out (by omega) H6.out).2
                  have HA2 : Hid (∀ i, i < k + 1 → StGood i (ivAt xs i)) := Lib.hid (fun i hi => (show i < k ∨ i = k from by omega).elim (HA.out i) (fun q => by rw [q, ← HXX.out]; exact HGD.out))
                  have hbs := BB.out.size
                  clear hT
                  go_wp2_with (at_builtin; refine wpList_append_lies _ rfl (.tmp 38) (.tmp 41) 33 rfl w.heap.size 3 i0 (.int .i64 0) 1 8 Try.underlying33 hif hz0 hz1 hz2 rfl (by decide) _ (k + 1) _ rfl (HT2.out.alloc _) ⟨w1.heap.size, 0, none⟩ 1 1 [.int .i64 (T : Int)] rfl rfl (World.news_of_block (heap_alloc_new w1 _)) (by simp [Value.oneCell']) (by decide) (by unfold maxLen; omega) (by omega) (by simp; omega) _ rfl ?_; intro g1 cap1 w5 hown' hgrow hat hgt)
                  have R5 := Lib.hid ((BB.out.alloc hbs _).grown hgrow (by simp; omega) (fun j hj => (HT2.out.lt j hj).1))
                  have O5 := Lib.hid (keys_up HTT.out hown')
                  clear hown' hgrow hat hgt hbs
                  go_wp2_with fail
                  go_roundg g
                  case measure => omega
                  case rel => exact ⟨k + 1, by omega, by go_num, HA2, O5, R5⟩
                · have t1 : ((j : Int) == (F : Int)) = false := by simp; omega
                  have HJ2 : Hid (∀ t, t < j + 1 → t ≠ F) := Lib.hid (fun t ht => (show t < j ∨ t = j from by omega).elim (HJ.out t) (fun q => by rw [q]; exact hjF))
                  clear hjF
                  go_wp2_with fail
                  go_roundg g2
                  case measure => omega
                  case rel => exact ⟨j + 1, by omega, by go_num, HJ2, by trivial, by trivial⟩
        · have HS := Lib.hid (decide_eq_false hS)
          have R := Lib.hid (BADK.out (stepB_not hS k10))
          clear hS
          go_wp2_with fail
          refine (planStep_at HS.out _).mono ?_
          rintro e1 w1 ⟨rfl, b1⟩
          have BB : Hid (Below w.heap.size w w1) := Lib.hid (BA.out.trans (b1.mono BA.out.size))
          clear b1
          go_wp2_with fail
          (try rw [Exit.noGoto_ret])
          go_ret2
          exact rowB_nil R.out BB.out
  · have R := Lib.hid (BAD.out (fun q => h11 (by have := q.1; have := HN.out; omega)))
    have q3 : ((n : Int) > 11) := by omega
    go_enter Try.func43, Try.ntmps43
    go_wp2
    go_step3
    go_wp2
    (try rw [Exit.noGoto_ret])
    go_ret2
    exact rowB_nil R.out (Below.refl _ _)
set_option maxHeartbeats 1000000 in
theorem planOk_impl : PlanOkImpl := by
  intro w b v xs hl h
  have KO := Lib.hid (keysOf_impl w b 32 v xs hl h)
  clear h
  go_enter Try.func38, Try.ntmps38
  go_wp2_with fail
  refine KO.out.mono ?_
  rintro e1 w1 ⟨u, rfl, hu, b1⟩
  have B1 := Lib.hid b1
  clear hu b1
  go_wp2_with fail
  go_ret
  exact ⟨rfl, B1.out⟩
set_option maxHeartbeats 1000000 in
theorem keys_impl : KeysImpl := by
  intro w b v xs hl h
  have KO := Lib.hid (keysOf_impl w b 32 v xs hl h)
  clear h
  go_enter Try.func18, Try.ntmps18
  go_wp2_with fail
  refine KO.out.mono ?_
  rintro e1 w1 ⟨u, rfl, hu, b1⟩
  have U1 := Lib.hid hu
  have B1 := Lib.hid b1
  clear hu b1
  go_wp2_with fail
  go_ret
  exact ⟨_, rfl, U1.out, B1.out⟩
theorem keep_run {W w4 : World} {m g k : Nat} {a t kd bt P : Int} (hF : Four m a t kd bt W) (hC : W.cell? ⟨g, k, none⟩ = some (.int .i64 P)) (hb : Below W.drew.heap.size W.drew w4) : w4.cell? ⟨m, 0, none⟩ = some (.int .i64 a) ∧ w4.cell? ⟨m, 2, none⟩ = some (.int .i64 kd) ∧ w4.cell? ⟨m, 3, none⟩ = some (.int .i64 bt) ∧ w4.cell? ⟨g, k, none⟩ = some (.int .i64 P) := by
  have h := four_keep hb (four_drewF hF)
  exact ⟨h.2.1, h.2.2.2.1, h.2.2.2.2, (hb.cell (p := ⟨g, k, none⟩) (show g < W.heap.size from World.block_lt_of_cell? _ _ hC)).trans hC⟩
set_option maxRecDepth 100000 in
set_option maxHeartbeats 8000000 in
theorem run_impl : RunImpl := by
  intro s w b v xs hl h
  obtain ⟨i0, hif, hz0, hz1, hz2⟩ := info_parts infoInt
  have PK := Lib.hid (planOk_impl w b v xs hl h)
  obtain ⟨n, hn⟩ : ∃ n, n = xs.length := ⟨_, rfl⟩
  have HN := Lib.hid hn
  rw [← hn] at h hl
  have HO := Lib.hid h
  have hs : ∃ p c, v = .slice p n c := by
    rcases own4_shape h with ⟨q, q'⟩ | ⟨g, cap, q, _⟩
    · exact ⟨none, 0, by rw [q, q']⟩
    · exact ⟨_, _, q⟩
  obtain ⟨p, c, rfl⟩ := hs
  clear h hn
  by_cases h1 : PlOk xs
  · rw [show planB xs = true from decide_eq_true h1] at PK
    by_cases h2 : FineOk s
    · have H2 := Lib.hid (decide_eq_true h2)
      have HP := Lib.hid h1
      have HF := Lib.hid h2
      have hn11 : n ≤ 11 := by have := h1.1; have := HN.out; omega
      clear h1 h2
      go_enter Try.func15, Try.ntmps15
      go_wp2_with fail
      refine PK.out.mono ?_
      rintro e1 w1 ⟨rfl, b1⟩
      go_wp2_with fail
      refine (fineI_at H2.out _).mono ?_
      rintro e1 w2 ⟨rfl, rfl⟩
      have B1 := Lib.hid b1
      have hsz := b1.size
      clear b1
      go_wp2_with (at_make; refine wpList_make_full _ rfl _ _ 33 rfl w.heap.size 3 i0 (.int .i64 0) 1 Try.underlying33 hif hz0 hz1 _ _ _ _ 12 rfl rfl rfl rfl (by rw [hz2]; omega) (by unfold maxLen; omega) hsz ?_; intro w3 hown1 hgrow1; obtain ⟨⟨q0, f0⟩, hown2, hb2⟩ := pit_start (s := s) (xs := xs) hsz hown1 (B1.out.grown hgrow1 hsz (by simp)))
      obtain ⟨g, hg⟩ : ∃ g, g = w1.heap.size := ⟨_, rfl⟩
      obtain ⟨W0, hW0⟩ : ∃ W, W = w3.setCell ⟨w1.heap.size, 0, none⟩ (.int .i64 s) := ⟨_, rfl⟩
      rw [← hW0] at hown2 hb2 ⊢
      have O0 : Hid (W0.ownsRow w.heap.size 3 1 (.slice (some ⟨g, 0, none⟩) 12 12) 12 (intCs (pitL s xs 0))) := Lib.hid (by rw [hg]; exact hown2)
      have B0 := Lib.hid hb2
      rw [← hg]
      have HGG := Lib.hid (show w.heap.size ≤ g by omega)
      clear hW0 hown1 hgrow1 q0 f0 hown2 hb2 hg B1 hsz
      go_loopw [24] (fun i wr => ∃ k : Nat, k ≤ n ∧ i = .int .i64 (k : Int) ∧ Hid (∀ j, j < k → pitK s xs (j + 1) ≠ 0) ∧ Hid (wr.ownsRow w.heap.size 3 1 (.slice (some ⟨g, 0, none⟩) 12 12) 12 (intCs (pitL s xs k))) ∧ Hid (Below w.heap.size w wr)) (fun i _ => n - (intOf i).toNat)
      case atStart => exact ⟨0, Nat.zero_le _, rfl, Lib.hid (fun j hj => by omega), O0, B0⟩
      case round =>
        obtain ⟨k, hk, rfl, HA, HT, HB⟩ := hrel
        by_cases hlt : k < n
        · have q3 : (k : Int) < n := by omega
          obtain ⟨gx, cx, hgx, _, lgx⟩ := own4_pos HO.out (by omega)
          simp only [Value.slice.injEq, true_and] at hgx
          obtain ⟨rfl, rfl⟩ := hgx
          have r1 := own_iv (own4_below HO.out HB.out) HN.out k hlt
          obtain ⟨kd, bt, hX, hkd, hbt⟩ := good_step HP.out (k := k) (by have := HN.out; omega)
          rw [hX] at r1
          obtain ⟨x0, x1, x2, x3⟩ := r1
          dsimp only at x0 x1 x2 x3
          have hQ : pitK s xs (k + 1) = tunV (pitK s xs k) kd bt := by show tunV _ _ _ = _; rw [hX]
          obtain ⟨P, hP⟩ : ∃ P, P = pitK s xs k := ⟨_, rfl⟩
          obtain ⟨Q, hQQ⟩ : ∃ Q, Q = pitK s xs (k + 1) := ⟨_, rfl⟩
          have TN : Hid (∀ X, Calls Try.prog 42 #[.int .i64 P, .int .i64 kd, .int .i64 bt] X fun e w' => e = .returned (.int .i64 Q) ∧ Below X.heap.size X w') := Lib.hid (fun X => by rw [hQQ, hQ, hP]; exact tun_impl _ _ _ X)
          have HQ := Lib.hid hQQ
          have HPP := Lib.hid hP
          have HLT := Lib.hid hlt
          have k12 : (k : Int) < 12 := by omega
          have k0 : 0 ≤ (k : Int) := by omega
          obtain ⟨T, hT⟩ : ∃ T : Nat, T = k + 1 := ⟨_, rfl⟩
          have x1' : wr.cell? ⟨gx, k * 4 + 1, none⟩ = some (.int .i64 (T : Int)) := by rw [x1, hT]; push_cast; rfl
          clear x1
          have HTT := Lib.hid hT
          have t1 : 0 ≤ (T : Int) := by omega
          have t2 : (T : Int) < 12 := by omega
          clear hlt hX hQ hP hQQ hkd hbt lgx O0 B0 hT
          go_upto_region 8 with fail
          obtain ⟨W1, hW1⟩ : ∃ W, W = wr.alloc (.cells #[.int .i64 (k : Int), .int .i64 (T : Int), .int .i64 kd, .int .i64 bt] 32) := ⟨_, rfl⟩
          have BA : Hid (Below w.heap.size w W1) := Lib.hid (by rw [hW1]; exact HB.out.alloc HB.out.size _)
          have HT1 : Hid (W1.ownsRow w.heap.size 3 1 (.slice (some ⟨g, 0, none⟩) 12 12) 12 (intCs (pitL s xs k))) := Lib.hid (by rw [hW1]; exact HT.out.alloc _)
          have F4 : Four wr.heap.size (k : Int) (T : Int) kd bt W1 := by rw [hW1]; exact four_alloc
          rw [← hW1]
          clear hW1 x0 x1' x2 x3
          generalize wr.heap.size = m1 at F4 ⊢
          have FF := Lib.hid F4
          clear F4
          have cP := own_icell HT1.out k (by omega)
          rw [pitL_at s xs k (by omega), if_pos (Nat.le_refl _), ← HPP.out] at cP
          have CP := Lib.hid cP
          clear cP
          go_region_held3 (fun w' => w'.cell? ⟨m1, 0, none⟩ = some (.int .i64 (k : Int)) ∧ w'.cell? ⟨m1, 2, none⟩ = some (.int .i64 kd) ∧ w'.cell? ⟨m1, 3, none⟩ = some (.int .i64 bt) ∧ w'.cell? ⟨g, k, none⟩ = some (.int .i64 P)) (with_reducible first | exact keep_run FF.out CP.out (Below.refl _ _) | exact keep_run FF.out CP.out (by assumption))
            (first
              | (go_at_call 42; refine (TN.out _).mono ?_; rintro e1 w4 ⟨rfl, hb⟩; obtain ⟨hc, hf⟩ := bcellT hb))
          obtain ⟨WD, hWD⟩ : ∃ W, W = W1.drew := ⟨_, rfl⟩
          have hb' : Below WD.heap.size WD w4 := by rw [hWD]; exact hb
          have HT2 : Hid (w4.ownsRow w.heap.size 3 1 (.slice (some ⟨g, 0, none⟩) 12 12) 12 (intCs (pitL s xs k))) := Lib.hid (own_below (show WD.ownsRow w.heap.size 3 1 _ 12 (intCs (pitL s xs k)) from by rw [hWD]; exact HT1.out) hb')
          have BD : Hid (Below w.heap.size w WD) := Lib.hid (by rw [hWD]; exact BA.out.drew)
          have HB1 : Hid (Below w.heap.size w w4) := Lib.hid (BD.out.trans (hb'.mono BD.out.size))
          have F5 : Four m1 (k : Int) (T : Int) kd bt w4 := four_keep hb' (by rw [hWD]; exact four_drewF FF.out)
          have z1 := F5.2.2.1
          clear hb hc hf hb' hWD F5
          by_cases q0 : Q = 0
          · have R := Lib.hid (run_no (s := s) (xs := xs) (run_bad0 (k := k) (by have := HLT.out; have := HN.out; omega) (by rw [← HQ.out]; exact q0)))
            subst q0
            go_wp2_with fail
            go_ret2
            exact rowB_nil R.out HB1.out
          · have e0 : (Q == 0) = false := by simpa using q0
            have fT := HT2.out.frozenAt T
            have cT := own_icell HT2.out T (by omega)
            have ST := (HT2.out.stored T (.int .i64 Q)).1
            rw [intCs_set, HTT.out, HQ.out, pitL_set s xs (by omega)] at ST
            have ST2 : Hid ((w4.setCell ⟨g, T, none⟩ (.int .i64 Q)).ownsRow w.heap.size 3 1 (.slice (some ⟨g, 0, none⟩) 12 12) 12 (intCs (pitL s xs (k + 1)))) := Lib.hid (by rw [HTT.out, HQ.out]; exact ST)
            have BA2 := Lib.hid (HB1.out.setCell (p := ⟨g, T, none⟩) (by have := HGG.out; simp only; omega) (.int .i64 Q))
            have HA2 : Hid (∀ j, j < k + 1 → pitK s xs (j + 1) ≠ 0) := Lib.hid (fun j hj => (show j < k ∨ j = k from by omega).elim (HA.out j) (fun q => by rw [q, ← HQ.out]; exact q0))
            clear ST q0
            go_wp2_with fail
            go_roundw
            case rel => exact ⟨k + 1, HLT.out, by go_num, HA2, ST2, BA2⟩
            case measure => simp [intOf]; omega
        · have q3 : ¬ (k : Int) < n := by omega
          have e : k = n := by omega
          subst e
          have R := Lib.hid (run_yes (s := s) (xs := xs) ⟨⟨HP.out, HF.out⟩, fun j hj => HA.out j (by rw [HN.out]; exact hj)⟩)
          have HK := HN
          clear hlt O0 B0
          go_wp2_with fail
          go_ret2
          exact rowB_yes (by rw [HK.out] at HT; exact R.out) (pitL_len _ _ _) (by rw [← HK.out]; exact HT.out) HB.out
    · have H2 := Lib.hid (decide_eq_false h2)
      have R := Lib.hid (run_no (s := s) (xs := xs) (fun q => h2 q.1.2))
      clear h1 h2
      go_enter Try.func15, Try.ntmps15
      go_wp2_with fail
      refine PK.out.mono ?_
      rintro e1 w1 ⟨rfl, b1⟩
      go_wp2_with fail
      refine (fineI_at H2.out _).mono ?_
      rintro e1 w2 ⟨rfl, rfl⟩
      go_wp2_with fail
      go_ret2
      exact rowB_nil R.out b1
  · rw [show planB xs = false from decide_eq_false h1] at PK
    have R := Lib.hid (run_no (s := s) (xs := xs) (fun q => h1 q.1.1))
    clear h1
    go_enter Try.func15, Try.ntmps15
    go_wp2_with fail
    refine PK.out.mono ?_
    rintro e1 w1 ⟨rfl, b1⟩
    go_wp2_with fail
    go_ret2
    exact rowB_nil R.out b1
end Go.Proofs.Ytbklnlmijkclmaa
