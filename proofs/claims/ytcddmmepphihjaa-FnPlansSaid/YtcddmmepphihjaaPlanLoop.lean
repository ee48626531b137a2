/- Contracts of impl.keysOfPlan (a labelled loop), PlanOk and KeysTuned. -/
import Derived.Test.YtcddmmepphihjaaPlanKeys
namespace Go.Proofs.Ytcddmmepphihjaa
open Go.RowKit Go.Joins
set_option linter.unusedVariables false
set_option linter.unusedSimpArgs false
theorem stepB_not {k : Nat} {fr ton kd bt : Int} (h : ¬ StepB fr ton kd bt) (hk : k ≤ 10) : ¬ StGood k ⟨fr, ton, kd, bt⟩ := by
  rintro ⟨⟨e1, e2⟩, ⟨e3, e4⟩, e5⟩
  dsimp only at e1 e2 e3 e4 e5
  refine h ⟨⟨by omega, e5⟩, by omega, ?_⟩
  omega
theorem keys_up {w : World} {B g cap k : Nat} {T : Nat} (hT : T = k + 1) (h : w.ownsRow B 3 1 (.slice (some ⟨g, 0, none⟩) (k + 1 + 1) cap) (k + 1 + 1) (intCs (keyUp k) ++ [.int .i64 (T : Int)])) : w.ownsRow B 3 1 (.slice (some ⟨g, 0, none⟩) (k + 1 + 1) cap) (k + 1 + 1) (intCs (keyUp (k + 1))) := by
  rw [keyUp_succ, intCs_app]
  subst hT
  exact h
theorem rowB_up {w W : World} {v : Value} {n : Nat} {xs : List Iv} (hn : n = xs.length) (hp : PlOk xs) (h : W.ownsRow w.heap.size 3 1 v (n + 1) (intCs (keyUp n))) (hb : Below w.heap.size w W) : RowB (keysL xs) (planB xs) w (.returned (.tuple #[v, .bool true])) W := by
  subst hn
  rw [keysL_up hp, show planB xs = true from decide_eq_true hp]
  exact ⟨_, rfl, by rw [keyUp_len]; exact h, hb⟩
theorem lit_keys (w : World) : (w.alloc (.cells #[.int .i64 0] 3)).ownsRow w.heap.size 3 1 (.slice (some ⟨w.heap.size, 0, none⟩) 1 1) (0 + 1) (intCs (keyUp 0)) := World.ownsRow_lit (base := w.heap.size) (e := 3) (size := 1) w #[.int .i64 0] 1 (Nat.le_refl _) (by unfold maxLen; omega) rfl
set_option maxRecDepth 100000 in
set_option maxHeartbeats 8000000 in
theorem keysOf_impl (w : World) (b : Nat) (e : TypeId) (v : Value) (xs : List Iv) (hl : xs.length ≤ 2000000) (h : w.ownsRow b e 4 v xs.length (ivCs xs)) :
    Calls Try.prog 45 #[v] w (RowB (keysL xs) (planB xs) w) := by
  obtain ⟨i0, hif, hz0, hz1, hz2⟩ := info_parts infoInt
  obtain ⟨n, hn⟩ : ∃ n, n = xs.length := ⟨_, rfl⟩
  have HN := Lib.hid hn
  rw [← hn] at h hl
  have HO := Lib.hid h
  have hs : ∃ p c, v = .slice p n c := by
    rcases own4_shape h with ⟨q, q'⟩ | ⟨g, cap, q, _⟩
    · exact ⟨none, 0, by rw [q, q']⟩
    · exact ⟨_, _, q⟩
  obtain ⟨p, c, rfl⟩ := hs
  clear h hn
  have BAD : Hid (¬ PlOk xs → keysL xs = [] ∧ planB xs = false) := Lib.hid (fun q => ⟨keysL_no q, decide_eq_false q⟩)
  by_cases h11 : n ≤ 11
  · have H11 := Lib.hid h11
    have LK := Lib.hid (lit_keys w)
    go_enter Try.func45, Try.ntmps45
    go_wp2
    go_step3
    go_wp2
    go_step3
    go_wp2
    obtain ⟨W0, hW0⟩ : ∃ W, W = w.alloc (.cells #[.int .i64 0] 3) := ⟨_, rfl⟩
    rw [← hW0] at LK ⊢
    have B0 : Hid (Below w.heap.size w W0) := Lib.hid (by rw [hW0]; exact below_alloc1 _ _)
    clear hW0
    go_loopg [4, 15] n (fun gk v i wr => ∃ k : Nat, k + gk = n ∧ i = .int .i64 (k : Int) ∧ Hid (∀ j, j < k → StGood j (ivAt xs j)) ∧ Hid (wr.ownsRow w.heap.size 3 1 v (k + 1) (intCs (keyUp k))) ∧ Hid (Below w.heap.size w wr))
    case atStart => exact ⟨0, by omega, rfl, Lib.hid (fun j hj => by omega), LK, B0⟩
    case round =>
      obtain ⟨k, hkg, rfl, HA, HT, HB⟩ := hrel
      cases gk with
      | zero =>
        have q3 : ¬ (k : Int) < n := by omega
        obtain rfl : k = n := by omega
        have HP : Hid (PlOk xs) := Lib.hid ⟨by have := HN.out; omega, by rw [← HN.out]; exact HA.out⟩
        go_wp2_with fail
        (try rw [Exit.noGoto_ret])
        go_ret2
        exact rowB_up HN.out HP.out HT.out HB.out
      | succ g =>
        have hlt : k < n := by omega
        have q3 : (k : Int) < n := by omega
        have k10 : k ≤ 10 := by omega
        obtain ⟨gx, cx, hgx, _, lgx⟩ := own4_pos HO.out (by omega)
        simp only [Value.slice.injEq, true_and] at hgx
        obtain ⟨rfl, rfl⟩ := hgx
        have r1 := own_iv (own4_below HO.out HB.out) HN.out k hlt
        obtain ⟨X, hX⟩ : ∃ X, X = ivAt xs k := ⟨_, rfl⟩
        rw [← hX] at r1
        have HXX := Lib.hid hX
        obtain ⟨fr, ton, kd, bt⟩ := X
        obtain ⟨x0, x1, x2, x3⟩ := r1
        dsimp only at x0 x1 x2 x3
        have bad : ¬ StGood k ⟨fr, ton, kd, bt⟩ → keysL xs = [] ∧ planB xs = false := fun q => BAD.out (fun r => q (by rw [hX]; exact r.2 k (by have := HN.out; omega)))
        have BADK := Lib.hid bad
        clear hX bad lgx B0 LK
        go_upto_region 7 with fail
        obtain ⟨W1, hW1⟩ : ∃ W, W = wr.alloc (.cells #[.int .i64 fr, .int .i64 ton, .int .i64 kd, .int .i64 bt] 36) := ⟨_, rfl⟩
        have BA : Hid (Below w.heap.size w W1) := Lib.hid (by rw [hW1]; exact HB.out.alloc HB.out.size _)
        have HT1 : Hid (W1.ownsRow w.heap.size 3 1 u4 (k + 1) (intCs (keyUp k))) := Lib.hid (by rw [hW1]; exact HT.out.alloc _)
        have F4 : Four wr.heap.size fr ton kd bt W1 := by rw [hW1]; exact four_alloc
        rw [← hW1]
        clear hW1 x0 x1 x2 x3
        generalize wr.heap.size = m1 at F4 ⊢
        have FF := Lib.hid F4
        obtain ⟨_, y0, y1, y2, y3⟩ := F4
        by_cases hS : StepB fr ton kd bt
        · have HS := Lib.hid (decide_eq_true hS)
          obtain ⟨⟨hkd, hbt⟩, hfr, hton⟩ := hS
          obtain ⟨F, hF⟩ : ∃ F : Nat, fr = F := ⟨fr.toNat, by omega⟩
          obtain ⟨T, hT⟩ : ∃ T : Nat, T = (F + 1) % 12 := ⟨_, rfl⟩
          have hF11 : F ≤ 11 := by omega
          have h4 : ton = (T : Int) := by omega
          have GO : Hid (F ≤ k → ¬ T ≤ k → T = k + 1 ∧ StGood k ⟨fr, ton, kd, bt⟩) := Lib.hid (fun a b => by
            obtain ⟨_, e1, _, e3⟩ := good_of (kd := kd) hF h4 ⟨by omega, hbt⟩ hF11 hT a b
            exact ⟨e1, e3⟩)
          have NO : Hid ((¬ F ≤ k ∨ T ≤ k) → ¬ StGood k ⟨fr, ton, kd, bt⟩) := Lib.hid (fun a q => by
            obtain ⟨⟨r1, r2⟩, _⟩ := q
            simp only at r1 r2
            omega)
          subst hF h4
          clear hkd hbt hfr hton hT
          obtain ⟨p4, c4, hg4, hl4⟩ : ∃ g4 c4, u4 = .slice (some ⟨g4, 0, none⟩) (k + 1) c4 ∧ (w.heap.size ≤ g4 ∧ g4 < W1.heap.size) := by
            rcases HT1.out.2 with ⟨_, q'⟩ | ⟨g4, c4, cur, hv, hb4, hg4, _⟩
            · omega
            · exact ⟨g4, c4, hv, hb4, lt_of_block hg4⟩
          subst hg4
          go_wp2_with fail
          refine (planStep_at HS.out _).mono ?_
          rintro e1 w1 ⟨rfl, b1⟩
          have BB : Hid (Below w.heap.size w w1) := Lib.hid (BA.out.trans (b1.mono BA.out.size))
          have HT2 : Hid (w1.ownsRow w.heap.size 3 1 (.slice (some ⟨p4, 0, none⟩) (k + 1) c4) (k + 1) (intCs (keyUp k))) := Lib.hid (own_below HT1.out b1)
          have F5 := four_keep b1 FF.out
          obtain ⟨_, z0, z1, z2, z3⟩ := F5
          clear b1 y0 y1 y2 y3 BA HT1
          by_cases h6 : T ≤ k
          · have R := Lib.hid (BADK.out (NO.out (.inr h6)))
            have C6 : Hid (decide ((T : Int) ∈ keyUp k) = true) := Lib.hid (by rw [keyUp_mem]; exact decide_eq_true h6)
            clear h6
            go_wp2_with fail
            refine (contains_impl _ w.heap.size 3 _ (keyUp k) (T : Int) C6.out (by rw [keyUp_len]; omega) (by rw [keyUp_len]; exact HT2.out)).mono ?_
            rintro e1 w2 ⟨rfl, rfl⟩
            go_wp2_with fail
            (try rw [Exit.noGoto_ret])
            go_ret2
            exact rowB_nil R.out BB.out
          · have C6 : Hid (decide ((T : Int) ∈ keyUp k) = false) := Lib.hid (by rw [keyUp_mem]; exact decide_eq_false h6)
            have H6 := Lib.hid h6
            clear h6
            go_wp2_with fail
            refine (contains_impl _ w.heap.size 3 _ (keyUp k) (T : Int) C6.out (by rw [keyUp_len]; omega) (by rw [keyUp_len]; exact HT2.out)).mono ?_
            rintro e1 w2 ⟨rfl, rfl⟩
            go_wp2_with fail
            go_loopg [4, 30] (k + 1) (fun g2 v i wy => ∃ j : Nat, j + g2 = k + 1 ∧ i = .int .i64 (j : Int) ∧ Hid (∀ t, t < j → t ≠ F) ∧ v = .slice (some ⟨p4, 0, none⟩) (k + 1) c4 ∧ w1 = wy)
            case atStart => exact ⟨0, by omega, rfl, Lib.hid (fun t ht => by omega), rfl, rfl⟩
            case round =>
              obtain ⟨j, hjg, rfl, HJ, rfl, rfl⟩ := hrel
              cases gk with
              | zero =>
                have q5 : ¬ ((j : Int) < (k : Int) + 1) := by omega
                have R := Lib.hid (BADK.out (NO.out (.inl (fun q => HJ.out F (by omega) rfl))))
                go_wp2_with fail
                (try rw [Exit.noGoto_ret])
                go_ret2
                exact rowB_nil R.out BB.out
              | succ g2 =>
                have q5 : (j : Int) < (k : Int) + 1 := by omega
                have j0 : 0 ≤ (j : Int) := by omega
                have cJ := own_icell HT2.out j (by omega)
                rw [keyUp_at k j (by omega)] at cJ
                by_cases hjF : j = F
                · subst hjF
                  have hT := (GO.out (by omega) H6.out).1
                  have HTT := Lib.hid hT
                  have HGD := Lib.hid (GO.out (by omega) H6.out).2
                  have HA2 : Hid (∀ i, i < k + 1 → StGood i (ivAt xs i)) := Lib.hid (fun i hi => (show i < k ∨ i = k from by omega).elim (HA.out i) (fun q => by rw [q, ← HXX.out]; exact HGD.out))
                  have hbs := BB.out.size
                  clear hT
                  go_wp2_with (at_builtin; refine wpList_append_lies _ rfl (.tmp 38) (.tmp 41) 31 rfl w.heap.size 3 i0 (.int .i64 0) 1 8 Try.underlying31 hif hz0 hz1 hz2 rfl (by decide) _ (k + 1) _ rfl (HT2.out.alloc _) ⟨w1.heap.size, 0, none⟩ 1 1 [.int .i64 (T : Int)] rfl rfl (World.news_of_block (heap_alloc_new w1 _)) (by simp [Value.oneCell']) (by decide) (by unfold maxLen; omega) (by omega) (by simp; omega) _ rfl ?_; intro g1 cap1 w5 hown' hgrow hat hgt)
                  have R5 := Lib.hid ((BB.out.alloc hbs _).grown hgrow (by simp; omega) (fun j hj => (HT2.out.lt j hj).1))
                  have O5 := Lib.hid (keys_up HTT.out hown')
                  clear hown' hgrow hat hgt hbs
                  go_wp2_with fail
                  go_roundg g
                  case measure => omega
                  case rel => exact ⟨k + 1, by omega, by go_num, HA2, O5, R5⟩
                · have t1 : ((j : Int) == (F : Int)) = false := by simp; omega
                  have HJ2 : Hid (∀ t, t < j + 1 → t ≠ F) := Lib.hid (fun t ht => (show t < j ∨ t = j from by omega).elim (HJ.out t) (fun q => by rw [q]; exact hjF))
                  clear hjF
                  go_wp2_with fail
                  go_roundg g2
                  case measure => omega
                  case rel => exact ⟨j + 1, by omega, by go_num, HJ2, by trivial, by trivial⟩
        · have HS := Lib.hid (decide_eq_false hS)
          have R := Lib.hid (BADK.out (stepB_not hS k10))
          clear hS
          go_wp2_with fail
          refine (planStep_at HS.out _).mono ?_
          rintro e1 w1 ⟨rfl, b1⟩
          have BB : Hid (Below w.heap.size w w1) := Lib.hid (BA.out.trans (b1.mono BA.out.size))
          clear b1
          go_wp2_with fail
          (try rw [Exit.noGoto_ret])
          go_ret2
          exact rowB_nil R.out BB.out
  · have R := Lib.hid (BAD.out (fun q => h11 (by have := q.1; have := HN.out; omega)))
    have q3 : ((n : Int) > 11) := by omega
    go_enter Try.func45, Try.ntmps45
    go_wp2
    go_step3
    go_wp2
    (try rw [Exit.noGoto_ret])
    go_ret2
    exact rowB_nil R.out (Below.refl _ _)
set_option maxHeartbeats 1000000 in
theorem planOk_impl : PlanOkImpl := by
  intro w b v xs hl h
  have KO := Lib.hid (keysOf_impl w b 36 v xs hl h)
  clear h
  go_enter Try.func22, Try.ntmps22
  go_wp2_with fail
  refine KO.out.mono ?_
  rintro e1 w1 ⟨u, rfl, hu, b1⟩
  have B1 := Lib.hid b1
  clear hu b1
  go_wp2_with fail
  go_ret
  exact ⟨rfl, B1.out⟩
set_option maxHeartbeats 1000000 in
theorem keys_impl : KeysImpl := by
  intro w b v xs hl h
  have KO := Lib.hid (keysOf_impl w b 36 v xs hl h)
  clear h
  go_enter Try.func18, Try.ntmps18
  go_wp2_with fail
  refine KO.out.mono ?_
  rintro e1 w1 ⟨u, rfl, hu, b1⟩
  have U1 := Lib.hid hu
  have B1 := Lib.hid b1
  clear hu b1
  go_wp2_with fail
  go_ret
  exact ⟨_, rfl, U1.out, B1.out⟩
end Go.Proofs.Ytcddmmepphihjaa
