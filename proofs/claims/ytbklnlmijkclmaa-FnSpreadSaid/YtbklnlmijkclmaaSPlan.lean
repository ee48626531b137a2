/- Contract of spec.PlanOk. -/
import Derived.Test.YtbklnlmijkclmaaPlanMath
import Derived.Test.YtbklnlmijkclmaaSTune
import Derived.Test.YtbklnlmijkclmaaStepRows
namespace Go.Proofs.Ytbklnlmijkclmaa
open Go.RowKit Go.Joins
set_option linter.unusedVariables false
theorem infoBool : (Try.prog.info? 4).map (fun i => (i.zero, i.size, i.bytes)) = some (some (.bool false), 1, 1) := by kernel_rfl
theorem boolCs_at {w : World} {B g cap : Nat} {e : TypeId} {L : List Bool} {n : Nat} (h : w.ownsRow B e 1 (.slice (some ⟨g, 0, none⟩) n cap) n (boolCs L)) {j : Nat} {b : Bool} (hj : L[j]? = some b) (hn : n = L.length) : w.cell? ⟨g, j, none⟩ = some (.bool b) := by
  have hlt : j < L.length := by
    rcases Nat.lt_or_ge j L.length with q | q
    · exact q
    · rw [List.getElem?_eq_none q] at hj; cases hj
  rw [h.cellAt j (by omega)]
  simp [boolCs, hj]
theorem tunL_len (k : Nat) : (tunL k).length = 12 := by simp [tunL]
/-- The tuned keys at the start. -/
theorem tun_start {w w1 : World} {g : Nat} (hg : g = w.heap.size) (h : w1.ownsRow w.heap.size 4 1 (.slice (some ⟨g, 0, none⟩) 12 12) 12 (madeCells (Value.bool false).cells (12 * 1)).toList) (hgrow : w.grownBy w1 none) :
    (w1.cell? ⟨g, 0, none⟩ = some (.bool false) ∧ w1.frozen? ⟨g, 0, none⟩ = false) ∧ (w1.setCell ⟨g, 0, none⟩ (.bool true)).ownsRow w.heap.size 4 1 (.slice (some ⟨g, 0, none⟩) 12 12) 12 (boolCs (tunL 0)) ∧ Below w.heap.size w (w1.setCell ⟨g, 0, none⟩ (.bool true)) := by
  have e : (madeCells (Value.bool false).cells (12 * 1)).toList = boolCs (List.replicate 12 false) := by simp [Value.cells, toList_madeCells_one, boolCs]
  rw [e] at h
  have h2 := (h.stored 0 (.bool true)).1
  rw [boolCs_set, tunL_first] at h2
  exact ⟨⟨boolCs_at h (j := 0) (b := false) (by simp) (by simp), h.frozenAt 0⟩, h2, ((Below.refl _ _).grown hgrow (Nat.le_refl _) (by simp)).setCell (p := ⟨g, 0, none⟩) (by simp only; omega) _⟩
set_option maxRecDepth 100000 in
set_option maxHeartbeats 8000000 in
theorem planOk_spec (w : World) (b : Nat) (e : TypeId) (v : Value) (xs : List Iv) (hl : xs.length ≤ 2000000) (h : w.ownsRow b e 4 v xs.length (ivCs xs)) :
    Calls Try.prog 51 #[v] w fun en w' => en = .returned (.bool (planB xs)) ∧ Below w.heap.size w w' := by
  obtain ⟨i0, hif, hz0, hz1, hz2⟩ := info_parts infoBool
  obtain ⟨n, hn⟩ : ∃ n, n = xs.length := ⟨_, rfl⟩
  have HN := Lib.hid hn
  rw [← hn] at h hl
  have HO := Lib.hid h
  have hs : ∃ p c, v = .slice p n c := by
    rcases own4_shape h with ⟨q, q'⟩ | ⟨g, cap, q, _⟩
    · exact ⟨none, 0, by rw [q, q']⟩
    · exact ⟨_, _, q⟩
  obtain ⟨p, c, rfl⟩ := hs
  clear h hn
  go_enter Try.func51, Try.ntmps51
  go_wp2_with (at_make; refine wpList_make_full _ rfl _ _ 72 rfl w.heap.size 4 i0 (.bool false) 1 Try.underlying72 hif hz0 hz1 _ _ _ _ 12 rfl rfl rfl rfl (by rw [hz2]; omega) (by unfold maxLen; omega) (Nat.le_refl _) ?_; intro w1 hown1 hgrow1; obtain ⟨⟨q0, f0⟩, hown2, hb2⟩ := tun_start rfl hown1 hgrow1)
  obtain ⟨g, hg⟩ : ∃ g, g = w.heap.size := ⟨_, rfl⟩
  obtain ⟨W0, hW0⟩ : ∃ W, W = w1.setCell ⟨w.heap.size, 0, none⟩ (.bool true) := ⟨_, rfl⟩
  rw [← hW0] at hown2 hb2 ⊢
  have O0 : Hid (W0.ownsRow w.heap.size 4 1 (.slice (some ⟨g, 0, none⟩) 12 12) 12 (boolCs (tunL 0))) := Lib.hid (by rw [hg]; exact hown2)
  have B0 := Lib.hid hb2
  rw [← hg]
  have HGG := Lib.hid hg
  clear hW0 hown1 hgrow1 q0 f0 hown2 hb2 hg
  go_loopw [4] (fun i wr => ∃ k : Nat, k ≤ n ∧ k ≤ 11 ∧ i = .int .i64 (k : Int) ∧ Hid (∀ j, j < k → StGood j (ivAt xs j)) ∧ Hid (wr.ownsRow w.heap.size 4 1 (.slice (some ⟨g, 0, none⟩) 12 12) 12 (boolCs (tunL k))) ∧ Hid (Below w.heap.size w wr)) (fun i _ => n - (intOf i).toNat)
  case atStart => exact ⟨0, Nat.zero_le _, by omega, rfl, Lib.hid (fun j hj => by omega), O0, B0⟩
  case round =>
    obtain ⟨k, hk, hk11, rfl, HA, HT, HB⟩ := hrel
    by_cases hlt : k < n
    · have q3 : (k : Int) < n := by omega
      obtain ⟨gx, cx, hgx, _, lgx⟩ := own4_pos HO.out (by omega)
      simp only [Value.slice.injEq, true_and] at hgx
      obtain ⟨rfl, rfl⟩ := hgx
      have r1 := own_iv (own4_below HO.out HB.out) HN.out k hlt
      obtain ⟨X, hX⟩ : ∃ X, X = ivAt xs k := ⟨_, rfl⟩
      rw [← hX] at r1
      have HXX := Lib.hid hX
      have HLT := Lib.hid hlt
      obtain ⟨fr, ton, kd, bt⟩ := X
      obtain ⟨x0, x1, x2, x3⟩ := r1
      dsimp only at x0 x1 x2 x3
      have bad : ∀ (q : k ≤ 10 → ¬ StGood k ⟨fr, ton, kd, bt⟩), planB xs = false := fun q => planB_bad (k := k) (by have := HN.out; omega) (fun h => by rw [← hX]; exact q h)
      have BAD := Lib.hid bad
      clear hX hlt bad lgx O0 B0
      go_upto_region 7 with fail
      obtain ⟨W1, hW1⟩ : ∃ W, W = wr.alloc (.cells #[.int .i64 fr, .int .i64 ton, .int .i64 kd, .int .i64 bt] 32) := ⟨_, rfl⟩
      have BA : Hid (Below w.heap.size w W1) := Lib.hid (by rw [hW1]; exact HB.out.alloc HB.out.size _)
      have HT1 : Hid (W1.ownsRow w.heap.size 4 1 (.slice (some ⟨g, 0, none⟩) 12 12) 12 (boolCs (tunL k))) := Lib.hid (by rw [hW1]; exact HT.out.alloc _)
      have F4 : Four wr.heap.size fr ton kd bt W1 := by rw [hW1]; exact four_alloc
      rw [← hW1]
      clear hW1 x0 x1 x2 x3
      generalize wr.heap.size = m1 at F4 ⊢
      obtain ⟨_, y0, y1, y2, y3⟩ := F4
      by_cases h1 : 1 ≤ kd ∧ kd ≤ 2
      · have H1 := Lib.hid (decide_eq_true h1)
        by_cases h2 : 0 ≤ bt ∧ bt ≤ 5000
        · have H2 := Lib.hid (decide_eq_true h2)
          by_cases h3 : 0 ≤ fr ∧ fr ≤ 11
          · have H3 := Lib.hid (decide_eq_true h3)
            obtain ⟨F, hF⟩ : ∃ F : Nat, fr = F := ⟨fr.toNat, by omega⟩
            have hF11 : F ≤ 11 := by omega
            have i1 : 0 ≤ (F : Int) := by omega
            have i2 : (F : Int) < 12 := by omega
            have cF := boolCs_at HT1.out (tunL_at k (by omega) F (by omega)) (tunL_len k).symm
            by_cases h4 : ton = (((F + 1) % 12 : Nat) : Int)
            ·
              obtain ⟨T, hT⟩ : ∃ T : Nat, T = (F + 1) % 12 := ⟨_, rfl⟩
              rw [← hT] at h4
              have hT11 : T < 12 := by omega
              have j1 : 0 ≤ (T : Int) := by omega
              have j2 : (T : Int) < 12 := by omega
              have t4 : ((T : Int) != ((F : Int) + 1) % 12) = false := by simp; omega
              have cT := boolCs_at HT1.out (tunL_at k (by omega) T (by omega)) (tunL_len k).symm
              by_cases h5 : F ≤ k
              · rw [decide_eq_true h5] at cF
                by_cases h6 : T ≤ k
                · rw [decide_eq_true h6] at cT
                  have R := Lib.hid (BAD.out (fun q r => by obtain ⟨⟨r1, r2⟩, _⟩ := r; simp only at r1 r2; omega))
                  subst hF h4
                  clear h1 h2 h3 hT
                  go_wp2_with fail
                  refine (in_at H1.out _).mono ?_
                  rintro e1 w1 ⟨rfl, rfl⟩
                  go_wp2_with fail
                  refine (in_at H2.out _).mono ?_
                  rintro e1 w1 ⟨rfl, rfl⟩
                  go_wp2_with fail
                  refine (in_at H3.out _).mono ?_
                  rintro e1 w1 ⟨rfl, rfl⟩
                  go_wp2_with fail
                  go_ret
                  exact ⟨ret_boolT R.out.symm, BA.out⟩
                · rw [decide_eq_false h6] at cT
                  obtain ⟨k10, e1, e2, hgd⟩ := good_of hF h4 ⟨h1, h2⟩ hF11 hT h5 h6
                  have HGD := Lib.hid hgd
                  have HA2 : Hid (∀ j, j < k + 1 → StGood j (ivAt xs j)) := Lib.hid (fun j hj => (show j < k ∨ j = k from by omega).elim (HA.out j) (fun q => by rw [q, ← HXX.out]; exact HGD.out))
                  have fT := HT1.out.frozenAt T
                  have ST := (HT1.out.stored T (.bool true)).1
                  rw [boolCs_set] at ST
                  rw [show (tunL k).set T true = tunL (k + 1) from by rw [e1]; exact tunL_set k (by omega)] at ST
                  have ST2 := Lib.hid ST
                  have BA2 := Lib.hid (BA.out.setCell (p := ⟨g, T, none⟩) (by have := HGG.out; simp only; omega) (.bool true))
                  subst hF h4
                  clear h1 h2 h3 hT hgd ST e1 e2
                  go_wp2_with fail
                  refine (in_at H1.out _).mono ?_
                  rintro e1 w1 ⟨rfl, rfl⟩
                  go_wp2_with fail
                  refine (in_at H2.out _).mono ?_
                  rintro e1 w1 ⟨rfl, rfl⟩
                  go_wp2_with fail
                  refine (in_at H3.out _).mono ?_
                  rintro e1 w1 ⟨rfl, rfl⟩
                  go_wp2_with fail
                  go_roundw
                  case rel => exact ⟨k + 1, HLT.out, by omega, by go_num, HA2, ST2, BA2⟩
                  case measure => simp [intOf]; omega
              · rw [decide_eq_false h5] at cF
                have R := Lib.hid (BAD.out (fun q r => by obtain ⟨⟨r1, r2⟩, _⟩ := r; simp only at r1 r2; omega))
                subst hF h4
                clear h1 h2 h3 hT cT
                go_wp2_with fail
                refine (in_at H1.out _).mono ?_
                rintro e1 w1 ⟨rfl, rfl⟩
                go_wp2_with fail
                refine (in_at H2.out _).mono ?_
                rintro e1 w1 ⟨rfl, rfl⟩
                go_wp2_with fail
                refine (in_at H3.out _).mono ?_
                rintro e1 w1 ⟨rfl, rfl⟩
                go_wp2_with fail
                go_ret
                exact ⟨ret_boolT R.out.symm, BA.out⟩
            · have t4 : (ton != ((F : Int) + 1) % 12) = true := by simp; omega
              have R := Lib.hid (BAD.out (fun q r => by obtain ⟨⟨r1, r2⟩, _⟩ := r; simp only at r1 r2; omega))
              subst hF
              clear h1 h2 h3 h4 cF
              go_wp2_with fail
              refine (in_at H1.out _).mono ?_
              rintro e1 w1 ⟨rfl, rfl⟩
              go_wp2_with fail
              refine (in_at H2.out _).mono ?_
              rintro e1 w1 ⟨rfl, rfl⟩
              go_wp2_with fail
              refine (in_at H3.out _).mono ?_
              rintro e1 w1 ⟨rfl, rfl⟩
              go_wp2_with fail
              go_ret
              exact ⟨ret_boolT R.out.symm, BA.out⟩
          · have H3 := Lib.hid (decide_eq_false h3)
            have R := Lib.hid (BAD.out (fun q r => by obtain ⟨⟨r1, r2⟩, _⟩ := r; simp only at r1 r2; omega))
            clear h1 h2 h3
            go_wp2_with fail
            refine (in_at H1.out _).mono ?_
            rintro e1 w1 ⟨rfl, rfl⟩
            go_wp2_with fail
            refine (in_at H2.out _).mono ?_
            rintro e1 w1 ⟨rfl, rfl⟩
            go_wp2_with fail
            refine (in_at H3.out _).mono ?_
            rintro e1 w1 ⟨rfl, rfl⟩
            go_wp2_with fail
            go_ret
            exact ⟨ret_boolT R.out.symm, BA.out⟩
        · have H2 := Lib.hid (decide_eq_false h2)
          have R := Lib.hid (BAD.out (fun q r => h2 r.2.2))
          clear h1 h2
          go_wp2_with fail
          refine (in_at H1.out _).mono ?_
          rintro e1 w1 ⟨rfl, rfl⟩
          go_wp2_with fail
          refine (in_at H2.out _).mono ?_
          rintro e1 w1 ⟨rfl, rfl⟩
          go_wp2_with fail
          go_ret
          exact ⟨ret_boolT R.out.symm, BA.out⟩
      · have H1 := Lib.hid (decide_eq_false h1)
        have R := Lib.hid (BAD.out (fun q r => h1 r.2.1))
        clear h1
        go_wp2_with fail
        refine (in_at H1.out _).mono ?_
        rintro e1 w1 ⟨rfl, rfl⟩
        go_wp2_with fail
        go_ret
        exact ⟨ret_boolT R.out.symm, BA.out⟩
    · have q3 : ¬ (k : Int) < n := by omega
      obtain rfl : k = n := by omega
      have R := Lib.hid (planB_good (xs := xs) (by have := HN.out; omega) (by rw [← HN.out]; exact HA.out))
      go_wp2_with fail
      go_ret
      exact ⟨ret_boolT (by rw [R.out]; exact decide_eq_true (by omega)), HB.out⟩
end Go.Proofs.Ytbklnlmijkclmaa
