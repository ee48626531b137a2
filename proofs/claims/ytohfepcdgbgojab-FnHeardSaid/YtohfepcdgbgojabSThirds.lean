/- Contract of spec.ThirdsOf. -/
import Derived.Test.YtohfepcdgbgojabHeardMath
import Derived.Test.YtohfepcdgbgojabBestCir
import Derived.Test.YtohfepcdgbgojabCirRows
import Derived.Test.YtohfepcdgbgojabIntRows
namespace Go.Proofs.Ytohfepcdgbgojab
open Go.RowKit Go.Joins
set_option linter.unusedVariables false
theorem ths_snoc {w : World} {B g cap k : Nat} {e : TypeId} {xs : List Int} (h : w.ownsRow B e 1 (.slice (some ⟨g, 0, none⟩) (k + 1) cap) (k + 1) (intCs (thTo xs k) ++ [.int .i64 (cycTo xs k 4)])) : w.ownsRow B e 1 (.slice (some ⟨g, 0, none⟩) (k + 1) cap) (k + 1) (intCs (thTo xs (k + 1))) := by
  rw [thTo_succ]
  have e1 : intCs (thTo xs k ++ [cycTo xs k 4]) = intCs (thTo xs k) ++ [.int .i64 (cycTo xs k 4)] := by simp [intCs]
  rw [e1]
  exact h
set_option maxRecDepth 100000 in
set_option maxHeartbeats 4000000 in
theorem thirds_spec (w : World) (b : Nat) (e : TypeId) (v : Value) (xs : List Int) (hl : xs.length ≤ 2000000) (h : w.ownsRow b e 1 v xs.length (intCs xs)) :
    Calls Try.prog 42 #[cirV v] w (OwnPost 3 (thirdsL xs) w) := by
  have CO := Lib.hid (fun X (hX : Below w.heap.size w X) => cirOk_spec X b e v xs hl (own_below h hX))
  by_cases hc : CirOk xs
  · rw [show cirB xs = true from decide_eq_true hc] at CO
    rw [thirdsL_ok hc]
    obtain ⟨q, c, rfl, hq, _, _, hcl⟩ := cir_row h hc
    obtain ⟨i0, hif, hz0, hz1, hz2⟩ := info_parts infoInt
    have HCL := Lib.hid hcl
    have HQ := Lib.hid hq
    have HC := Lib.hid hc
    clear h hl hcl hq hc
    go_enter Try.func42, Try.ntmps42
    go_upto_region 1 with fail
    obtain ⟨W0, hW0⟩ : ∃ W0, W0 = w.alloc (.cells #[.slice (some ⟨q, 0, none⟩) 12 c] 29) := ⟨_, rfl⟩
    obtain ⟨m, hm⟩ : ∃ m, m = w.heap.size := ⟨_, rfl⟩
    have b0 : Below w.heap.size w W0 := by rw [hW0]; exact below_alloc1 w _
    have x0 : One m (.slice (some ⟨q, 0, none⟩) 12 c) W0 := by rw [hW0, hm]; exact one_alloc
    have CX : Hid (CirBox xs m q c W0) := Lib.hid ⟨⟨x0.1, Nat.lt_of_lt_of_le HQ.out b0.size⟩, x0.2.1, fun j hj => (b0.cell (p := ⟨q, j, none⟩) HQ.out).trans (HCL.out j hj)⟩
    have B0 := Lib.hid b0
    rw [← hW0, ← hm]
    clear hW0 hm b0 x0
    go_upto_region 2 with fail
    obtain ⟨W1, hW1⟩ : ∃ W1, W1 = W0.alloc (.cells #[] 3) := ⟨_, rfl⟩
    have O1 : Hid (W1.ownsRow W0.heap.size 3 1 (.slice (some ⟨W0.heap.size, 0, none⟩) 0 0) 0 (intCs (thTo xs 0))) := Lib.hid (by rw [hW1]; exact World.ownsRow_lit W0 #[] 0 (Nat.le_refl _) (by unfold maxLen; omega) rfl)
    have B1 : Hid (Below W0.heap.size W0 W1) := Lib.hid (by rw [hW1]; exact below_alloc1 W0 _)
    rw [← hW1]
    clear hW1
    go_wp2_with fail
    go_loopw [3, 4] (fun v i wr => ∃ k : Nat, k ≤ 12 ∧ i = .int .i64 (k : Int) ∧ Hid (wr.ownsRow W0.heap.size 3 1 v k (intCs (thTo xs k))) ∧ Hid (Below W0.heap.size W0 wr)) (fun _ i _ => 12 - (intOf i).toNat)
    case atStart => exact ⟨0, Nat.zero_le _, by go_num, O1, B1⟩
    case round =>
      obtain ⟨k, hk, rfl, HO, HB⟩ := hrel
      by_cases hlt : k < 12
      · have q3 : (k : Int) < 12 := by omega
        have CB := cirBox_keep CX.out HB.out
        have c1 := CB.2.1
        have SF := Lib.hid (sfSay_at HC.out hlt CB)
        have CK := Lib.hid (CO.out wr (B0.out.trans (HB.out.mono B0.out.size)))
        obtain ⟨x, hx⟩ : ∃ x, x = cycTo xs k 4 := ⟨_, rfl⟩
        rw [keyC_nat, ← hx] at SF
        have HX := Lib.hid hx
        have HLT := Lib.hid hlt
        clear CB hx hlt O1 B1
        go_wp2_with fail
        refine CK.out.mono ?_
        rintro e1 w1 ⟨rfl, b1⟩
        have O2 := Lib.hid (own_below HO.out b1)
        have B2 := Lib.hid (HB.out.trans (b1.mono HB.out.size))
        have CX2 := cirBox_keep CX.out B2.out
        have c2 := CX2.2.1
        have hb1 := b1
        clear c1 b1 HO HB CK CX2
        go_wp2_with fail
        refine (sf_run SF.out _ hb1).mono ?_
        rintro e2 w2 ⟨rfl, b2⟩
        have O3 := Lib.hid (own_below O2.out b2)
        have B3 := Lib.hid (B2.out.trans (b2.mono B2.out.size))
        clear c2 b2 hb1 O2 B2 SF
        go_wp2_with (at_builtin; refine wpList_append_lies _ rfl (.tmp 14) (.tmp 18) 24 rfl W0.heap.size 3 i0 (.int .i64 0) 1 8 Try.underlying24 hif hz0 hz1 hz2 rfl (by decide) _ k _ rfl (O3.out.alloc _) ⟨_, 0, none⟩ 1 1 _ rfl rfl (World.news_of_block (heap_alloc_new _ _)) (by simp [Value.oneCell']) (by decide) (by unfold maxLen; omega) (by omega) (by have := B3.out.size; simp; omega) _ rfl ?_; intro g1 cap1 w5 hown' hgrow hat hgt)
        have R5 := Lib.hid ((B3.out.alloc B3.out.size _).grown hgrow (Nat.le_trans B3.out.size (by simp)) (fun j hj => (O3.out.lt j hj).1))
        rw [HX.out] at hown'
        have O5 := Lib.hid (ths_snoc hown')
        clear hown' hgrow hat hgt O3 B3
        go_wp2_with fail
        go_roundw
        case rel => exact ⟨k + 1, HLT.out, by go_num, O5, R5⟩
        case measure => simp [intOf]; omega
      · have q3 : ¬ (k : Int) < 12 := by omega
        obtain rfl : k = 12 := by omega
        clear O1 B1
        go_wp2_with fail
        go_ret
        refine ⟨_, rfl, ?_, B0.out.trans (HB.out.mono B0.out.size)⟩
        rw [thTo_len]
        exact own_base HO.out B0.out.size
  · rw [show cirB xs = false from decide_eq_false hc] at CO
    rw [thirdsL_no hc]
    clear h hl hc
    go_enter Try.func42, Try.ntmps42
    go_upto_region 2 with fail
    obtain ⟨W1, hW1⟩ : ∃ W1, W1 = (w.alloc (.cells #[v] 29)).alloc (.cells #[] 3) := ⟨_, rfl⟩
    obtain ⟨m, hm⟩ : ∃ m, m = w.heap.size := ⟨_, rfl⟩
    have O1 : Hid (W1.ownsRow w.heap.size 3 1 (.slice (some ⟨m + 1, 0, none⟩) 0 0) 0 (intCs [])) := Lib.hid (by
      have k := World.ownsRow_lit (base := w.heap.size) (e := 3) (size := 1) (w.alloc (.cells #[v] 29)) #[] 0 (by simp) (by unfold maxLen; omega) rfl
      rw [World.size_alloc] at k
      rw [hW1, hm]
      exact k)
    have B1 : Hid (Below w.heap.size w W1) := Lib.hid (by rw [hW1]; exact below_alloc2 w _ _)
    have X1 : Hid (One m v W1) := Lib.hid (by rw [hW1, hm]; exact one_al one_alloc)
    rw [← hW1]
    try rw [← hm]
    clear hW1 hm
    obtain ⟨_, x1, _⟩ := X1.out
    have CK := Lib.hid (CO.out W1 B1.out)
    go_wp2_with fail
    go_loopw [3, 4] (fun v i wr => v = .slice (some ⟨m + 1, 0, none⟩) 0 0 ∧ i = .int .i64 0 ∧ wr = W1) (fun _ _ _ => 1)
    case atStart => exact ⟨rfl, by go_num, rfl⟩
    case round =>
      obtain ⟨rfl, rfl, rfl⟩ := hrel
      go_wp2_with fail
      refine CK.out.mono ?_
      rintro e1 w1 ⟨rfl, b1⟩
      have O2 := Lib.hid (own_below O1.out b1)
      have B2 := Lib.hid (B1.out.trans (b1.mono B1.out.size))
      clear b1 O1 B1 x1
      go_wp2_with fail
      go_ret
      exact ⟨_, rfl, O2.out, B2.out⟩
/-- The thirds, in the laws' form. -/
def ThsAt (xs ys : List Int) : Prop := ys = thirdsL xs
theorem thsAt_ex (xs : List Int) : ∃ ys, ThsAt xs ys := ⟨_, rfl⟩
theorem thsAt_len {xs ys : List Int} (h : ThsAt xs ys) : ys.length ≤ 12 := by rw [show ys = thirdsL xs from h]; exact thirdsL_len xs
theorem thsAt_spec {xs ys : List Int} (h : ThsAt xs ys) (w : World) (b : Nat) (e : TypeId) (v : Value) (hl : xs.length ≤ 2000000) (o : w.ownsRow b e 1 v xs.length (intCs xs)) :
    Calls Try.prog 42 #[cirV v] w (OwnPost 3 ys w) := by
  rw [show ys = thirdsL xs from h]
  exact thirds_spec w b e v xs hl o
/-- The program's ThirdsOf answers as the model's. -/
def ThirdsImpl : Prop := ∀ (xs ys : List Int), ThsAt xs ys → ∀ (w : World) (b : Nat) (e : TypeId) (v : Value), xs.length ≤ 2000000 → w.ownsRow b e 1 v xs.length (intCs xs) →
    Calls Try.prog 40 #[cirV v] w (OwnPost 3 ys w)
end Go.Proofs.Ytohfepcdgbgojab
/- Contract of spec.l15Same over slices of ints that the call owns. -/
namespace Go.Proofs.Ytohfepcdgbgojab
open Go.RowKit
set_option linter.unusedVariables false
set_option maxHeartbeats 400000 in
theorem same15_any (w : World) (b1 b2 : Nat) (e1 e2 : TypeId) (v1 v2 : Value) (xs ys : List Int) (hx : xs.length ≤ 2000000) (hy : ys.length ≤ 2000000) (h1 : w.ownsRow b1 e1 1 v1 xs.length (intCs xs)) (h2 : w.ownsRow b2 e2 1 v2 ys.length (intCs ys)) :
    Calls Try.prog 76 #[v1, v2] w fun e w' => e = .returned (.bool (decide (xs = ys))) ∧ Below w.heap.size w w' := by
  obtain ⟨n, hn⟩ : ∃ n, n = xs.length := ⟨_, rfl⟩
  obtain ⟨m, hm⟩ : ∃ m, m = ys.length := ⟨_, rfl⟩
  rw [← hn] at h1 hx
  rw [← hm] at h2 hy
  have HN := Lib.hid hn
  have HM := Lib.hid hm
  clear hn hm
  by_cases hne : n = m
  · subst hne
    rcases Nat.eq_zero_or_pos n with h0 | h0
    · obtain ⟨p1, c1, rfl⟩ := own_zero h1 h0
      obtain ⟨p2, c2, rfl⟩ := own_zero h2 h0
      have R : xs = ys := by rw [List.eq_nil_of_length_eq_zero (HN.out.symm.trans h0), List.eq_nil_of_length_eq_zero (HM.out.symm.trans h0)]
      have HR := Lib.hid R
      clear h1 h2 h0 R
      go_enter Try.func76, Try.ntmps76
      go_wp2
      refine wp_loop_rounds 1 ?_
      rw [rounds_succ]
      go_wp2
      go_ret
      exact ⟨ret_bool (decide_eq_true HR.out).symm, Below.refl _ _⟩
    · obtain ⟨g1, c1, rfl, _, _⟩ := own_pos h1 h0
      obtain ⟨g2, c2, rfl, _, _⟩ := own_pos h2 h0
      have t0 : ((n : Int) != (n : Int)) = false := by simp
      go_enter Try.func76, Try.ntmps76
      go_wp2
      go_loopw [5] (fun i wr => ∃ k d : Nat, k ≤ n ∧ i = .int .i64 k ∧ (∀ j, j < k → xs.getD j 0 = ys.getD j 0) ∧ wr = w.drewN d) (fun i _ => n - (intOf i).toNat)
      case atStart => exact ⟨0, 0, Nat.zero_le _, rfl, fun j hj => by omega, rfl⟩
      case round =>
        obtain ⟨k, d, hk, rfl, hall, rfl⟩ := hrel
        have HA := Lib.hid hall
        clear hall
        by_cases hlt : k < n
        · have q1 := own_icell h1 k hlt
          have q2 := own_icell h2 k hlt
          have q3 : (k : Int) < n := by omega
          obtain ⟨x, hxk⟩ : ∃ x, x = xs.getD k 0 := ⟨_, rfl⟩
          obtain ⟨y, hyk⟩ : ∃ y, y = ys.getD k 0 := ⟨_, rfl⟩
          rw [← hxk] at q1
          rw [← hyk] at q2
          have HX := Lib.hid hxk
          have HY := Lib.hid hyk
          clear hxk hyk
          by_cases hxy : x = y
          · have t1 : (x != y) = false := by simp [hxy]
            have HXY := Lib.hid hxy
            clear hxy
            go_wp2_with fail
            go_quiet (fail)
            go_wp2_with fail
            go_roundw
            case rel => exact ⟨k + 1, _, by omega, by go_num, fun j hj => by rcases (show j < k ∨ j = k from by omega) with h | h; exact HA.out j h; rw [h, ← HX.out, ← HY.out]; exact HXY.out, rfl⟩
            case measure => simp [intOf]; omega
          · have t1 : (x != y) = true := by simp [hxy]
            have HXY := Lib.hid hxy
            clear hxy
            go_wp2_with fail
            go_quiet (fail)
            go_wp2_with fail
            go_ret
            exact ⟨ret_bool (decide_eq_false (fun h => HXY.out (by rw [HX.out, HY.out, h]))).symm, ⟨rfl, rfl, rfl, Nat.le_refl _, fun _ _ => rfl⟩⟩
        · have q3 : ¬ (k : Int) < n := by omega
          have hkn : k = n := by omega
          go_wp2_with fail
          go_ret
          exact ⟨ret_bool (decide_eq_true (ext_getD (HN.out.symm.trans HM.out) (fun j hj => HA.out j (by have := HN.out; omega)))).symm, ⟨rfl, rfl, rfl, Nat.le_refl _, fun _ _ => rfl⟩⟩
  · have s1 : ∃ p c, v1 = .slice p n c := by
      rcases own_shape h1 with ⟨h, h'⟩ | ⟨g, cap, h, _⟩
      · exact ⟨_, _, by rw [h, h']⟩
      · exact ⟨_, _, h⟩
    have s2 : ∃ p c, v2 = .slice p m c := by
      rcases own_shape h2 with ⟨h, h'⟩ | ⟨g, cap, h, _⟩
      · exact ⟨_, _, by rw [h, h']⟩
      · exact ⟨_, _, h⟩
    obtain ⟨p1, c1, rfl⟩ := s1
    obtain ⟨p2, c2, rfl⟩ := s2
    have t0 : ((n : Int) != (m : Int)) = true := by simp; omega
    have HR := Lib.hid hne
    clear h1 h2 hne
    go_enter Try.func76, Try.ntmps76
    go_wp2
    go_ret
    exact ⟨ret_bool (decide_eq_false (fun h => HR.out (by rw [HN.out, HM.out, h]))).symm, Below.refl _ _⟩
end Go.Proofs.Ytohfepcdgbgojab
