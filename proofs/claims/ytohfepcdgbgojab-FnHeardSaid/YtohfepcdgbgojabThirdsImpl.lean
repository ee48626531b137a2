/- Contracts of impl.ThirdsOf, impl.sumOfDifferences and impl.DifferenceOf. -/
import Derived.Test.YtohfepcdgbgojabSDiff
import Derived.Test.YtohfepcdgbgojabDiffLaw
namespace Go.Proofs.Ytohfepcdgbgojab
open Go.RowKit Go.Joins
set_option linter.unusedVariables false
set_option maxRecDepth 100000 in
set_option maxHeartbeats 4000000 in
theorem thirds_impl : ThirdsImpl := by
  rintro xs ys hys w b e v hl h
  rw [show ys = thirdsL xs from hys]
  clear hys
  have CO := Lib.hid (fun X (hX : Below w.heap.size w X) => cirOk_impl X b e v xs hl (own_below h hX))
  by_cases hc : CirOk xs
  · rw [show cirB xs = true from decide_eq_true hc] at CO
    rw [thirdsL_ok hc]
    obtain ⟨q, c, rfl, hq, _, _, hcl⟩ := cir_row h hc
    obtain ⟨i0, hif, hz0, hz1, hz2⟩ := info_parts infoInt
    have HCL := Lib.hid hcl
    have HQ := Lib.hid hq
    have HC := Lib.hid hc
    clear h hl hcl hq hc
    go_enter Try.func40, Try.ntmps40
    go_upto_region 1 with fail
    obtain ⟨W0, hW0⟩ : ∃ W0, W0 = w.alloc (.cells #[.slice (some ⟨q, 0, none⟩) 12 c] 29) := ⟨_, rfl⟩
    obtain ⟨m, hm⟩ : ∃ m, m = w.heap.size := ⟨_, rfl⟩
    have b0 : Below w.heap.size w W0 := by rw [hW0]; exact below_alloc1 w _
    have x0 : One m (.slice (some ⟨q, 0, none⟩) 12 c) W0 := by rw [hW0, hm]; exact one_alloc
    have CX : Hid (CirBox xs m q c W0) := Lib.hid ⟨⟨x0.1, Nat.lt_of_lt_of_le HQ.out b0.size⟩, x0.2.1, fun j hj => (b0.cell (p := ⟨q, j, none⟩) HQ.out).trans (HCL.out j hj)⟩
    have CK := Lib.hid (CO.out W0 b0)
    have B0 := Lib.hid b0
    have c0 := x0.2.1
    rw [← hW0, ← hm]
    clear hW0 hm b0 x0
    go_wp2_with fail
    refine CK.out.mono ?_
    rintro e1 w1 ⟨rfl, b1⟩
    have CX1 := Lib.hid (cirBox_keep CX.out b1)
    have B1 := Lib.hid (B0.out.trans (b1.mono B0.out.size))
    clear b1 c0 CX B0 CK CO
    go_wp2_with fail
    go_loopw [3, 8] (fun v i wr => ∃ k : Nat, k ≤ 12 ∧ i = .int .i64 (k : Int) ∧ Hid (wr.ownsRow w1.heap.size 3 1 v k (intCs (thTo xs k))) ∧ Hid (Below w1.heap.size w1 wr)) (fun _ i _ => 12 - (intOf i).toNat)
    case atStart => exact ⟨0, Nat.zero_le _, by go_num, Lib.hid (World.ownsRow_nil _ _ _ _), Lib.hid (Below.refl _ _)⟩
    case round =>
      obtain ⟨k, hk, rfl, HO, HB⟩ := hrel
      by_cases hlt : k < 12
      · have q3 : (k : Int) < 12 := by omega
        have CB := cirBox_keep CX1.out HB.out
        have c1 := CB.2.1
        have PF := Lib.hid (partsFrom_any HC.out k 4 hlt (by omega) wr q c CB.1.2 CB.2.2)
        obtain ⟨x, hx⟩ : ∃ x, x = cycTo xs k 4 := ⟨_, rfl⟩
        rw [← hx] at PF
        have HX := Lib.hid hx
        have HLT := Lib.hid hlt
        clear CB hx hlt
        go_wp2_with fail
        refine PF.out.mono ?_
        rintro e2 w2 ⟨rfl, b2⟩
        have O3 := Lib.hid (own_below HO.out b2)
        have B3 := Lib.hid (HB.out.trans (b2.mono HB.out.size))
        clear c1 b2 HO HB PF
        go_wp2_with (at_builtin; refine wpList_append_lies _ rfl (.tmp 11) (.tmp 15) 24 rfl w1.heap.size 3 i0 (.int .i64 0) 1 8 Try.underlying24 hif hz0 hz1 hz2 rfl (by decide) _ k _ rfl (O3.out.alloc _) ⟨_, 0, none⟩ 1 1 _ rfl rfl (World.news_of_block (heap_alloc_new _ _)) (by simp [Value.oneCell']) (by decide) (by unfold maxLen; omega) (by omega) (by have := B3.out.size; simp; omega) _ rfl ?_; intro g1 cap1 w5 hown' hgrow hat hgt)
        have R5 := Lib.hid ((B3.out.alloc B3.out.size _).grown hgrow (Nat.le_trans B3.out.size (by simp)) (fun j hj => (O3.out.lt j hj).1))
        rw [HX.out] at hown'
        have O5 := Lib.hid (ths_snoc hown')
        clear hown' hgrow hat hgt O3 B3
        go_wp2_with fail
        go_roundw
        case rel => exact ⟨k + 1, HLT.out, by go_num, O5, R5⟩
        case measure => simp [intOf]; omega
      · have q3 : ¬ (k : Int) < 12 := by omega
        obtain rfl : k = 12 := by omega
        go_wp2_with fail
        go_ret
        refine ⟨_, rfl, ?_, B1.out.trans (HB.out.mono B1.out.size)⟩
        rw [thTo_len]
        exact own_base HO.out B1.out.size
  · rw [show cirB xs = false from decide_eq_false hc] at CO
    rw [thirdsL_no hc]
    obtain ⟨p1, c1, hs1⟩ := own_slice h
    clear h hl hc
    generalize xs.length = l1 at hs1
    subst hs1
    go_enter Try.func40, Try.ntmps40
    go_upto_region 1 with fail
    obtain ⟨W1, hW1⟩ : ∃ W1, W1 = w.alloc (.cells #[.slice p1 l1 c1] 29) := ⟨_, rfl⟩
    obtain ⟨m, hm⟩ : ∃ m, m = w.heap.size := ⟨_, rfl⟩
    have B1 := Lib.hid (show Below w.heap.size w W1 from by rw [hW1]; exact below_alloc1 w _)
    have X1 : One m (.slice p1 l1 c1) W1 := by rw [hW1, hm]; exact one_alloc
    rw [← hW1, ← hm]
    clear hW1 hm
    have x1 := X1.2.1
    have CK := Lib.hid (CO.out W1 B1.out)
    clear X1
    go_wp2_with fail
    refine CK.out.mono ?_
    rintro e1 w1 ⟨rfl, b1⟩
    have B2 := Lib.hid (B1.out.trans (b1.mono B1.out.size))
    clear b1 x1 B1
    go_wp2_with fail
    go_ret
    exact ⟨_, rfl, World.ownsRow_nil _ _ _ _, B2.out⟩
set_option maxRecDepth 100000 in
set_option maxHeartbeats 4000000 in
theorem dist_impl (w : World) (b1 b2 : Nat) (e1 e2 : TypeId) (v1 v2 : Value) (xs ys : List Int) (hx : SmallI xs) (hy : SmallI ys) (h1 : w.ownsRow b1 e1 1 v1 12 (intCs xs)) (h2 : w.ownsRow b2 e2 1 v2 12 (intCs ys)) :
    Calls Try.prog 74 #[v1, v2] w fun e w' => e = .returned (.int .i64 (dTo xs ys 12)) ∧ Below w.heap.size w w' := by
  obtain ⟨g1, c1, rfl, _, l1⟩ := own_pos h1 (by omega)
  obtain ⟨g2, c2, rfl, _, l2⟩ := own_pos h2 (by omega)
  have H1 := Lib.hid h1
  have H2 := Lib.hid h2
  have HX := Lib.hid hx
  have HY := Lib.hid hy
  have LL := Lib.hid (And.intro l1 l2)
  clear h1 h2 hx hy l1 l2
  go_enter Try.func74, Try.ntmps74
  go_wp2_with fail
  go_loopw [5, 10] (fun n i wr => ∃ (k : Nat) (d : Int), k ≤ 12 ∧ n = .int .i64 d ∧ i = .int .i64 (k : Int) ∧ Hid (d = dTo xs ys k) ∧ Hid (Below w.heap.size w wr)) (fun _ i _ => 12 - (intOf i).toNat)
  case atStart => exact ⟨0, 0, Nat.zero_le _, rfl, by go_num, Lib.hid rfl, Lib.hid (Below.refl _ _)⟩
  case round =>
    obtain ⟨k, d, hk, rfl, rfl, HD, HB⟩ := hrel
    by_cases hlt : k < 12
    · have q3 : (k : Int) < 12 := by omega
      have q1 := own_icell (own_below H1.out HB.out) k hlt
      have q2 := own_icell (own_below H2.out HB.out) k hlt
      have bd := dTo_small HX.out HY.out k
      have bx := HX.out k
      have byy := HY.out k
      obtain ⟨x, hxk⟩ : ∃ x, x = xs.getD k 0 := ⟨_, rfl⟩
      obtain ⟨y, hyk⟩ : ∃ y, y = ys.getD k 0 := ⟨_, rfl⟩
      rw [← hxk] at q1 bx
      rw [← hyk] at q2 byy
      have hd : 0 ≤ d ∧ d ≤ 4800 := by have := HD.out; omega
      obtain ⟨z, hz⟩ : ∃ z, z = dTo xs ys (k + 1) := ⟨_, rfl⟩
      have W : Hid (IntKind.i64.wrap (d + if IntKind.i64.wrap (x - y) < IntKind.i64.wrap (y - x) then IntKind.i64.wrap (y - x) else IntKind.i64.wrap (x - y)) = z) := Lib.hid (by
        rw [IntWalk.i64_in (x - y) (by omega), IntWalk.i64_in (y - x) (by omega)]
        have e : dTo xs ys (k + 1) = dTo xs ys k + max (x - y) (y - x) := by rw [hxk, hyk]; rfl
        rw [hz, e, ← HD.out]
        obtain ⟨q, hq⟩ : ∃ q, q = if x - y < y - x then y - x else x - y := ⟨_, rfl⟩
        have hq2 : q = max (x - y) (y - x) := by rw [hq]; split <;> omega
        rw [← hq, hq2]
        exact IntWalk.i64_in _ (by omega))
      have HZ := Lib.hid hz
      have TI : Hid (TwoI g1 g2 k x y wr) := Lib.hid ⟨⟨Nat.lt_of_lt_of_le LL.out.1 HB.out.size, Nat.lt_of_lt_of_le LL.out.2 HB.out.size⟩, q1, q2⟩
      have HLT := Lib.hid hlt
      clear q2 hxk hyk bd hlt hz
      go_upto_region 5 with fail
      go_region_held3 (fun w' => w'.cell? ⟨g1, k, none⟩ = some (.int .i64 x) ∧ w'.cell? ⟨g2, k, none⟩ = some (.int .i64 y)) (first | exact twoI_cells (TI.out : TwoI g1 g2 k x y wr)) (fail)
      all_goals
        rw [W.out]
        go_wp2_with fail
        go_roundw
        case rel => exact ⟨k + 1, z, HLT.out, rfl, by go_num, HZ, Lib.hid HB.out.drew⟩
        case measure => simp [intOf]; omega
    · have q3 : ¬ (k : Int) < 12 := by omega
      obtain rfl : k = 12 := by omega
      go_wp2_with fail
      go_ret
      exact ⟨ret_int HD.out, HB.out⟩
theorem thirdsI (w : World) (b : Nat) (e : TypeId) (v : Value) (xs : List Int) (hl : xs.length ≤ 2000000) (h : w.ownsRow b e 1 v xs.length (intCs xs)) :
    Calls Try.prog 40 #[cirV v] w (OwnPost 3 (thirdsL xs) w) := thirds_impl xs _ rfl w b e v hl h
theorem distI_run {v1 v2 : Value} {xs ys : List Int} {w : World} (h1 : TRow v1 xs w) (h2 : TRow v2 ys w) {W : World} (hW : Below W.heap.size W w) : Calls Try.prog 74 #[v1, v2] w fun e w' => e = .returned (.int .i64 (dTo (thTo xs 12) (thTo ys 12) 12)) ∧ Below W.heap.size W w' := by
  obtain ⟨c1, b1, o1⟩ := h1
  obtain ⟨c2, b2, o2⟩ := h2
  exact (dist_impl w b1 b2 _ _ v1 v2 _ _ (fun i => by have := thTo_in c1 i; omega) (fun i => by have := thTo_in c2 i; omega) o1 o2).mono fun _ _ ⟨he, hb⟩ => ⟨he, hW.trans (hb.mono hW.size)⟩
def TwiSay (u : Value) (xs : List Int) (W : World) : Prop := ∀ X, Below W.heap.size W X → Calls Try.prog 40 #[cirV u] X fun e w' => ∃ v, e = .returned v ∧ TRow v xs w' ∧ Below X.heap.size X w' ∧ Below W.heap.size W w'
theorem twi_run {u : Value} {xs : List Int} {W : World} (h : TwiSay u xs W) (X : World) (hX : Below W.heap.size W X) : Calls Try.prog 40 #[cirV u] X fun e w' => ∃ v, e = .returned v ∧ TRow v xs w' ∧ Below X.heap.size X w' ∧ Below W.heap.size W w' := h X hX
theorem twi_says {u : Value} {xs : List Int} {W : World} {b : Nat} {e : TypeId} (hc : CirOk xs) (h : W.ownsRow b e 1 u xs.length (intCs xs)) : TwiSay u xs W := fun X hX => by
  refine (thirdsI X b e u xs (by have := hc.1; omega) (own_below h hX)).mono ?_
  rintro e1 w1 ⟨v, rfl, o1, b1⟩
  rw [thirdsL_ok hc, thTo_len] at o1
  exact ⟨v, rfl, ⟨hc, _, o1⟩, b1, hX.trans (b1.mono hX.size)⟩
set_option maxRecDepth 100000 in
set_option maxHeartbeats 4000000 in
theorem diffI {xs ys : List Int} {d : Int} (hf : DiffAt xs ys d) (w : World) (b1 b2 : Nat) (e1 e2 : TypeId) (v1 v2 : Value) (hx : xs.length ≤ 2000000) (hy : ys.length ≤ 2000000) (h1 : w.ownsRow b1 e1 1 v1 xs.length (intCs xs)) (h2 : w.ownsRow b2 e2 1 v2 ys.length (intCs ys)) :
    Calls Try.prog 41 #[cirV v1, cirV v2] w fun e w' => e = .returned (.int .i64 d) ∧ Below w.heap.size w w' := by
  obtain ⟨W0, hW0⟩ : ∃ W, W = (w.alloc (.cells #[v1] 29)).alloc (.cells #[v2] 29) := ⟨_, rfl⟩
  have b0 : Below w.heap.size w W0 := by rw [hW0]; exact below_alloc2 w _ _
  have C1 := Lib.hid (fun X (hX : Below w.heap.size w X) => cirOk_impl X b1 e1 v1 xs hx (own_below h1 hX))
  have C2 := Lib.hid (fun X (hX : Below w.heap.size w X) => cirOk_impl X b2 e2 v2 ys hy (own_below h2 hX))
  have R1 := Lib.hid (own_below h1 b0)
  have R2 := Lib.hid (own_below h2 b0)
  have B0 := Lib.hid b0
  have TB : Hid (TwoB w.heap.size (w.heap.size + 1) v1 v2 W0) := Lib.hid (by
    rw [hW0]
    refine ⟨one_al one_alloc, ?_⟩
    have h := one_alloc (w := w.alloc (.cells #[v1] 29)) (v := v2) (t := 29)
    rwa [World.size_alloc] at h)
  obtain ⟨p1, c1, hs1⟩ := own_slice h1
  obtain ⟨p2, c2, hs2⟩ := own_slice h2
  have HF := Lib.hid hf
  clear h1 h2 hx hy b0 hf
  generalize xs.length = l1 at hs1 R1
  generalize ys.length = l2 at hs2 R2
  subst hs1
  subst hs2
  go_enter Try.func41, Try.ntmps41
  go_upto_region 1 with fail
  rw [← hW0]
  clear hW0
  obtain ⟨m, hm⟩ : ∃ m, m = w.heap.size := ⟨_, rfl⟩
  rw [← hm] at TB ⊢
  clear hm
  obtain ⟨c0, c1'⟩ := twoB_cells TB.out
  by_cases hc1 : CirOk xs
  · rw [show cirB xs = true from decide_eq_true hc1] at C1
    by_cases hc2 : CirOk ys
    · rw [show cirB ys = true from decide_eq_true hc2] at C2
      have HD := Lib.hid (diff_ret HF.out ⟨hc1, hc2⟩)
      have HC1 := Lib.hid hc1
      have HC2 := Lib.hid hc2
      clear hc1 hc2
      go_wp2_with fail
      refine (C1.out _ B0.out).mono ?_
      rintro e w1 ⟨rfl, b1⟩
      have B1 := Lib.hid (B0.out.trans (b1.mono B0.out.size))
      have T1 := Lib.hid (twoB_keep b1 TB.out)
      have Q1 := Lib.hid (own_below R1.out b1)
      have Q2 := Lib.hid (own_below R2.out b1)
      clear b1 c0 c1' TB R1 R2 B0
      obtain ⟨c0, c1'⟩ := twoB_cells T1.out
      go_wp2_with fail
      refine (C2.out _ B1.out).mono ?_
      rintro e w2 ⟨rfl, b2⟩
      have B2 := Lib.hid (B1.out.trans (b2.mono B1.out.size))
      have T2 := Lib.hid (twoB_keep b2 T1.out)
      have S1 : TwiSay (.slice p1 l1 c1) xs w2 := twi_says HC1.out (own_eq (own_below Q1.out b2) (rfl : xs = xs) (by have := Q1.out.1; rw [intCs_len] at this; omega))
      have S2 : TwiSay (.slice p2 l2 c2) ys w2 := twi_says HC2.out (own_eq (own_below Q2.out b2) (rfl : ys = ys) (by have := Q2.out.1; rw [intCs_len] at this; omega))
      clear b2 c0 c1' T1 Q1 Q2 B1
      go_upto_region 3 with fail
      go_region_held3 (fun w' => w'.cell? ⟨m, 0, none⟩ = some (.slice p1 l1 c1) ∧ w'.cell? ⟨m + 1, 0, none⟩ = some (.slice p2 l2 c2)) (first | exact twoB_cells (T2.out : TwoB m (m + 1) (.slice p1 l1 c1) (.slice p2 l2 c2) w2) | exact twoB_cells (twoB_keep (by assumption) T2.out))
        (first
          | (go_at_call 40; refine (twi_run (W := w2) (by with_reducible assumption) _ (by with_reducible first | assumption | exact (Below.refl _ _).drew)).mono ?_; rintro e1 w3 ⟨v3, rfl, htr, hbx, hb⟩)
          | (go_at_call 74; refine (distI_run (W := w2) (by with_reducible first | assumption | exact trow_keep (by assumption) (by assumption)) (by with_reducible first | assumption | exact trow_keep (by assumption) (by assumption)) (by with_reducible assumption)).mono ?_; rintro e1 w3 ⟨rfl, hb⟩))
      all_goals
        have B3 := Lib.hid (B2.out.trans (hb.mono B2.out.size))
        rw [← HD.out]
        go_wp2_with fail
        go_ret
        exact ⟨rfl, B3.out⟩
    · rw [show cirB ys = false from decide_eq_false hc2] at C2
      have HD := Lib.hid (diff_no HF.out (fun h => hc2 h.2))
      clear hc1 hc2
      go_wp2_with fail
      refine (C1.out _ B0.out).mono ?_
      rintro e w1 ⟨rfl, b1⟩
      have B1 := Lib.hid (B0.out.trans (b1.mono B0.out.size))
      have T1 := Lib.hid (twoB_keep b1 TB.out)
      clear b1 c0 c1' TB R1 R2 B0
      obtain ⟨c0, c1'⟩ := twoB_cells T1.out
      go_wp2_with fail
      refine (C2.out _ B1.out).mono ?_
      rintro e w2 ⟨rfl, b2⟩
      have B2 := Lib.hid (B1.out.trans (b2.mono B1.out.size))
      clear b2 c0 c1' T1 B1
      go_wp2_with fail
      go_ret
      exact ⟨ret_int HD.out.symm, B2.out⟩
  · rw [show cirB xs = false from decide_eq_false hc1] at C1
    have HD := Lib.hid (diff_no HF.out (fun h => hc1 h.1))
    clear hc1
    go_wp2_with fail
    refine (C1.out _ B0.out).mono ?_
    rintro e w1 ⟨rfl, b1⟩
    have B1 := Lib.hid (B0.out.trans (b1.mono B0.out.size))
    clear b1 c0 c1' TB R1 R2 B0
    go_wp2_with fail
    go_ret
    exact ⟨ret_int HD.out.symm, B1.out⟩
theorem diff_impl : DiffImpl := fun xs ys d hf w b1 b2 e1 e2 v1 v2 hx hy h1 h2 => diffI hf w b1 b2 e1 e2 v1 v2 hx hy h1 h2
end Go.Proofs.Ytohfepcdgbgojab
