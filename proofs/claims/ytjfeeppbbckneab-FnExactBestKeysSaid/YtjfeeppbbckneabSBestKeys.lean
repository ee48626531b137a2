/- Contract of spec.BestKeys. -/
import Derived.Test.YtjfeeppbbckneabBestSort
import Derived.Test.YtjfeeppbbckneabZedC
namespace Go.Proofs.Ytjfeeppbbckneab
open Go.RowKit Go.Joins
set_option linter.unusedVariables false
/-- The numbers ahead of the place p and behind it, as far as k. -/
def Hole (L : Nat → Int) (k p : Nat) (f : Nat → Int) : Prop := (∀ t, t < p → f t = L t) ∧ ∀ t, p < t → t ≤ k → f t = L (t - 1)
theorem hole_step {L f : Nat → Int} {k p : Nat} (h : Hole L k (p + 1) f) : Hole L k p (fun t => if t = p + 1 then L p else f t) := by
  refine ⟨fun t ht => ?_, fun t h1 h2 => ?_⟩
  · show (if t = p + 1 then L p else f t) = _
    rw [if_neg (by omega)]
    exact h.1 t (by omega)
  · show (if t = p + 1 then L p else f t) = _
    by_cases e : t = p + 1
    · rw [if_pos e, e, Nat.add_sub_cancel]
    · rw [if_neg e]
      exact h.2 t (by omega) h2
theorem hole_end {L f : Nat → Int} {k p : Nat} (h : Hole L k p f) {x : Int} {t : Nat} (ht : t < k + 1) : (if t = p then x else f t) = insF L x k p t := by
  unfold insF
  by_cases h1 : t = p
  · rw [if_pos h1, if_neg (by omega), if_pos h1]
  · rw [if_neg h1]
    by_cases h2 : t < p
    · rw [if_pos h2]; exact h.1 t h2
    · rw [if_neg h2, if_neg h1, if_pos (by omega)]
      exact h.2 t (by omega) (by omega)
theorem rowI_appL {w : World} {B g cap k : Nat} {e : TypeId} {f : Nat → Int} {x : Int} (hx : x = f k) (h : w.ownsRow B e 1 (.slice (some ⟨g, 0, none⟩) (k + 1) cap) (k + 1) (intCs (rowI k f) ++ [.int .i64 x])) : w.ownsRow B e 1 (.slice (some ⟨g, 0, none⟩) (k + 1) cap) (k + 1) (intCs (rowI (k + 1) f)) := by
  rw [rowI_snoc, intCs_app, ← hx]
  exact h
theorem row_put {w : World} {B g cap n : Nat} {e : TypeId} {f f' : Nat → Int} {i : Nat} {x : Int} (h : w.ownsRow B e 1 (.slice (some ⟨g, 0, none⟩) n cap) n (intCs (rowI n f))) (hi : i < n) (hf : ∀ t, t < n → (if t = i then x else f t) = f' t) : (w.setCell ⟨g, i, none⟩ (.int .i64 x)).ownsRow B e 1 (.slice (some ⟨g, 0, none⟩) n cap) n (intCs (rowI n f')) := by
  have s := (h.stored i (.int .i64 x)).1
  rw [rowI_set f x hi, rowI_congr hf] at s
  exact s
theorem row_cell {w : World} {B g cap n : Nat} {e : TypeId} {f : Nat → Int} {i : Nat} (h : w.ownsRow B e 1 (.slice (some ⟨g, 0, none⟩) n cap) n (intCs (rowI n f))) (hi : i < n) : w.cell? ⟨g, i, none⟩ = some (.int .i64 (f i)) := by
  have k := own_icell h i hi
  rw [rowI_get f hi] at k
  exact k
/-- The circle and one number of the row. -/
def CirEl (xs : List Int) (m q c g p : Nat) (x : Int) (w : World) : Prop := CirBox xs m q c w ∧ g < w.heap.size ∧ w.cell? ⟨g, p, none⟩ = some (.int .i64 x)
theorem cirEl_keep {xs : List Int} {m q c g p : Nat} {x : Int} {w w' : World} (hb : Below w.heap.size w w') (h : CirEl xs m q c g p x w) : CirEl xs m q c g p x w' :=
  ⟨cirBox_keep h.1 hb, Nat.lt_of_lt_of_le h.2.1 hb.size, (hb.cell (p := ⟨g, p, none⟩) h.2.1).trans h.2.2⟩
theorem cirEl_cells {xs : List Int} {m q c g p : Nat} {x : Int} {w : World} (h : CirEl xs m q c g p x w) : w.cell? ⟨m, 0, none⟩ = some (.slice (some ⟨q, 0, none⟩) 12 c) ∧ w.cell? ⟨g, p, none⟩ = some (.int .i64 x) := ⟨h.1.2.1, h.2.2⟩
set_option maxRecDepth 100000 in
set_option maxHeartbeats 8000000 in
theorem best_spec13 {xs ys : List Int} (hf : BkAt xs ys) (w : World) (b : Nat) (e : TypeId) (v : Value) (hl : xs.length ≤ 2000000) (h : w.ownsRow b e 1 v xs.length (intCs xs)) :
    Calls Try.prog 16 #[cirV v] w (OwnPost 3 ys w) := by
  have CO := Lib.hid (fun w (h : w.ownsRow b e 1 v xs.length (intCs xs)) => cirOk_spec w b e v xs hl h)
  have HH := Lib.hid h
  rcases hf with ⟨hc, hy⟩ | ⟨hb, rfl⟩
  · rw [show cirB xs = true from decide_eq_true hc] at CO
    obtain ⟨i0, hif, hz0, hz1, hz2⟩ := info_parts infoInt
    obtain ⟨q, c, rfl, hq, _, _, hcl⟩ := cir_row h hc
    have HC := Lib.hid hc
    have HY := Lib.hid hy
    obtain ⟨W0, hW0⟩ : ∃ W0, W0 = w.alloc (.cells #[.slice (some ⟨q, 0, none⟩) 12 c] 26) := ⟨_, rfl⟩
    have B0 : Hid (Below w.heap.size w W0) := Lib.hid (by rw [hW0]; exact below_alloc1 w _)
    have X0 : One w.heap.size (.slice (some ⟨q, 0, none⟩) 12 c) W0 := by rw [hW0]; exact one_alloc
    have CX0 : Hid (CirBox xs w.heap.size q c W0) := Lib.hid ⟨⟨X0.1, Nat.lt_of_lt_of_le hq B0.out.size⟩, X0.2.1, fun j hj => (B0.out.cell (p := ⟨q, j, none⟩) hq).trans (hcl j hj)⟩
    have HH0 := Lib.hid (own_below HH.out B0.out)
    clear h hc hy hl hcl hq X0
    go_enter Try.func16, Try.ntmps16
    go_upto_region 1 with fail
    rw [← hW0]
    clear hW0
    generalize hm : w.heap.size = m at CX0 ⊢
    have HM := Lib.hid hm
    clear hm
    go_upto_region 2 with fail
    obtain ⟨W1, hW1⟩ : ∃ W1, W1 = W0.alloc (.cells #[] 3) := ⟨_, rfl⟩
    have O1 : Hid (W1.ownsRow W0.heap.size 3 1 (.slice (some ⟨W0.heap.size, 0, none⟩) 0 0) 0 (intCs (rowI 0 (bestF (keyC xs) 0)))) := Lib.hid (by rw [hW1]; exact own_zero_lit W0 _)
    have B1 : Hid (Below W0.heap.size W0 W1) := Lib.hid (by rw [hW1]; exact below_alloc1 W0 _)
    rw [← hW1]
    clear hW1
    obtain ⟨v0, hv0⟩ : ∃ v0, v0 = Value.slice (some ⟨W0.heap.size, 0, none⟩) 0 0 := ⟨_, rfl⟩
    rw [← hv0] at O1 ⊢
    clear hv0
    go_wp2_with fail
    go_loopw [3, 4] (fun v x wr => ∃ (k : Nat), k ≤ 12 ∧ x = .int .i64 (k : Int) ∧ Hid (wr.ownsRow W0.heap.size 3 1 v k (intCs (rowI k (bestF (keyC xs) k)))) ∧ Hid (Below W0.heap.size W0 wr)) (fun _ x _ => 13 - (intOf x).toNat)
    case atStart => exact ⟨0, Nat.zero_le _, by go_num, O1, B1⟩
    case round =>
      clear O1 B1
      obtain ⟨k, hk, rfl, HO, HB⟩ := hrel
      obtain ⟨pv, cv, rfl⟩ := own_slice HO.out
      by_cases hlt : k < 12
      · have q3 : (k : Int) < 12 := by omega
        have hck := cirBox_cell (cirBox_keep CX0.out HB.out)
        have HK := Lib.hid hlt
        go_wp2_with fail
        refine (CO.out _ (own_below HH0.out HB.out)).mono ?_
        rintro e1 w2 ⟨rfl, b2⟩
        have O2 := Lib.hid (own_below HO.out b2)
        have B2 := Lib.hid (HB.out.trans (b2.mono HB.out.size))
        clear hck b2 HO HB
        go_wp2_with (at_builtin; refine wpList_append_lies _ rfl (.tmp 17) (.tmp 19) 24 rfl W0.heap.size 3 i0 (.int .i64 0) 1 8 Try.underlying24 hif hz0 hz1 hz2 rfl (by decide) _ k _ rfl (O2.out.alloc _) ⟨_, 0, none⟩ 1 1 _ rfl rfl (World.news_of_block (heap_alloc_new _ _)) (by simp [Value.oneCell']) (by decide) (by unfold maxLen; omega) (by omega) (by have := B2.out.size; simp; omega) _ rfl ?_; intro g cap w3 hown' hgrow hat hgt)
        have B3 := Lib.hid ((B2.out.alloc B2.out.size _).grown hgrow (Nat.le_trans B2.out.size (by simp)) (fun j hj => (O2.out.lt j hj).1))
        have O3 := Lib.hid (rowI_appL (f := bestF (keyC xs) k) (bestF_out (keyC xs) k k (Nat.le_refl _)).symm hown')
        have HN : Hid (bestF (keyC xs) (k + 1) = insF (bestF (keyC xs) k) k k (insAt (keyC xs) (bestF (keyC xs) k) k k)) := Lib.hid rfl
        have HU : Hid (∀ t, t < 12 → ∃ u : Nat, bestF (keyC xs) k t = (u : Int) ∧ u < 12) := Lib.hid (fun t ht => bestF_key (keyC xs) (by omega) ht)
        clear hown' hgrow hat hgt O2 B2
        go_wp2_with fail
        go_loopw [5] (fun y wr => ∃ (p : Nat) (f : Nat → Int), y = .int .i64 (p : Int) ∧ p ≤ k ∧ Hid (insAt (keyC xs) (bestF (keyC xs) k) k p = insAt (keyC xs) (bestF (keyC xs) k) k k) ∧ Hid (Hole (bestF (keyC xs) k) k p f) ∧ Hid (wr.ownsRow W0.heap.size 3 1 (.slice (some ⟨g, 0, none⟩) (k + 1) cap) (k + 1) (intCs (rowI (k + 1) f))) ∧ Hid (Below W0.heap.size W0 wr)) (fun y _ => (intOf y).toNat)
        case atStart => exact ⟨k, bestF (keyC xs) k, by go_num, Nat.le_refl _, Lib.hid rfl, Lib.hid ⟨fun t _ => rfl, fun t h1 h2 => by omega⟩, O3, B3⟩
        case round =>
          clear O3 B3
          obtain ⟨p1, f, rfl, hpk, HI, HF, HO, HB⟩ := hrel
          by_cases hp0 : 0 < p1
          · obtain ⟨p, rfl⟩ : ∃ p, p1 = p + 1 := ⟨p1 - 1, by omega⟩
            obtain ⟨u, hu, hu12⟩ := HU.out p (by omega)
            have c1 := row_cell HO.out (i := p) (by omega)
            rw [HF.out.1 p (by omega), hu] at c1
            have CB := cirBox_keep CX0.out HB.out
            have GL := (HO.out.lt g rfl)
            have K2 : Hid (CirEl xs m q c g p u wr) := Lib.hid ⟨CB, GL.2, c1⟩
            have SU := sfSay_at HC.out hu12 CB
            have SK := sfSay_at HC.out hlt CB
            obtain ⟨X, hX⟩ : ∃ X, X = keyC xs (u : Int) := ⟨_, rfl⟩
            obtain ⟨Y, hY⟩ : ∃ Y, Y = keyC xs (k : Int) := ⟨_, rfl⟩
            rw [← hX] at SU
            rw [← hY] at SK
            have HX := Lib.hid hX
            have HY2 := Lib.hid hY
            have HUU := Lib.hid hu
            have HG := Lib.hid GL.1
            have t1 : (0 : Int) < (p : Int) + 1 := by omega
            have t7 : (0 : Int) ≤ (p : Int) + 1 := by omega
            have t0 : ((p : Int) + 1).toNat = p + 1 := by omega
            have t4 : IntKind.i64.wrap (p : Int) = (p : Int) := IntWalk.i64_in _ (by omega)
            have t5 : (p : Int) + 1 < (k : Int) + 1 := by omega
            have t6 : (p : Int) < (k : Int) + 1 := by omega
            clear c1 CB GL hu hX hY
            by_cases hc : X < Y
            · have hlt' : keyC xs (bestF (keyC xs) k p) < keyC xs k := by rw [HUU.out, ← HX.out, ← HY2.out]; exact hc
              have HI2 := Lib.hid ((insAt_yes hlt').symm.trans HI.out)
              clear hlt'
              go_wp2_with fail
              go_region_held3 (fun w' => w'.cell? ⟨m, 0, none⟩ = some (.slice (some ⟨q, 0, none⟩) 12 c) ∧ w'.cell? ⟨g, p, none⟩ = some (.int .i64 u)) (with_reducible first | exact cirEl_cells (cirEl_keep (Below.refl _ _).drew K2.out) | exact cirEl_cells (cirEl_keep (by assumption) K2.out) | exact cirEl_cells K2.out)
                (first
                  | (go_at_call 49; refine (calls_fromF (W := wr) (by with_reducible first | assumption | exact (Below.refl _ _).drew) (sf_run (by with_reducible assumption) _ (by with_reducible first | assumption | exact (Below.refl _ _).drew))).mono ?_; rintro e9 w4 ⟨rfl, hb1⟩))
              all_goals
                have O4 := Lib.hid (own_below HO.out hb1)
                have B4 := Lib.hid (HB.out.trans (hb1.mono HB.out.size))
                have K3 := Lib.hid (cirEl_keep hb1 K2.out)
                clear hb1 K2 HO HB SU SK
                obtain ⟨_, x4⟩ := cirEl_cells K3.out
                have fz := O4.out.frozenAt (p + 1)
                have y4 := row_cell O4.out (i := p + 1) (by omega)
                have O5 := Lib.hid (row_put O4.out (i := p + 1) (x := u) (f' := fun t => if t = p + 1 then bestF (keyC xs) k p else f t) (by omega) (fun t ht => by rw [HUU.out]))
                have B5 := Lib.hid (B4.out.setCell (p := ⟨g, p + 1, none⟩) HG.out (.int .i64 u))
                have H5 := Lib.hid (hole_step HF.out)
                clear O4 B4 K3
                go_wp2_with fail
                go_roundw
                case rel => exact ⟨p, _, by go_num, by omega, HI2, H5, O5, B5⟩
                case measure => simp [intOf]
            · have hlt' : ¬ keyC xs (bestF (keyC xs) k p) < keyC xs k := by rw [HUU.out, ← HX.out, ← HY2.out]; exact hc
              have HI2 := Lib.hid ((insAt_no hlt').symm.trans HI.out)
              clear hlt'
              go_wp2_with fail
              go_region_held3 (fun w' => w'.cell? ⟨m, 0, none⟩ = some (.slice (some ⟨q, 0, none⟩) 12 c) ∧ w'.cell? ⟨g, p, none⟩ = some (.int .i64 u)) (with_reducible first | exact cirEl_cells (cirEl_keep (Below.refl _ _).drew K2.out) | exact cirEl_cells (cirEl_keep (by assumption) K2.out) | exact cirEl_cells K2.out)
                (first
                  | (go_at_call 49; refine (calls_fromF (W := wr) (by with_reducible first | assumption | exact (Below.refl _ _).drew) (sf_run (by with_reducible assumption) _ (by with_reducible first | assumption | exact (Below.refl _ _).drew))).mono ?_; rintro e9 w4 ⟨rfl, hb1⟩))
              all_goals
                have O4 := Lib.hid (own_below HO.out hb1)
                have B4 := Lib.hid (HB.out.trans (hb1.mono HB.out.size))
                clear hb1 K2 HO HB SU SK
                have fz := O4.out.frozenAt (p + 1)
                have y4 := row_cell O4.out (i := p + 1) (by omega)
                have O5 := Lib.hid (row_put O4.out (i := p + 1) (x := k) (f' := bestF (keyC xs) (k + 1)) (by omega) (fun t ht => by rw [HN.out, ← HI2.out]; exact hole_end HF.out ht))
                have B5 := Lib.hid (B4.out.setCell (p := ⟨g, p + 1, none⟩) HG.out (.int .i64 k))
                clear O4 B4
                go_wp2_with fail
                go_roundw
                case rel => exact ⟨k + 1, HK.out, by go_num, O5, B5⟩
                case measure => simp [intOf]; omega
          · obtain rfl : p1 = 0 := by omega
            have t5 : ¬ (0 : Int) < ((0 : Nat) : Int) := by omega
            have t6 : decide (((0 : Nat) : Int) > (0 : Int)) = false := decide_eq_false (by omega)
            have t7 : (0 : Int) < (k : Int) + 1 := by omega
            have HG := Lib.hid (HO.out.lt g rfl).1
            have O4 := Lib.hid (own_below HO.out (Below.refl _ _).drew)
            have B4 := Lib.hid HB.out.drew
            have fz := O4.out.frozenAt 0
            have y4 := row_cell O4.out (i := 0) (by omega)
            have O5 := Lib.hid (row_put O4.out (i := 0) (x := k) (f' := bestF (keyC xs) (k + 1)) (by omega) (fun t ht => by rw [HN.out, ← HI.out]; exact hole_end HF.out ht))
            have B5 := Lib.hid (B4.out.setCell (p := ⟨g, 0, none⟩) HG.out (.int .i64 k))
            clear O4 B4 HO HB
            go_wp2_with fail
            go_region
            go_wp2_with fail
            go_roundw
            case rel => exact ⟨k + 1, HK.out, by go_num, O5, B5⟩
            case measure => simp [intOf]; omega
      · obtain rfl : k = 12 := by omega
        have q3 : ¬ ((12 : Nat) : Int) < 12 := by omega
        go_wp2_with fail
        go_ret
        refine ⟨_, rfl, ?_, B0.out.trans (HB.out.mono B0.out.size)⟩
        rw [HY.out, rowI_len]
        exact own_base HO.out B0.out.size
  · rw [hb] at CO
    obtain ⟨p0, c0, rfl⟩ := own_slice h
    have CB := Lib.hid (CO.out ((w.alloc (.cells #[.slice p0 xs.length c0] 26)).alloc (.cells #[] 3)) (own_below HH.out (below_alloc2 w _ _)))
    clear h hb hl CO HH
    generalize xs.length = n at CB ⊢
    go_enter Try.func16, Try.ntmps16
    go_wp2_with fail
    refine wp_loop_rounds 1 ?_
    rw [rounds_succ]
    go_wp2_with fail
    refine CB.out.mono ?_
    rintro e1 w1 ⟨rfl, b1⟩
    have O1 := Lib.hid (own_below (zero_lit2 w (.cells #[.slice p0 n c0] 26) 3) b1)
    have B1 := Lib.hid ((below_alloc2 w (.cells #[.slice p0 n c0] 26) (.cells #[] 3)).trans (b1.mono (by simp; omega)))
    clear b1
    go_wp2_with fail
    go_ret
    exact ⟨_, rfl, by simpa using O1.out, B1.out⟩
end Go.Proofs.Ytjfeeppbbckneab
