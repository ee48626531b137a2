/- Contract of laws.markWishS; the walk of laws.FnExactFirstMeeting over the program's contract. -/
import Derived.Test.YtohfepcdgbgojabFamilyLaw
namespace Go.Proofs.Ytohfepcdgbgojab
open Go.RowKit Go.Joins
set_option linter.unusedVariables false
theorem set_stepW {W : World} {g o o' : Nat} {v y : Value} (hc : W.cell? ⟨g, o', none⟩ = some y) (ho : o ≠ o') (hf : ∀ o, W.frozen? ⟨g, o, none⟩ = false) :
    ∃ X, X = W.setCell ⟨g, o, none⟩ v ∧ X.cell? ⟨g, o', none⟩ = some y ∧ ∀ o, X.frozen? ⟨g, o, none⟩ = false :=
  ⟨_, rfl, by rw [World.cell?_setCell_other _ _ _ _ (fun e => ho (by injection e))]; exact hc, fun o => by rw [World.frozen?_setCell]; exact hf o⟩
theorem cell_someW {w : World} {B g cap n : Nat} {e : TypeId} {ys : List Value} (h : w.ownsRow B e 2 (.slice (some ⟨g, 0, none⟩) n cap) n ys) {i : Nat} (hi : i < n * 2) : ∃ y, w.cell? ⟨g, i, none⟩ = some y := by
  have hl := h.1
  exact ⟨_, (h.cellAt i hi).trans (List.getElem?_eq_getElem (by omega))⟩
set_option maxRecDepth 100000 in
set_option maxHeartbeats 2000000 in
theorem markWis_own (w : World) (base : Nat) (e : TypeId) (v : Value) (n : Nat) (ys : List Value) (hn' : n ≤ 2000000) (h : w.ownsRow base e 2 v n ys) :
    Calls Try.prog 33 #[v, .int .i64 1] w fun en w' => en = .returned (.int .i64 (1 + 2 * (n : Int))) ∧ w.grownBy w' v.ownBlock := by
  rcases Nat.eq_zero_or_pos n with h0 | h0
  · obtain ⟨p1, c1, rfl⟩ := ownW_zero h h0
    subst h0
    clear h
    go_enter Try.func33, Try.ntmps33
    go_wp2
    refine wp_loop_rounds 1 ?_
    rw [rounds_succ]
    go_wp2
    go_ret
    exact ⟨ret_int (by omega), World.grownBy.refl _ _⟩
  · obtain ⟨g, c, rfl, hg, hgl⟩ := ownW_pos h h0
    have HH := Lib.hid h
    clear h
    go_enter Try.func33, Try.ntmps33
    go_wp2
    go_loopw [1, 5] (fun k i wr => ∃ (j z : Nat) (ys : List Value), j ≤ n ∧ Hid (z = 1 + 2 * j) ∧ i = .int .i64 j ∧ k = .int .i64 z ∧ Hid (wr.ownsRow base e 2 (.slice (some ⟨g, 0, none⟩) n c) n ys) ∧ Hid (w.grownBy wr (some g))) (fun _ i _ => n - (intOf i).toNat)
    case atStart => exact ⟨0, 1, ys, Nat.zero_le _, Lib.hid rfl, rfl, rfl, HH, Lib.hid (World.grownBy.refl _ _)⟩
    case round =>
      clear HH
      obtain ⟨j, z, ys, hj, HZ, rfl, rfl, HO, HB⟩ := hrel
      by_cases hlt : j < n
      · have q3 : (j : Int) < n := by omega
        have hz3 : z ≤ 5000000 := by have := HZ.out; omega
        obtain ⟨a0, y0⟩ := cell_someW HO.out (i := j * 2) (by omega)
        obtain ⟨a1, y1⟩ := cell_someW HO.out (i := j * 2 + 1) (by omega)
        have fz := HO.out.frozenAt
        have O1 := Lib.hid (HO.out.stored (j * 2) (.int .i64 (z : Int))).1
        have O2 := Lib.hid (O1.out.stored (j * 2 + 1) (.int .i64 ((z : Int) + 1))).1
        have B2 := Lib.hid (grownI_set (grownI_set HB.out (j * 2) (.int .i64 (z : Int))) (j * 2 + 1) (.int .i64 ((z : Int) + 1)))
        clear O1 HO HB
        go_upto_region 5 with fail
        obtain ⟨X1, hX1, k1, fz1⟩ := set_stepW (v := .int .i64 (z : Int)) y1 (show j * 2 ≠ j * 2 + 1 by omega) fz
        rw [← hX1] at O2 B2 ⊢
        clear hX1 y0 y1 fz
        go_wp2_with fail
        go_roundw
        case rel => exact ⟨j + 1, z + 1 + 1, _, by omega, Lib.hid (by have := HZ.out; omega), by go_num, by go_num, O2, B2⟩
        case measure => simp [intOf]; omega
      · have q3 : ¬ (j : Int) < n := by omega
        obtain rfl : j = n := by omega
        go_wp2_with fail
        go_ret
        exact ⟨ret_int (by have := HZ.out; omega), HB.out⟩
/-- The program's FirstMeeting answers as the model's. -/
def FirstImpl : Prop := ∀ (p : Int) (xs : List Int) (z : Bool) (w : World) (b' : Nat) (e' : TypeId) (v' : Value) (ws : List Wi), FirstAt (famOf p) ws xs z → ws.length ≤ 2000000 → w.ownsRow b' e' 2 v' ws.length (wiCs ws) →
    Calls Try.prog 20 #[.int .i64 p, v'] w (CirB xs z w)
theorem first_len {p : Int} {ws : List Wi} {xs : List Int} {z : Bool} (h : FirstAt (famOf p) ws xs z) : xs.length ≤ 12 := by
  rcases h with ⟨_, rfl, _⟩ | ⟨_, k, hk, rfl, _⟩
  · simp
  · rw [famOf_each p k hk]; omega
/-- The circle that was answered, boxed. -/
theorem cirB_laid {w w1 : World} {v : Value} {xs : List Int} {n : Nat} (hs : w.heap.size ≤ w1.heap.size) (hn : n = xs.length) (o : w1.ownsRow w.heap.size 3 1 v xs.length (intCs xs)) :
    ∃ p c, v = .slice p n c ∧ One w1.heap.size (.slice p n c) (w1.alloc (.cells #[.slice p n c] 29)) ∧ (w1.alloc (.cells #[.slice p n c] 29)).ownsRow w.heap.size 3 1 (.slice p n c) n (intCs xs) ∧ (∀ g, (Value.slice p n c).ownBlock = some g → w.heap.size ≤ g ∧ g < w1.heap.size) := by
  rw [← hn] at o
  obtain ⟨p, c, rfl⟩ := own_slice o
  exact ⟨p, c, rfl, one_alloc, own_below o (below_alloc1 _ _), fun g e => o.lt g e⟩
set_option maxRecDepth 100000 in
set_option maxHeartbeats 8000000 in
theorem walk_FirstBy (FI : FirstImpl) (p : Int) (wp : (Lit.int .i64 p).wf = true) (a : Option Addr) (len cap : Nat) (ws : List Wi) (w : World) (hw : WiRow w a len ws) :
    Calls Try.prog 7 #[.int .i64 p, .slice a len cap] w fun e w' => e = .returned (.bool true) ∧ Below w.heap.size w w' := by
  obtain ⟨hwl, hwm⟩ := wiRow_len hw
  have HW := Lib.hid hw
  have HWL := Lib.hid hwl
  have SZ := Lib.hid (fun w => szWi_any a len cap 1048576 (by omega) w hwm)
  clear hw hwl wp
  by_cases h2 : (1048576 : Int) < (len : Int)
  · rw [if_pos h2] at SZ
    go_enter Try.func7, Try.ntmps7
    go_wp2_with fail
    refine (SZ.out _).mono ?_
    rintro e w2 ⟨rfl, rfl⟩
    go_wp2_with fail
    go_ret
    exact ⟨rfl, Below.refl _ _⟩
  · rw [if_neg h2] at SZ
    have hl3 : len ≤ 1048576 := by omega
    have hl4 : ¬ (1048576 : Int) - (len : Int) < 0 := by omega
    have HWS := Lib.hid (show ws.length ≤ 2000000 from by have := HWL.out; omega)
    obtain ⟨xs, z, hf⟩ := first_ex (famOf p) ws
    have hx12 := first_len hf
    obtain ⟨n, hn⟩ : ∃ n, n = xs.length := ⟨_, rfl⟩
    rw [← hn] at hx12
    have HN := Lib.hid hn
    have HXL := Lib.hid (show xs.length ≤ 2000000 from by omega)
    have CS := Lib.hid (fun w b' e' v' h => first_spec (p := p) w b' e' v' ws hf HWS.out h)
    have CP := Lib.hid (fun w b' e' v' h => FI p xs z w b' e' v' ws hf HWS.out h)
    obtain ⟨nw, hnw⟩ : ∃ n, n = ws.length := ⟨_, rfl⟩
    have HNW := Lib.hid hnw
    have hnw2 : nw ≤ 2000000 := by have := HWS.out; omega
    have tz : (z != z) = false := by simp
    clear h2 hf hn hnw
    go_enter Try.func7, Try.ntmps7
    go_wp2_with fail
    refine (SZ.out _).mono ?_
    rintro e w2 ⟨rfl, rfl⟩
    go_wp2_with fail
    refine (calls_toWis (Below.refl _ _) HW.out hl3).mono ?_
    rintro e w4 ⟨v4, rfl, o4, b4⟩
    have B4 := Lib.hid b4
    have O4 := Lib.hid o4
    clear o4 b4 SZ
    go_wp2_with fail
    refine (CS.out w4 _ _ v4 O4.out).mono ?_
    rintro e w5 ⟨u5, rfl, o5, b5⟩
    obtain ⟨p5, k5, rfl, x5, o5, l5⟩ := cirB_laid b5.size HN.out o5
    have X5 := Lib.hid x5
    have O5 := Lib.hid o5
    have L5 := Lib.hid l5
    have N4 : w.heap.size ≤ w4.heap.size := B4.out.size
    have B5 := Lib.hid ((B4.out.trans (b5.mono B4.out.size)).alloc (Nat.le_trans B4.out.size b5.size) (.cells #[.slice p5 n k5] 29))
    have N5' : w.heap.size ≤ w5.heap.size := Nat.le_trans B4.out.size b5.size
    clear x5 o5 l5 b5 O4 B4
    go_upto_region 6 with fail
    obtain ⟨W5, hW⟩ : ∃ W, W = w5.alloc (.cells #[.slice p5 n k5] 29) := ⟨_, rfl⟩
    obtain ⟨m5, hm⟩ : ∃ m, m = w5.heap.size := ⟨_, rfl⟩
    have M5 : m5 < W5.heap.size := by rw [hW, hm]; simp
    have N5 : w.heap.size ≤ m5 := by rw [hm]; exact N5'
    rw [← hW] at X5 O5 B5 ⊢
    rw [← hm] at X5 L5 ⊢
    clear hW hm N5'
    go_wp2_with fail
    refine (calls_toWis (Below.refl _ _) (wiRow_below HW.out B5.out) hl3).mono ?_
    rintro e w6 ⟨v6, rfl, o6, b6⟩
    have O6 := Lib.hid o6
    have LV := Lib.hid (fun g hg => o6.lt g hg)
    have X6 := Lib.hid (one_keep b6 X5.out)
    have P6 := Lib.hid (own_below O5.out b6)
    have N6 := b6.size
    have B6 := Lib.hid (B5.out.trans (b6.mono B5.out.size))
    clear o6 b6 X5 O5 B5
    go_wp2_with fail
    refine (CP.out w6 _ _ v6 O6.out).mono ?_
    rintro e w7 ⟨u7, rfl, o7, b7⟩
    obtain ⟨p7, k7, rfl, y7, o7, l7⟩ := cirB_laid b7.size HN.out o7
    have A7 := below_alloc1 w7 (.cells #[.slice p7 n k7] 29)
    have BB7 := b7.trans (A7.mono b7.size)
    have Y7 := Lib.hid y7
    have Q7 := Lib.hid o7
    have L7 := Lib.hid l7
    have X7 := Lib.hid (one_keep BB7 X6.out)
    have P7 := Lib.hid (own_below P6.out BB7)
    have V7 := Lib.hid (ownW_below O6.out BB7)
    have N7 := b7.size
    have B7 := Lib.hid (B6.out.trans (BB7.mono B6.out.size))
    clear y7 o7 l7 b7 A7 BB7 X6 P6 O6 B6
    go_upto_region 8 with fail
    obtain ⟨W7, hW⟩ : ∃ W, W = w7.alloc (.cells #[.slice p7 n k7] 29) := ⟨_, rfl⟩
    obtain ⟨m7, hm⟩ : ∃ m, m = w7.heap.size := ⟨_, rfl⟩
    rw [← hW] at Y7 Q7 X7 P7 V7 B7 ⊢
    rw [← hm] at Y7 L7 N7 ⊢
    clear hW hm
    obtain ⟨_, c5, _⟩ := X7.out
    obtain ⟨_, c7, _⟩ := Y7.out
    go_wp2_with fail
    refine (calls_eqCir (xs := xs) (Below.refl _ _) HXL.out (own_eq Q7.out (rfl : xs = xs) HN.out) (own_eq P7.out (rfl : xs = xs) HN.out)).mono ?_
    rintro e w8 ⟨rfl, b8⟩
    have X8 := Lib.hid (one_keep b8 X7.out)
    have P8 := Lib.hid (own_below P7.out b8)
    have V8 := Lib.hid (ownW_below V7.out b8)
    have Y8 := Lib.hid (one_keep b8 Y7.out)
    have Q8 := Lib.hid (own_below Q7.out b8)
    have B8 := Lib.hid (B7.out.trans (b8.mono B7.out.size))
    clear c5 c7 b8 X7 P7 V7 Y7 Q7 B7
    go_wp2_with fail
    refine (calls_toWis (Below.refl _ _) (wiRow_below HW.out B8.out) hl3).mono ?_
    rintro e w9 ⟨v9, rfl, o9, b9⟩
    have O9 := Lib.hid o9
    have X9 := Lib.hid (one_keep b9 X8.out)
    have P9 := Lib.hid (own_below P8.out b9)
    have V9 := Lib.hid (ownW_below V8.out b9)
    have Y9 := Lib.hid (one_keep b9 Y8.out)
    have Q9 := Lib.hid (own_below Q8.out b9)
    have B9 := Lib.hid (B8.out.trans (b9.mono B8.out.size))
    clear o9 b9 X8 P8 V8 Y8 Q8 B8
    go_wp2_with fail
    refine (eqWis_same w9 _ _ _ _ v6 v9 ws HWS.out V9.out O9.out).mono ?_
    rintro e w10 ⟨rfl, b10⟩
    have X10 := Lib.hid (one_keep b10 X9.out)
    have P10 := Lib.hid (own_below P9.out b10)
    have V10 := Lib.hid (ownW_below V9.out b10)
    have Y10 := Lib.hid (one_keep b10 Y9.out)
    have Q10 := Lib.hid (own_below Q9.out b10)
    have B10 := Lib.hid (B9.out.trans (b10.mono B9.out.size))
    clear b10 O9 X9 P9 V9 Y9 Q9 B9
    rw [← HNW.out] at V10
    go_wp2_with fail
    refine (markWis_own w10 _ _ v6 nw _ hnw2 V10.out).mono ?_
    rintro e w11 ⟨rfl, g11⟩
    have X11 := Lib.hid (one_grown X10.out g11 (fun e => by have := (LV.out _ e).1; omega))
    have P11 := Lib.hid (own_grownC P10.out g11 (fun g hg e => by have := (L5.out g hg).2; have := (LV.out g e).1; omega))
    have Y11 := Lib.hid (one_grown Y10.out g11 (fun e => by have := (LV.out _ e).2; omega))
    have Q11 := Lib.hid (own_grownC Q10.out g11 (fun g hg e => by have := (L7.out g hg).1; have := (LV.out g e).2; omega))
    have B11 := Lib.hid (B10.out.grown g11 B10.out.size (fun k hk => by have := (LV.out k hk).1; omega))
    have t0 : ¬ ((1 : Int) + 2 * nw) < 0 := by omega
    clear g11 X10 P10 V10 Y10 Q10 B10
    obtain ⟨_, c5, _⟩ := X11.out
    obtain ⟨_, c7, _⟩ := Y11.out
    go_wp2_with fail
    refine (calls_eqCir (xs := xs) (Below.refl _ _) HXL.out (own_eq Q11.out (rfl : xs = xs) HN.out) (own_eq P11.out (rfl : xs = xs) HN.out)).mono ?_
    rintro e w12 ⟨rfl, b12⟩
    have X12 := Lib.hid (one_keep b12 X11.out)
    have P12 := Lib.hid (own_below P11.out b12)
    have Y12 := Lib.hid (one_keep b12 Y11.out)
    have Q12 := Lib.hid (own_below Q11.out b12)
    have B12 := Lib.hid (B11.out.trans (b12.mono B11.out.size))
    clear c5 c7 b12 X11 P11 Y11 Q11 B11
    obtain ⟨_, c7, _⟩ := Y12.out
    go_wp2_with fail
    refine (markCir_own _ _ 1 _ _ n xs (by omega) (by omega) Q12.out).mono ?_
    rintro e w13 ⟨rfl, o13, g13⟩
    have X13 := Lib.hid (one_grown X12.out g13 (fun e => by have := (L7.out _ e).1; omega))
    have P13 := Lib.hid (own_grownC P12.out g13 (fun g hg e => by have := (L5.out g hg).2; have := (L7.out g e).1; omega))
    have Y13 := Lib.hid (one_grown Y12.out g13 (fun e => by have := (L7.out _ e).2; omega))
    have Q13 := Lib.hid o13
    have B13 := Lib.hid (B12.out.grown g13 B12.out.size (fun k hk => by have := (L7.out k hk).1; omega))
    clear c7 o13 g13 X12 P12 Y12 Q12 B12
    obtain ⟨_, c7, _⟩ := Y13.out
    go_wp2_with fail
    refine (heldCir_any _ _ 1 _ _ n (by omega) (by omega) Q13.out).mono ?_
    rintro e w14 ⟨rfl, b14⟩
    have X14 := Lib.hid (one_keep b14 X13.out)
    have P14 := Lib.hid (own_below P13.out b14)
    have Y14 := Lib.hid (one_keep b14 Y13.out)
    have Q14 := Lib.hid (own_below Q13.out b14)
    have B14 := Lib.hid (B13.out.trans (b14.mono B13.out.size))
    have t1 : ¬ ((1 : Int) + n) < 0 := by omega
    clear c7 b14 X13 P13 Y13 Q13 B13
    go_wp2_with fail
    refine (calls_toWis (Below.refl _ _) (wiRow_below HW.out B14.out) hl3).mono ?_
    rintro e w15 ⟨v15, rfl, o15, b15⟩
    have O15 := Lib.hid o15
    have X15 := Lib.hid (one_keep b15 X14.out)
    have P15 := Lib.hid (own_below P14.out b15)
    have Y15 := Lib.hid (one_keep b15 Y14.out)
    have Q15 := Lib.hid (own_below Q14.out b15)
    have B15 := Lib.hid (B14.out.trans (b15.mono B14.out.size))
    clear o15 b15 X14 P14 Y14 Q14 B14
    go_wp2_with fail
    refine (CP.out w15 _ _ v15 O15.out).mono ?_
    rintro e w16 ⟨u16, rfl, o16, b16⟩
    obtain ⟨p16, k16, rfl, z16, o16, l16⟩ := cirB_laid b16.size HN.out o16
    have A16 := below_alloc1 w16 (.cells #[.slice p16 n k16] 29)
    have BB16 := b16.trans (A16.mono b16.size)
    have Z16 := Lib.hid z16
    have R16 := Lib.hid o16
    have X16 := Lib.hid (one_keep BB16 X15.out)
    have P16 := Lib.hid (own_below P15.out BB16)
    have Y16 := Lib.hid (one_keep BB16 Y15.out)
    have Q16 := Lib.hid (own_below Q15.out BB16)
    have B16 := Lib.hid (B15.out.trans (BB16.mono B15.out.size))
    clear z16 o16 l16 b16 A16 BB16 X15 P15 Y15 Q15 B15 O15
    go_upto_region 25 with fail
    obtain ⟨W16, hW⟩ : ∃ W, W = w16.alloc (.cells #[.slice p16 n k16] 29) := ⟨_, rfl⟩
    obtain ⟨m16, hm⟩ : ∃ m, m = w16.heap.size := ⟨_, rfl⟩
    rw [← hW] at Z16 R16 X16 P16 Y16 Q16 B16 ⊢
    rw [← hm] at Z16 ⊢
    clear hW hm
    obtain ⟨_, c5, _⟩ := X16.out
    obtain ⟨_, c16, _⟩ := Z16.out
    go_wp2_with fail
    refine (calls_eqCir (xs := xs) (Below.refl _ _) HXL.out (own_eq R16.out (rfl : xs = xs) HN.out) (own_eq P16.out (rfl : xs = xs) HN.out)).mono ?_
    rintro e w17 ⟨rfl, b17⟩
    have Y17 := Lib.hid (one_keep b17 Y16.out)
    have Q17 := Lib.hid (own_below Q16.out b17)
    have B17 := Lib.hid (B16.out.trans (b17.mono B16.out.size))
    clear c5 c16 b17 Z16 R16 X16 P16 Y16 Q16 B16
    obtain ⟨_, c7, _⟩ := Y17.out
    go_wp2_with fail
    refine (heldCir_any _ _ 1 _ _ n (by omega) (by omega) Q17.out).mono ?_
    rintro e w18 ⟨rfl, b18⟩
    have B18 := Lib.hid (B17.out.trans (b18.mono B17.out.size))
    clear c7 b18 Y17 Q17 B17
    go_wp2_with fail
    go_ret
    exact ⟨rfl, B18.out⟩
end Go.Proofs.Ytohfepcdgbgojab
