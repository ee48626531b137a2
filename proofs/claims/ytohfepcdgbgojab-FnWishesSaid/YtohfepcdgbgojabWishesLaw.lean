/- Wishes in conflict; the walk of laws.FnWishes over the program's contracts. -/
import Derived.Test.YtohfepcdgbgojabDrawWish
import Derived.Test.YtohfepcdgbgojabFirstLaw
import Derived.Test.YtohfepcdgbgojabAtWalks
import Derived.Deep.DeepCutAuto
namespace Go.Proofs.Ytohfepcdgbgojab
open Go.RowKit Go.Joins
set_option linter.unusedVariables false
def clampK (x : Int) : Int := min (max x (-1000)) 1000
/-- Three wishes whose numbers no circle can give. -/
def Conf (ws : List Wi) : Prop := ∃ a, a < ws.length ∧ ∃ b, b < ws.length ∧ ∃ c, c < ws.length ∧ (0 ≤ (wiAt ws a).key ∧ (wiAt ws a).key ≤ 3) ∧ (wiAt ws b).key = (wiAt ws a).key + 4 ∧ (wiAt ws c).key = (wiAt ws a).key + 8 ∧ 12 < clampK (wiAt ws a).least + clampK (wiAt ws b).least + clampK (wiAt ws c).least
/-- Three thirds are all twelve parts. -/
theorem cyc_three (xs : List Int) {k : Nat} (hk : k < 4) : cycTo xs k 4 + cycTo xs (k + 4) 4 + cycTo xs (k + 8) 4 = sumTo xs 12 := by
  rcases (show k = 0 ∨ k = 1 ∨ k = 2 ∨ k = 3 from by omega) with rfl | rfl | rfl | rfl <;>
    (simp only [cycTo, sumTo, Nat.zero_add, Nat.reduceAdd, Nat.reduceMod, Nat.add_zero]; omega)
theorem conf_none {ws : List Wi} (h : Conf ws) (xs : List Int) : meetB xs ws = false := by
  refine decide_eq_false fun H => ?_
  obtain ⟨a, ha, b, hb, c, hc, hk, hkb, hkc, hs⟩ := h
  obtain ⟨hx, _, hw⟩ := H
  have wa := hw a ha
  have wb := hw b hb
  have wc := hw c hc
  obtain ⟨k, hk'⟩ : ∃ k : Nat, (wiAt ws a).key = (k : Int) := ⟨(wiAt ws a).key.toNat, by omega⟩
  have t := cyc_three xs (k := k) (by omega)
  rw [hx.2.2] at t
  have b1 := cyc_bd hx k (k := 4) (by omega)
  have b2 := cyc_bd hx (k + 4) (k := 4) (by omega)
  have b3 := cyc_bd hx (k + 8) (k := 4) (by omega)
  have ea := wa.2
  have eb := wb.2
  have ec := wc.2
  rw [show (wiAt ws a).key.toNat = k from by omega] at ea
  rw [show (wiAt ws b).key.toNat = k + 4 from by omega] at eb
  rw [show (wiAt ws c).key.toNat = k + 8 from by omega] at ec
  unfold clampK at hs
  omega
theorem cnt_pos {L : List (List Int)} {ws : List Wi} {k : Nat} (h : meetB (lAt L k) ws = true) : ∀ n, k < n → 0 < cntMeet L ws n
  | 0, hk => by omega
  | n + 1, hk => by
    unfold cntMeet
    rcases Nat.lt_or_ge k n with q | q
    · have := cnt_pos h n q
      split <;> omega
    · obtain rfl : k = n := by omega
      rw [if_pos h]; omega
theorem cnt_zero {L : List (List Int)} {ws : List Wi} (h : ∀ j, j < L.length → meetB (lAt L j) ws = false) : ∀ n, n ≤ L.length → cntMeet L ws n = 0
  | 0, _ => rfl
  | n + 1, hn => by
    unfold cntMeet
    rw [if_neg (by rw [h n (by omega)]; simp), cnt_zero h n (by omega)]
/-- The program's ConflictOf answers as the document says. -/
def ConfImpl : Prop := ∀ (w : World) (b' : Nat) (e' : TypeId) (v' : Value) (ws : List Wi), ws.length ≤ 2000000 → w.ownsRow b' e' 2 v' ws.length (wiCs ws) →
    Calls Try.prog 22 #[v'] w fun en w' => ∃ y, en = .returned (.bool y) ∧ (y = true ↔ Conf ws) ∧ Below w.heap.size w w'
theorem ones_nil : meetB onesL [] = true := by decide
set_option maxRecDepth 100000 in
set_option maxHeartbeats 8000000 in
theorem walk_WishesBy (MI : MeetsSays) (CI : CountImpl) (FI : FirstImpl) (KI : ConfImpl) (EI : ∀ w, Calls Try.prog 23 #[] w (CirPost onesL w)) (a0 : Option Addr) (len0 cap0 : Nat) (z0 : List Int) (w : World) (hr : IsRow .u8 w a0 len0 cap0 z0) :
    Calls Try.prog 4 #[.slice a0 len0 cap0] w fun e w' => e = .returned (.bool true) ∧ Below w.heap.size w w' := by
  have hlen := (row_len hr).2
  by_cases hbig : 1048576 < len0
  · have t0 : decide (1048576 < (len0 : Int)) = true := by simp; omega
    go_enter Try.func4, Try.ntmps4
    go_wp2_with fail
    refine (bigW_any _ _ _ _ hlen).mono ?_
    rintro e w' ⟨rfl, rfl⟩
    go_wp2_with fail
    go_ret
    exact ⟨rfl, Below.refl _ _⟩
  · have t0 : decide (1048576 < (len0 : Int)) = false := by simp; omega
    obtain ⟨u, hu, hat⟩ := at_fix hr (by omega) 0 (by omega)
    have HRW := Lib.hid hr
    have AT := Lib.hid hat
    have HLEN := Lib.hid hlen
    obtain ⟨r, hrr⟩ : ∃ r : Nat, r = u % 5 := ⟨_, rfl⟩
    have htm : (u : Int).tmod 5 = (r : Int) := by rw [Int.tmod_eq_emod_of_nonneg (by omega)]; omega
    have HR := Lib.hid hrr
    clear hr hbig hlen hat hrr
    go_enter Try.func4, Try.ntmps4
    go_wp2_with fail
    refine (bigW_any _ _ _ _ HLEN.out).mono ?_
    rintro e w' ⟨rfl, rfl⟩
    rw [t0]
    clear t0
    go_wp2_with fail
    refine (drawWishes_any HRW.out).mono ?_
    rintro e w1 ⟨v1, ws, l4, ok, rfl, o1, b1⟩
    have O1 := Lib.hid o1
    have B1 := Lib.hid b1
    have HWS := Lib.hid (show ws.length ≤ 2000000 from by omega)
    obtain ⟨pw, cw, rfl⟩ := ownW_slice o1
    obtain ⟨nw, hnw⟩ : ∃ n, n = ws.length := ⟨_, rfl⟩
    clear o1 b1 ok l4 HLEN HRW
    go_upto_region 4 with fail
    go_cut [4] (fun s wx => ∃ p : Int, s = .int .i64 p ∧ Below w1.heap.size w1 wx)
    case first =>
      go_wp2_with fail
      refine (AT.out _ (B1.out.alloc B1.out.size _)).mono ?_
      rintro e w2 ⟨rfl, rfl⟩
      have h4 := HR.out
      rcases (show r = 0 ∨ r = 1 ∨ r = 2 ∨ r = 3 ∨ r = 4 from by omega) with rfl | rfl | rfl | rfl | rfl
      all_goals
        have hq := h4.symm
        have hq2 := htm
        rw [Int.tmod_eq_emod_of_nonneg (by omega)] at hq2
        clear h4
        go_wp2_with fail
        go_meet
        exact ⟨_, rfl, below_alloc1 _ _⟩
    case rest =>
      obtain ⟨p, rfl, b2⟩ := hcut
      obtain ⟨W2, hW⟩ : ∃ W, W = wc := ⟨_, rfl⟩
      rw [← hW] at b2 ⊢
      have O2 := Lib.hid (ownW_below O1.out b2)
      have B2 := Lib.hid (B1.out.trans (b2.mono B1.out.size))
      clear hW b2 B1 O1 htm AT hu HR
      obtain ⟨xs, z, hf⟩ := first_ex (famOf p) ws
      have FSP := Lib.hid (fun w b' e' v' h => FI p xs z w b' e' v' ws hf HWS.out h)
      have CS := Lib.hid (fun w b' e' v' h => CI p w b' e' v' ws HWS.out h)
      obtain ⟨c, hc⟩ : ∃ c : Nat, c = cntMeet (famOf p) ws (famOf p).length := ⟨_, rfl⟩
      rw [← hc] at CS
      have HZ : Hid (z = decide (0 < c)) := Lib.hid (by
        rcases hf with ⟨rfl, _, h⟩ | ⟨rfl, k, hk, _, h, _⟩
        · rw [hc, cnt_zero h _ (Nat.le_refl _)]; rfl
        · exact (decide_eq_true (by rw [hc]; exact cnt_pos h _ hk)).symm)
      have HM : Hid (z = true → meetB xs ws = true) := Lib.hid (fun e => by
        rcases hf with ⟨e2, _⟩ | ⟨_, k, _, rfl, h, _⟩
        · rw [e2] at e; cases e
        · exact h)
      have HXL := Lib.hid (show xs.length ≤ 2000000 from by have := first_len hf; omega)
      have HCZ : Hid (Conf ws → c = 0) := Lib.hid (fun h => by rw [hc]; exact cnt_zero (fun j _ => conf_none h _) _ (Nat.le_refl _))
      have c5 : c ≤ 5000 := by rw [hc]; exact Nat.le_trans (cntMeet_le _ _ _) (Nat.le_trans (famOf_len p) (by omega))
      clear hf hc
      go_wp2_with fail
      refine (CS.out W2 _ _ _ O2.out).mono ?_
      rintro e w3 ⟨rfl, b3⟩
      have O3 := Lib.hid (ownW_below O2.out b3)
      have B3 := Lib.hid (B2.out.trans (b3.mono B2.out.size))
      clear b3 O2 B2 CS
      go_wp2_with fail
      refine (FSP.out w3 _ _ _ O3.out).mono ?_
      rintro e w4 ⟨u4, rfl, o4, b4⟩
      obtain ⟨n4, hn4⟩ : ∃ n, n = xs.length := ⟨_, rfl⟩
      have HN4 := Lib.hid hn4
      obtain ⟨p4, k4, rfl, x4, o4, _⟩ := cirB_laid b4.size hn4 o4
      have A4 := below_alloc1 w4 (.cells #[.slice p4 n4 k4] 29)
      have X4 := Lib.hid x4
      have P4 := Lib.hid o4
      have O4 := Lib.hid (ownW_below O3.out (b4.trans (A4.mono b4.size)))
      have B4 := Lib.hid ((B3.out.trans (b4.mono B3.out.size)).trans (A4.mono (Nat.le_trans B3.out.size b4.size)))
      clear x4 o4 b4 A4 O3 B3 FSP hn4
      go_upto_region 7 with fail
      obtain ⟨V, hW⟩ : ∃ W, W = w4.alloc (.cells #[.slice p4 n4 k4] 29) := ⟨_, rfl⟩
      obtain ⟨m4, hm⟩ : ∃ m, m = w4.heap.size := ⟨_, rfl⟩
      rw [← hW] at X4 P4 O4 B4 ⊢
      rw [← hm] at X4 ⊢
      clear hW hm
      obtain ⟨_, c4, _⟩ := X4.out
      cases z
      · have hz0 : c = 0 := by have := HZ.out; simp at this; omega
        subst hz0
        go_wp2_with fail
        refine (KI V _ _ _ ws HWS.out O4.out).mono ?_
        rintro e w5 ⟨y, rfl, hy, b5⟩
        have O5 := Lib.hid (ownW_below O4.out b5)
        have B5 := Lib.hid (B4.out.trans (b5.mono B4.out.size))
        have HY := Lib.hid hy
        clear b5 c4 X4 P4 O4 B4 hy
        cases y
        · go_wp2_with fail
          refine (EI _).mono ?_
          rintro e w6 ⟨v6, rfl, o6, b6⟩
          have O6 := Lib.hid o6
          have B6 := Lib.hid (B5.out.trans (b6.mono B5.out.size))
          clear o6 b6 B5 O5
          go_wp2_with fail
          refine (MI w6 _ _ v6 onesL 0 76 (.slice none 0 0) [] (by decide) (by simp) O6.out (World.ownsRow_nil _ _ _ _)).mono ?_
          rintro e w7 ⟨rfl, b7⟩
          rw [ones_nil]
          have B7 := Lib.hid (B6.out.trans (b7.mono B6.out.size))
          clear b7 O6 B6
          go_wp2_with fail
          go_ret
          exact ⟨rfl, B7.out⟩
        · have HE : Hid (meetB onesL ws = false) := Lib.hid (conf_none (HY.out.1 rfl) onesL)
          go_wp2_with fail
          refine (EI _).mono ?_
          rintro e w6 ⟨v6, rfl, o6, b6⟩
          have O6 := Lib.hid o6
          have Y6 := Lib.hid (ownW_below O5.out b6)
          have B6 := Lib.hid (B5.out.trans (b6.mono B5.out.size))
          clear o6 b6 B5 O5
          go_wp2_with fail
          refine (MI w6 _ _ v6 onesL _ _ _ ws (by decide) HWS.out O6.out Y6.out).mono ?_
          rintro e w7 ⟨rfl, b7⟩
          rw [HE.out]
          have B7 := Lib.hid (B6.out.trans (b7.mono B6.out.size))
          clear b7 O6 Y6 B6
          go_wp2_with fail
          refine (EI _).mono ?_
          rintro e w8 ⟨v8, rfl, o8, b8⟩
          have O8 := Lib.hid o8
          have B8 := Lib.hid (B7.out.trans (b8.mono B7.out.size))
          clear o8 b8 B7
          go_wp2_with fail
          refine (MI w8 _ _ v8 onesL 0 76 (.slice none 0 0) [] (by decide) (by simp) O8.out (World.ownsRow_nil _ _ _ _)).mono ?_
          rintro e w9 ⟨rfl, b9⟩
          rw [ones_nil]
          have B9 := Lib.hid (B8.out.trans (b9.mono B8.out.size))
          clear b9 O8 B8
          go_wp2_with fail
          go_ret
          exact ⟨rfl, B9.out⟩
      · have hz0 : 0 < c := of_decide_eq_true HZ.out.symm
        have hz1 : (0 : Int) < (c : Int) := by omega
        have hz2 : decide ((c : Int) > 0) = true := decide_eq_true hz1
        have HX := Lib.hid (HM.out rfl)
        have MX := Lib.hid (MI V _ _ _ xs _ _ _ ws HXL.out HWS.out (own_eq P4.out (rfl : xs = xs) HN4.out) O4.out)
        rw [HX.out] at MX
        go_wp2_with fail
        refine MX.out.mono ?_
        rintro e w5 ⟨rfl, b5⟩
        have O5 := Lib.hid (ownW_below O4.out b5)
        have B5 := Lib.hid (B4.out.trans (b5.mono B4.out.size))
        clear b5 c4 X4 P4 O4 B4 MX
        go_wp2_with fail
        refine (KI w5 _ _ _ ws HWS.out O5.out).mono ?_
        rintro e w6 ⟨y, rfl, hy, b6⟩
        have B6 := Lib.hid (B5.out.trans (b6.mono B5.out.size))
        have hyf : y = false := by
          cases y
          · rfl
          · have := HCZ.out (hy.1 rfl); omega
        subst hyf
        clear b6 B5 O5 hy
        go_wp2_with fail
        refine (EI _).mono ?_
        rintro e w7 ⟨v7, rfl, o7, b7⟩
        have O7 := Lib.hid o7
        have B7 := Lib.hid (B6.out.trans (b7.mono B6.out.size))
        clear o7 b7 B6
        go_wp2_with fail
        refine (MI w7 _ _ v7 onesL 0 76 (.slice none 0 0) [] (by decide) (by simp) O7.out (World.ownsRow_nil _ _ _ _)).mono ?_
        rintro e w8 ⟨rfl, b8⟩
        rw [ones_nil]
        have B8 := Lib.hid (B7.out.trans (b8.mono B7.out.size))
        clear b8 O7 B7
        go_wp2_with fail
        go_ret
        exact ⟨rfl, B8.out⟩
end Go.Proofs.Ytohfepcdgbgojab
