/- The walk of laws.FnCircles. -/
import Derived.Test.YtjfeeppbbckneaaCirSay
import Derived.Test.YtjfeeppbbckneaaAtWalks
import Derived.Deep.RegionHeld3
namespace Go.Proofs.Ytjfeeppbbckneaa
open Go.RowKit Go.Joins
set_option linter.unusedVariables false
set_option maxRecDepth 100000 in
set_option maxHeartbeats 8000000 in
theorem walk_FnCircles (a0 : Option Addr) (len0 cap0 : Nat) (z0 : List Int) (w : World) (hr : IsRow .u8 w a0 len0 cap0 z0) :
    Calls Try.prog 3 #[.slice a0 len0 cap0] w fun e w' => e = .returned (.bool true) ∧ Below w.heap.size w w' := by
  have hlen := (row_len hr).2
  by_cases hbig : 1048576 < len0
  · have t0 : decide (1048576 < (len0 : Int)) = true := by simp; omega
    go_enter Try.func3, Try.ntmps3
    go_wp2_with fail
    refine (bigW_any _ _ _ _ hlen).mono ?_
    rintro e w' ⟨rfl, rfl⟩
    go_wp2_with fail
    go_ret
    exact ⟨rfl, Below.refl _ _⟩
  · have t0 : decide (1048576 < (len0 : Int)) = false := by simp; omega
    have HR := Lib.hid hr
    obtain ⟨u, hu, hat⟩ := at_fix hr (by omega) 0 (by omega)
    have AT := Lib.hid hat
    obtain ⟨rr, hrr, hrr2⟩ : ∃ rr : Nat, (u : Int).tmod 12 = (rr : Int) ∧ rr < 12 := ⟨u % 12, by rw [Int.tmod_eq_emod_of_nonneg (by omega)]; omega, by omega⟩
    obtain ⟨ep, er, es, hep⟩ := ones_pit hrr2
    have EP := Lib.hid hep
    have HLEN := Lib.hid hlen
    have HRR := Lib.hid hrr
    clear hr hbig hlen hat hep hrr hrr2 hu
    go_enter Try.func3, Try.ntmps3
    go_wp2_with fail
    refine (bigW_any _ _ _ _ HLEN.out).mono ?_
    rintro e w' ⟨rfl, rfl⟩
    rw [t0]
    go_wp2_with fail
    clear t0
    refine (drawCircle_any HR.out).mono ?_
    rintro e w1 ⟨xs, p, cc, ok, rfl, o1, b1⟩
    have OK := Lib.hid ok
    have X1 := Lib.hid (one_alloc (w := w1) (v := .slice p 12 cc) (t := 26))
    have O1 := Lib.hid (own_below o1 (below_alloc1 w1 (.cells #[.slice p 12 cc] 26)))
    have B1 := Lib.hid (b1.alloc b1.size (.cells #[.slice p 12 cc] 26))
    have LB := Lib.hid (fun g hg => (o1.lt g hg).2)
    clear ok o1 b1 HR HLEN
    go_upto_region 4 with fail
    obtain ⟨W1, hW⟩ : ∃ W, W = w1.alloc (.cells #[.slice p 12 cc] 26) := ⟨_, rfl⟩
    obtain ⟨mc, hm⟩ : ∃ m, m = w1.heap.size := ⟨_, rfl⟩
    rw [← hW] at X1 O1 B1 ⊢
    rw [← hm] at X1 LB ⊢
    clear hW hm
    go_wp2_with fail
    refine (pure_impl_yes 0 0 0 _ (by decide)).mono ?_
    rintro e w2 ⟨rfl, b2⟩
    have A2 := below_alloc1 w2 (.cells #[.int .i64 0, .int .i64 0, .int .i64 0, .int .i64 1] 29)
    have X2 := Lib.hid (one_keep A2 (one_keep b2 X1.out))
    have O2 := Lib.hid (own_below (own_below O1.out b2) A2)
    have B2 := Lib.hid ((B1.out.trans (b2.mono B1.out.size)).trans (A2.mono (Nat.le_trans B1.out.size b2.size)))
    have F2 : Hid (Four w2.heap.size 0 0 0 1 (w2.alloc (.cells #[.int .i64 0, .int .i64 0, .int .i64 0, .int .i64 1] 29)) ∧ ∀ o, (w2.alloc (.cells #[.int .i64 0, .int .i64 0, .int .i64 0, .int .i64 1] 29)).frozen? ⟨w2.heap.size, o, none⟩ = false) := Lib.hid ⟨four_alloc, fun o => by simp [go_sem]⟩
    have M2 : w.heap.size ≤ w2.heap.size := Nat.le_trans B1.out.size b2.size
    have MS : mc < w2.heap.size := Nat.lt_of_lt_of_le X1.out.1 b2.size
    clear b2 A2 X1 O1 B1
    go_upto_region 5 with fail
    obtain ⟨W2, hW⟩ : ∃ W, W = w2.alloc (.cells #[.int .i64 0, .int .i64 0, .int .i64 0, .int .i64 1] 29) := ⟨_, rfl⟩
    obtain ⟨ms, hm⟩ : ∃ m, m = w2.heap.size := ⟨_, rfl⟩
    rw [← hW] at X2 O2 B2 F2 ⊢
    rw [← hm] at F2 M2 MS ⊢
    clear hW hm
    go_wp2_with fail
    go_loopw [5, 6, 7] (fun x y z wr => ∃ (k : Nat) (a b c d : Int), k ≤ 12 ∧ x = .int .i64 k ∧ Hid (SumIs xs k a b c d) ∧ Hid (Four ms a b c d wr ∧ ∀ o, wr.frozen? ⟨ms, o, none⟩ = false) ∧ Hid (One mc (.slice p 12 cc) wr) ∧ Hid (wr.ownsRow w.heap.size 3 1 (.slice p 12 cc) 12 (intCs xs)) ∧ Hid (Below w.heap.size w wr)) (fun x _ _ _ => 12 - (intOf x).toNat)
    case atStart => exact ⟨0, 0, 0, 0, 1, Nat.zero_le _, rfl, Lib.hid (sum_start xs), F2, X2, O2, B2⟩
    case round =>
      clear X2 O2 B2 F2
      obtain ⟨k, a, b, c, d, hk, rfl, HS, F2, X2, O2, B2⟩ := hrel
      by_cases hlt : k < 12
      · have q3 : (k : Int) < 12 := by omega
        obtain ⟨e, f, g, h, p1, q1, r1, s1, a', b', c', d', hsay, hsum⟩ := cirSay_ex OK.out hlt HS.out
        have SAY := Lib.hid hsay
        have HS' := Lib.hid hsum
        have HL := Lib.hid (show xs.length ≤ 2000000 from by rw [OK.out.1]; omega)
        have FA : Hid (∀ X, Below wr.heap.size wr X → Calls Try.prog 16 #[cirV (.slice p 12 cc), .int .i64 k] X fun en w' => en = .returned (ivV e f g h) ∧ Below X.heap.size X w') := Lib.hid (fun X hX => fifth_impl SAY.out.fif X _ _ _ HL.out (own_eq (own_below O2.out hX) (rfl : xs = xs) OK.out.1.symm))
        have PA : Hid (∀ X, Below wr.heap.size wr X → Calls Try.prog 18 #[cirV (.slice p 12 cc), .int .i64 k] X fun en w' => en = .returned (ivV p1 q1 r1 s1) ∧ Below X.heap.size X w') := Lib.hid (fun X hX => pitch_impl SAY.out.pit X _ _ _ HL.out (own_eq (own_below O2.out hX) (rfl : xs = xs) OK.out.1.symm))
        have HLT := Lib.hid hlt
        have TB : Hid (TC ms mc a b c d (.slice p 12 cc) wr) := Lib.hid ⟨F2.out.1.2.1, F2.out.1.2.2.1, F2.out.1.2.2.2.1, F2.out.1.2.2.2.2, X2.out.2.1⟩
        have HM : Hid (ms < wr.heap.size ∧ mc < wr.heap.size) := Lib.hid ⟨F2.out.1.1, X2.out.1⟩
        clear hsay hsum hlt HS
        go_upto_region 8 with fail
        go_cut [6, 7] (fun s6 s7 wx => ∃ m6 : Nat, s6 = .pointer (some ⟨m6, 0, none⟩) ∧ s7 = .bool true ∧ Below wr.heap.size wr wx ∧ Four m6 a' b' c' d' wx)
        case first =>
          go_region_held3 (fun w' => w'.cell? ⟨ms, 0, none⟩ = some (.int .i64 a) ∧ w'.cell? ⟨ms, 1, none⟩ = some (.int .i64 b) ∧ w'.cell? ⟨ms, 2, none⟩ = some (.int .i64 c) ∧ w'.cell? ⟨ms, 3, none⟩ = some (.int .i64 d) ∧ w'.cell? ⟨mc, 0, none⟩ = some (.slice p 12 cc)) (with_reducible first | exact tc_keep HM.out (Below.refl _ _).drew TB.out | exact tc_keep HM.out (by assumption) TB.out | exact tc_keep HM.out (below_alC (Below.refl _ _).drew) TB.out | exact tc_keep HM.out (below_alC (Below.refl _ _)).drew TB.out | exact tc_keep HM.out (below_alC (by assumption)) TB.out | exact tc_keep HM.out (below_set4C (by with_reducible exact (by assumption : Zc _ _ _).1) (by assumption)) TB.out)
            (first
              | (go_at_call 16; refine (calls_zc (W := wr) (by with_reducible first | assumption | exact below_alC (by assumption) | exact (Below.refl _ _).drew | exact (below_alC (Below.refl _ _)).drew) (by with_reducible first | assumption | exact zc_alloc (by assumption) | exact zc_drew (zc_alloc (Below.refl _ _))) (FA.out _ (by with_reducible first | assumption | exact below_alC (by assumption) | exact (Below.refl _ _).drew | exact (below_alC (Below.refl _ _)).drew))).mono ?_; rintro e1 w3 ⟨rfl, hb, hzb⟩; obtain ⟨zb, zm, z0, z1, z2, z3, zf⟩ := id hzb)
              | (go_at_call 16; refine (calls_fromF (W := wr) (by with_reducible first | assumption | exact (Below.refl _ _).drew) (FA.out _ (by with_reducible first | assumption | exact (Below.refl _ _).drew))).mono ?_; rintro e1 w3 ⟨rfl, hb⟩)
              | (go_at_call 15; refine (calls_zc (W := wr) (by with_reducible first | assumption | exact below_alC (by assumption) | exact (Below.refl _ _).drew | exact (below_alC (Below.refl _ _)).drew) (by with_reducible first | assumption | exact zc_alloc (by assumption) | exact zc_drew (zc_alloc (Below.refl _ _))) (SAY.out.add _)).mono ?_; rintro e1 w3 ⟨rfl, hb, hzb⟩; obtain ⟨zb, zm, z0, z1, z2, z3, zf⟩ := id hzb)
              | (go_at_call 15; refine (calls_fromF (W := wr) (by with_reducible first | assumption | exact (Below.refl _ _).drew) (SAY.out.add _)).mono ?_; rintro e1 w3 ⟨rfl, hb⟩))
          all_goals
            go_wp2_with fail
            go_meet
            with_reducible first
              | exact ⟨_, rfl, rfl, below_alC hb, four_alloc⟩
              | exact ⟨_, rfl, rfl, below_set4C hzb.1 hb, four_setC hzb⟩
        case rest =>
          obtain ⟨m6, rfl, rfl, hb1, h6⟩ := hcut
          obtain ⟨W3, hW⟩ : ∃ W, W = wc := ⟨_, rfl⟩
          rw [← hW] at hb1 h6 ⊢
          clear hW
          have TB3 : Hid (TC ms mc a b c d (.slice p 12 cc) W3) := Lib.hid (tc_keep HM.out hb1 TB.out)
          have HM3 : Hid (ms < W3.heap.size ∧ mc < W3.heap.size) := Lib.hid ⟨Nat.lt_of_lt_of_le HM.out.1 hb1.size, Nat.lt_of_lt_of_le HM.out.2 hb1.size⟩
          have PA3 : Hid (∀ X, Below W3.heap.size W3 X → Calls Try.prog 18 #[cirV (.slice p 12 cc), .int .i64 k] X fun en w' => en = .returned (ivV p1 q1 r1 s1) ∧ Below X.heap.size X w') := Lib.hid (fun X hX => PA.out X (hb1.trans (hX.mono hb1.size)))
          have FF3 := Lib.hid (fun o => (hb1.frozen (p := ⟨ms, o, none⟩) F2.out.1.1).trans (F2.out.2 o))
          have G3 := Lib.hid h6
          have X3 := Lib.hid (one_keep hb1 X2.out)
          have O3 := Lib.hid (own_below O2.out hb1)
          have B3 := Lib.hid (B2.out.trans (hb1.mono B2.out.size))
          clear hb1 h6 TB HM PA FA F2 X2 O2 B2
          go_upto_region 9 with fail
          go_cut [34] (fun s34 wx => s34 = .bool false ∧ Below W3.heap.size W3 wx)
          case first =>
            go_region_held3 (fun w' => w'.cell? ⟨ms, 0, none⟩ = some (.int .i64 a) ∧ w'.cell? ⟨ms, 1, none⟩ = some (.int .i64 b) ∧ w'.cell? ⟨ms, 2, none⟩ = some (.int .i64 c) ∧ w'.cell? ⟨ms, 3, none⟩ = some (.int .i64 d) ∧ w'.cell? ⟨mc, 0, none⟩ = some (.slice p 12 cc)) (with_reducible first | exact tc_keep HM3.out (Below.refl _ _).drew TB3.out | exact tc_keep HM3.out (by assumption) TB3.out)
              (first
                | (go_at_call 18; refine (calls_fromF (W := W3) (by with_reducible first | assumption | exact (Below.refl _ _).drew) (PA3.out _ (by with_reducible first | assumption | exact (Below.refl _ _).drew))).mono ?_; rintro e1 w3 ⟨rfl, hb⟩)
                | (go_at_call 17; refine (calls_fromF (W := W3) (by with_reducible first | assumption | exact (Below.refl _ _).drew) (SAY.out.spc _)).mono ?_; rintro e1 w3 ⟨rfl, hb⟩))
            all_goals
              go_wp2_with fail
              go_meet
              exact ⟨rfl, hb⟩
          case rest =>
            obtain ⟨rfl, hb1⟩ := hcut
            obtain ⟨W4, hW⟩ : ∃ W, W = wc := ⟨_, rfl⟩
            rw [← hW] at hb1 ⊢
            clear hW
            have TB4 := tc_keep HM3.out hb1 TB3.out
            have ML := Nat.lt_of_lt_of_le HM3.out.1 hb1.size
            have FF4 : ∀ o, W4.frozen? ⟨ms, o, none⟩ = false := fun o => (hb1.frozen (p := ⟨ms, o, none⟩) HM3.out.1).trans (FF3.out o)
            obtain ⟨_, g0, g1, g2, g3⟩ := four_keep hb1 G3.out
            have X4 := Lib.hid (one_keep hb1 X3.out)
            have O4 := Lib.hid (own_below O3.out hb1)
            have B4 := Lib.hid (B3.out.trans (hb1.mono B3.out.size))
            have ND := Lib.hid (show ms ≠ mc from by omega)
            have NO := Lib.hid (show (Value.slice p 12 cc).ownBlock ≠ some ms from fun e => by have := LB.out _ e; omega)
            obtain ⟨s0, s1', s2, s3, s4⟩ := TB4
            have F4 : Hid (Four ms a' b' c' d' ((((W4.setCell ⟨ms, 0, none⟩ (.int .i64 a')).setCell ⟨ms, 1, none⟩ (.int .i64 b')).setCell ⟨ms, 2, none⟩ (.int .i64 c')).setCell ⟨ms, 3, none⟩ (.int .i64 d')) ∧ ∀ o, ((((W4.setCell ⟨ms, 0, none⟩ (.int .i64 a')).setCell ⟨ms, 1, none⟩ (.int .i64 b')).setCell ⟨ms, 2, none⟩ (.int .i64 c')).setCell ⟨ms, 3, none⟩ (.int .i64 d')).frozen? ⟨ms, o, none⟩ = false) := Lib.hid ⟨four_set ⟨ML, s0, s1', s2, s3⟩, fun o => by simp [go_sem, FF4]⟩
            have X5 := Lib.hid (one_oth (j := 3) (u := .int .i64 d') ND.out (one_oth (j := 2) (u := .int .i64 c') ND.out (one_oth (j := 1) (u := .int .i64 b') ND.out (one_oth (j := 0) (u := .int .i64 a') ND.out X4.out))))
            have O5 := Lib.hid (ownsRow_setCell_other (a := ⟨ms, 3, none⟩) (ownsRow_setCell_other (a := ⟨ms, 2, none⟩) (ownsRow_setCell_other (a := ⟨ms, 1, none⟩) (ownsRow_setCell_other (a := ⟨ms, 0, none⟩) O4.out NO.out (.int .i64 a')) NO.out (.int .i64 b')) NO.out (.int .i64 c')) NO.out (.int .i64 d'))
            have B5 := Lib.hid ((((B4.out.setCell (p := ⟨ms, 0, none⟩) M2 (.int .i64 a')).setCell (p := ⟨ms, 1, none⟩) M2 (.int .i64 b')).setCell (p := ⟨ms, 2, none⟩) M2 (.int .i64 c')).setCell (p := ⟨ms, 3, none⟩) M2 (.int .i64 d'))
            clear X4 O4 B4 TB3 HM3 PA3 FF3 G3 X3 O3 B3 hb1
            go_wp2_with fail
            go_roundw
            case rel => exact ⟨k + 1, a', b', c', d', HLT.out, by go_num, HS', F4, X5, O5, B5⟩
            case measure => simp [intOf]; omega
      · obtain rfl : k = 12 := by omega
        obtain ⟨rfl, rfl, rfl, rfl⟩ := sum_end OK.out HS.out
        have q3 : ¬ ((12 : Nat) : Int) < 12 := by omega
        have HL := Lib.hid (show xs.length ≤ 2000000 from by rw [OK.out.1]; omega)
        have TB : Hid (TC ms mc 7 0 0 1 (.slice p 12 cc) wr) := Lib.hid ⟨F2.out.1.2.1, F2.out.1.2.2.1, F2.out.1.2.2.2.1, F2.out.1.2.2.2.2, X2.out.2.1⟩
        have HM : Hid (ms < wr.heap.size ∧ mc < wr.heap.size) := Lib.hid ⟨F2.out.1.1, X2.out.1⟩
        have AT2 : Hid (∀ X, Below wr.heap.size wr X → Calls Try.prog 20 #[.slice a0 len0 cap0, .int .i64 0] X fun e w' => e = .returned (.int .i64 (u : Int)) ∧ X = w') := Lib.hid (fun X hX => AT.out X (B2.out.trans (hX.mono B2.out.size)))
        have CK : Hid (∀ X, Below wr.heap.size wr X → Calls Try.prog 21 #[cirV (.slice p 12 cc)] X fun en w' => en = .returned (.bool true) ∧ Below X.heap.size X w') := Lib.hid (fun X hX => by
          have t := cirOk_impl X _ _ _ xs HL.out (own_eq (own_below O2.out hX) (rfl : xs = xs) OK.out.1.symm)
          rwa [show cirB xs = true from decide_eq_true OK.out] at t)
        have hrr := HRR.out
        have hfld : ∀ X, Sem.run Try.prog (Instr.field 29 (ivV ep 0 er es) 1) X = .ok (.int .i64 0) X := fun X => rfl
        clear F2 X2 O2 AT HS
        go_upto_region 12 with fail
        go_region_held3 (fun w' => w'.cell? ⟨ms, 0, none⟩ = some (.int .i64 7) ∧ w'.cell? ⟨ms, 1, none⟩ = some (.int .i64 0) ∧ w'.cell? ⟨ms, 2, none⟩ = some (.int .i64 0) ∧ w'.cell? ⟨ms, 3, none⟩ = some (.int .i64 1) ∧ w'.cell? ⟨mc, 0, none⟩ = some (.slice p 12 cc)) (with_reducible first | exact tc_keep HM.out (Below.refl _ _).drew TB.out | exact tc_keep HM.out (by assumption) TB.out)
          (first
            | (go_at_call 14; refine (calls_fromF (W := wr) (by with_reducible first | assumption | exact (Below.refl _ _).drew) (pure_impl_yes 7 0 0 _ (by decide))).mono ?_; rintro e1 w3 ⟨rfl, hb⟩)
            | (go_at_call 19; refine (calls_cir (W := wr) (by with_reducible first | assumption | exact (Below.refl _ _).drew) (equal_impl _)).mono ?_; rintro e1 w4 ⟨v4, rfl, o4, hb⟩)
            | (go_at_call 20; refine (AT2.out _ (by with_reducible first | assumption | exact (Below.refl _ _).drew)).mono ?_; rintro e1 w5 ⟨rfl, rfl⟩)
            | (go_at_call 18; refine (calls_fromF (W := wr) (by with_reducible first | assumption | exact (Below.refl _ _).drew) (pitch_impl EP.out _ _ _ _ (by decide) (by with_reducible assumption))).mono ?_; rintro e1 w6 ⟨rfl, hb⟩)
            | (go_at_call 21; refine (calls_fromF (W := wr) (by with_reducible first | assumption | exact (Below.refl _ _).drew) (CK.out _ (by with_reducible first | assumption | exact (Below.refl _ _).drew))).mono ?_; rintro e1 w7 ⟨rfl, hb⟩))
        all_goals
          go_wp2_with fail
          go_ret
          exact ⟨rfl, B2.out.trans (hb.mono B2.out.size)⟩
end Go.Proofs.Ytjfeeppbbckneaa
