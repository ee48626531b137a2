/- The walk of laws.FnThirds. -/
import Derived.Test.YtohfepcdgbgojabDoorThirdSay
import Derived.Test.YtohfepcdgbgojabDoorDrawCir
import Derived.Test.YtohfepcdgbgojabDoorAtWalks
import Derived.Deep.RegionHeld3
import Derived.Deep.DeepCutAuto
namespace Go.Proofs.YtohfepcdgbgojabDoor
open Go.RowKit Go.Joins
set_option linter.unusedVariables false
theorem iv_run {fn : FuncId} {W : World} {v : Value} {i a b c d : Int} (H : IvSay fn W v i a b c d) (X : World) (hX : Below W.heap.size W X) : Calls Tryd.prog fn #[cirV v, .int .i64 i] X fun en w' => en = .returned (ivV a b c d) ∧ Below X.heap.size X w' := H X hX
theorem iv_more {fn : FuncId} {W V : World} {v : Value} {i a b c d : Int} (H : IvSay fn W v i a b c d) (hb : Below W.heap.size W V) : IvSay fn V v i a b c d := fun X hX => H X (hb.trans (hX.mono hb.size))
/-- Two intervals, the circle's box and three of its parts. -/
abbrev EndC (ms me mc q l9 l10 l11 : Nat) (a b c d e f g h : Int) (v : Value) (x9 x10 x11 : Int) (w : World) : Prop :=
  w.cell? ⟨ms, 0, none⟩ = some (.int .i64 a) ∧ w.cell? ⟨ms, 1, none⟩ = some (.int .i64 b) ∧ w.cell? ⟨ms, 2, none⟩ = some (.int .i64 c) ∧ w.cell? ⟨ms, 3, none⟩ = some (.int .i64 d) ∧ w.cell? ⟨me, 0, none⟩ = some (.int .i64 e) ∧ w.cell? ⟨me, 1, none⟩ = some (.int .i64 f) ∧ w.cell? ⟨me, 2, none⟩ = some (.int .i64 g) ∧ w.cell? ⟨me, 3, none⟩ = some (.int .i64 h) ∧ w.cell? ⟨mc, 0, none⟩ = some v ∧ w.cell? ⟨q, l9, none⟩ = some (.int .i64 x9) ∧ w.cell? ⟨q, l10, none⟩ = some (.int .i64 x10) ∧ w.cell? ⟨q, l11, none⟩ = some (.int .i64 x11)
theorem endC_keep {ms me mc q l9 l10 l11 : Nat} {a b c d e f g h : Int} {v : Value} {x9 x10 x11 : Int} {W w : World} (hm : ms < W.heap.size ∧ me < W.heap.size ∧ mc < W.heap.size ∧ q < W.heap.size) (hb : Below W.heap.size W w) (H : EndC ms me mc q l9 l10 l11 a b c d e f g h v x9 x10 x11 W) : EndC ms me mc q l9 l10 l11 a b c d e f g h v x9 x10 x11 w := by
  obtain ⟨h1, h2, h3, h4⟩ := hm
  obtain ⟨a0, a1, a2, a3, b0, b1, b2, b3, c0, d0, d1, d2⟩ := H
  exact ⟨(hb.cell h1).trans a0, (hb.cell h1).trans a1, (hb.cell h1).trans a2, (hb.cell h1).trans a3, (hb.cell h2).trans b0, (hb.cell h2).trans b1, (hb.cell h2).trans b2, (hb.cell h2).trans b3, (hb.cell h3).trans c0, (hb.cell h4).trans d0, (hb.cell h4).trans d1, (hb.cell h4).trans d2⟩
set_option maxRecDepth 100000 in
set_option maxHeartbeats 8000000 in
theorem walk_FnThirds (A : Addr) (a0 : Option Addr) (len0 cap0 : Nat) (z0 : List Int) (w : World) (hs : SenAt A w) (hr : IsRow .u8 w a0 len0 cap0 z0) :
    Calls Tryd.prog 4 #[.slice a0 len0 cap0] w fun e w' => e = .returned (.bool true) ∧ Below w.heap.size w w' := by
  have hlen := (row_len hr).2
  have SE := Lib.hid hs
  clear hs
  by_cases hbig : 1048576 < len0
  · have t0 : decide (1048576 < (len0 : Int)) = true := by simp; omega
    go_enter Tryd.func4, Tryd.ntmps4
    go_wp2_with fail
    refine (bigW_any _ _ _ _ hlen).mono ?_
    rintro e w' ⟨rfl, rfl⟩
    go_wp2_with fail
    go_ret
    exact ⟨rfl, Below.refl _ _⟩
  · have t0 : decide (1048576 < (len0 : Int)) = false := by simp; omega
    have HR := Lib.hid hr
    obtain ⟨u, hu, hat⟩ := at_fix hr (by omega) 0 (by omega)
    have AT := Lib.hid hat
    have HLEN := Lib.hid hlen
    clear hr hbig hlen hat
    go_enter Tryd.func4, Tryd.ntmps4
    go_wp2_with fail
    refine (bigW_any _ _ _ _ HLEN.out).mono ?_
    rintro e w' ⟨rfl, rfl⟩
    rw [t0]
    go_wp2_with fail
    clear t0
    refine (drawCircle_any HR.out).mono ?_
    rintro e w1 ⟨xs, p, cc, ok, rfl, o1, b1⟩
    have OK := Lib.hid ok
    have X1 := Lib.hid (one_alloc (w := w1) (v := .slice p 12 cc) (t := 26))
    have O1 := Lib.hid (own_below o1 (below_alloc1 w1 (.cells #[.slice p 12 cc] 26)))
    have B1 := Lib.hid (b1.alloc b1.size (.cells #[.slice p 12 cc] 26))
    have LB := Lib.hid (fun g hg => (o1.lt g hg).2)
    clear ok o1 b1 HR HLEN
    go_upto_region 4 with fail
    obtain ⟨W1, hW⟩ : ∃ W, W = w1.alloc (.cells #[.slice p 12 cc] 26) := ⟨_, rfl⟩
    obtain ⟨mc, hm⟩ : ∃ m, m = w1.heap.size := ⟨_, rfl⟩
    rw [← hW] at X1 O1 B1 ⊢
    rw [← hm] at X1 LB ⊢
    clear hW hm
    obtain ⟨r, hrr⟩ : ∃ r : Nat, r = u % 12 := ⟨_, rfl⟩
    have hr12 : r < 12 := by omega
    have htm : (u : Int).tmod 12 = (r : Int) := by rw [Int.tmod_eq_emod_of_nonneg (by omega)]; omega
    go_cut [4] (fun s wx => s = .int .i64 (r : Int) ∧ wx = W1)
    case first =>
      go_wp2_with fail
      refine (AT.out _ B1.out).mono ?_
      rintro e w2 ⟨rfl, rfl⟩
      go_wp2_with fail
      go_meet
      first
        | exact ⟨rfl, rfl⟩
        | exact ⟨congrArg (Value.int .i64) (by omega), rfl⟩
        | exact ⟨congrArg (Value.int .i64) htm, rfl⟩
    case rest =>
      obtain ⟨rfl, rfl⟩ := hcut
      clear hrr htm hu AT
      go_wp2_with fail
      refine (pure_impl_yes (-2) 0 0 _ (by decide)).mono ?_
      rintro e w2 ⟨rfl, b2⟩
      have A2 := below_alloc1 w2 (.cells #[.int .i64 (-2), .int .i64 0, .int .i64 0, .int .i64 1] 33)
      have X2 := Lib.hid (one_keep A2 (one_keep b2 X1.out))
      have O2 := Lib.hid (own_below (own_below O1.out b2) A2)
      have B2 := Lib.hid ((B1.out.trans (b2.mono B1.out.size)).trans (A2.mono (Nat.le_trans B1.out.size b2.size)))
      have F2 : Hid (Four w2.heap.size (-2) 0 0 1 (w2.alloc (.cells #[.int .i64 (-2), .int .i64 0, .int .i64 0, .int .i64 1] 33)) ∧ ∀ o, (w2.alloc (.cells #[.int .i64 (-2), .int .i64 0, .int .i64 0, .int .i64 1] 33)).frozen? ⟨w2.heap.size, o, none⟩ = false) := Lib.hid ⟨four_alloc, fun o => by simp [go_sem]⟩
      have M2 : w.heap.size ≤ w2.heap.size := Nat.le_trans B1.out.size b2.size
      have MS : mc < w2.heap.size := Nat.lt_of_lt_of_le X1.out.1 b2.size
      clear b2 A2 X1 O1 B1
      go_upto_region 6 with fail
      obtain ⟨W2, hW⟩ : ∃ W, W = w2.alloc (.cells #[.int .i64 (-2), .int .i64 0, .int .i64 0, .int .i64 1] 33) := ⟨_, rfl⟩
      obtain ⟨ms, hm⟩ : ∃ m, m = w2.heap.size := ⟨_, rfl⟩
      rw [← hW] at X2 O2 B2 F2 ⊢
      rw [← hm] at F2 M2 MS ⊢
      clear hW hm
      go_wp2_with fail
      go_loopw [6, 7, 8] (fun x y z wr => ∃ (k : Nat) (a b c d : Int), k ≤ 4 ∧ x = .int .i64 k ∧ Hid (SumT xs r k a b c d) ∧ Hid (Four ms a b c d wr ∧ ∀ o, wr.frozen? ⟨ms, o, none⟩ = false) ∧ Hid (One mc (.slice p 12 cc) wr) ∧ Hid (wr.ownsRow w.heap.size 3 1 (.slice p 12 cc) 12 (intCs xs)) ∧ Hid (Below w.heap.size w wr)) (fun x _ _ _ => 4 - (intOf x).toNat)
      case atStart => exact ⟨0, -2, 0, 0, 1, Nat.zero_le _, rfl, Lib.hid (sumT_start xs r), F2, X2, O2, B2⟩
      case round =>
        clear X2 O2 B2 F2
        obtain ⟨k, a, b, c, d, hk, rfl, HS, F2, X2, O2, B2⟩ := hrel
        by_cases hlt : k < 4
        · have q3 : (k : Int) < 4 := by omega
          obtain ⟨e, f, g, h, a', b', c', d', hfif, hadd, hsum⟩ := sumT_next OK.out hlt HS.out O2.out
          have HS' := Lib.hid hsum
          have HLT := Lib.hid hlt
          obtain ⟨l, hl⟩ : ∃ l, l = (r + k) % 12 := ⟨_, rfl⟩
          rw [← hl] at hfif
          have vt : (IntKind.i64.wrap ((r : Int) + (k : Int))).tmod 12 = (l : Int) := by rw [IntWalk.i64_in _ (by omega), Int.tmod_eq_emod_of_nonneg (by omega)]; omega
          clear hl
          have TB : Hid (TC ms mc a b c d (.slice p 12 cc) wr) := Lib.hid ⟨F2.out.1.2.1, F2.out.1.2.2.1, F2.out.1.2.2.2.1, F2.out.1.2.2.2.2, X2.out.2.1⟩
          have HM : Hid (ms < wr.heap.size ∧ mc < wr.heap.size) := Lib.hid ⟨F2.out.1.1, X2.out.1⟩
          clear hsum HS
          go_upto_region 9 with fail
          go_cut [7, 8] (fun s7 s8 wx => ∃ m6 : Nat, s7 = .pointer (some ⟨m6, 0, none⟩) ∧ s8 = .bool true ∧ Below wr.heap.size wr wx ∧ Four m6 a' b' c' d' wx)
          case first =>
            go_region_held3 (fun w' => w'.cell? ⟨ms, 0, none⟩ = some (.int .i64 a) ∧ w'.cell? ⟨ms, 1, none⟩ = some (.int .i64 b) ∧ w'.cell? ⟨ms, 2, none⟩ = some (.int .i64 c) ∧ w'.cell? ⟨ms, 3, none⟩ = some (.int .i64 d) ∧ w'.cell? ⟨mc, 0, none⟩ = some (.slice p 12 cc)) (with_reducible first | exact tc_keep HM.out (Below.refl _ _).drew TB.out | exact tc_keep HM.out (by assumption) TB.out | exact tc_keep HM.out (below_alC (Below.refl _ _).drew) TB.out | exact tc_keep HM.out (below_alC (Below.refl _ _)).drew TB.out | exact tc_keep HM.out (below_alC (by assumption)) TB.out | exact tc_keep HM.out (below_set4C (by with_reducible exact (by assumption : Zc _ _ _).1) (by assumption)) TB.out)
              (first
                | (go_at_call 16; refine (calls_zc (W := wr) (by with_reducible first | assumption | exact below_alC (by assumption) | exact (Below.refl _ _).drew | exact (below_alC (Below.refl _ _)).drew) (by with_reducible first | assumption | exact zc_alloc (by assumption) | exact zc_drew (zc_alloc (Below.refl _ _))) (fif_run (by with_reducible assumption) _ (by with_reducible first | assumption | exact below_alC (by assumption) | exact (Below.refl _ _).drew | exact (below_alC (Below.refl _ _)).drew))).mono ?_; rintro e1 w3 ⟨rfl, hb, hzb⟩; obtain ⟨zb, zm, z0, z1, z2, z3, zf⟩ := id hzb)
                | (go_at_call 16; refine (calls_fromF (W := wr) (by with_reducible first | assumption | exact (Below.refl _ _).drew) (fif_run (by with_reducible assumption) _ (by with_reducible first | assumption | exact (Below.refl _ _).drew))).mono ?_; rintro e1 w3 ⟨rfl, hb⟩)
                | (go_at_call 15; refine (calls_zc (W := wr) (by with_reducible first | assumption | exact below_alC (by assumption) | exact (Below.refl _ _).drew | exact (below_alC (Below.refl _ _)).drew) (by with_reducible first | assumption | exact zc_alloc (by assumption) | exact zc_drew (zc_alloc (Below.refl _ _))) (addTo_run (by with_reducible assumption) _)).mono ?_; rintro e1 w3 ⟨rfl, hb, hzb⟩; obtain ⟨zb, zm, z0, z1, z2, z3, zf⟩ := id hzb)
                | (go_at_call 15; refine (calls_fromF (W := wr) (by with_reducible first | assumption | exact (Below.refl _ _).drew) (addTo_run (by with_reducible assumption) _)).mono ?_; rintro e1 w3 ⟨rfl, hb⟩))
            all_goals
              go_wp2_with fail
              go_meet
              with_reducible first
                | exact ⟨_, rfl, rfl, below_alC hb, four_alloc⟩
                | exact ⟨_, rfl, rfl, below_set4C hzb.1 hb, four_setC hzb⟩
          case rest =>
            obtain ⟨m6, rfl, rfl, hb1, h6⟩ := hcut
            obtain ⟨W4, hW⟩ : ∃ W, W = wc := ⟨_, rfl⟩
            rw [← hW] at hb1 h6 ⊢
            clear hW
            have TB4 := tc_keep HM.out hb1 TB.out
            have ML := Nat.lt_of_lt_of_le HM.out.1 hb1.size
            have FF4 : ∀ o, W4.frozen? ⟨ms, o, none⟩ = false := fun o => (hb1.frozen (p := ⟨ms, o, none⟩) HM.out.1).trans (F2.out.2 o)
            obtain ⟨_, g0, g1, g2, g3⟩ := h6
            have X4 := Lib.hid (one_keep hb1 X2.out)
            have O4 := Lib.hid (own_below O2.out hb1)
            have B4 := Lib.hid (B2.out.trans (hb1.mono B2.out.size))
            have ND := Lib.hid (show ms ≠ mc from by omega)
            have NO := Lib.hid (show (Value.slice p 12 cc).ownBlock ≠ some ms from fun e => by have := LB.out _ e; omega)
            obtain ⟨s0, s1', s2, s3, s4⟩ := TB4
            have F4 : Hid (Four ms a' b' c' d' ((((W4.setCell ⟨ms, 0, none⟩ (.int .i64 a')).setCell ⟨ms, 1, none⟩ (.int .i64 b')).setCell ⟨ms, 2, none⟩ (.int .i64 c')).setCell ⟨ms, 3, none⟩ (.int .i64 d')) ∧ ∀ o, ((((W4.setCell ⟨ms, 0, none⟩ (.int .i64 a')).setCell ⟨ms, 1, none⟩ (.int .i64 b')).setCell ⟨ms, 2, none⟩ (.int .i64 c')).setCell ⟨ms, 3, none⟩ (.int .i64 d')).frozen? ⟨ms, o, none⟩ = false) := Lib.hid ⟨four_set ⟨ML, s0, s1', s2, s3⟩, fun o => by simp [go_sem, FF4]⟩
            have X5 := Lib.hid (one_oth (j := 3) (u := .int .i64 d') ND.out (one_oth (j := 2) (u := .int .i64 c') ND.out (one_oth (j := 1) (u := .int .i64 b') ND.out (one_oth (j := 0) (u := .int .i64 a') ND.out X4.out))))
            have O5 := Lib.hid (ownsRow_setCell_other (a := ⟨ms, 3, none⟩) (ownsRow_setCell_other (a := ⟨ms, 2, none⟩) (ownsRow_setCell_other (a := ⟨ms, 1, none⟩) (ownsRow_setCell_other (a := ⟨ms, 0, none⟩) O4.out NO.out (.int .i64 a')) NO.out (.int .i64 b')) NO.out (.int .i64 c')) NO.out (.int .i64 d'))
            have B5 := Lib.hid ((((B4.out.setCell (p := ⟨ms, 0, none⟩) M2 (.int .i64 a')).setCell (p := ⟨ms, 1, none⟩) M2 (.int .i64 b')).setCell (p := ⟨ms, 2, none⟩) M2 (.int .i64 c')).setCell (p := ⟨ms, 3, none⟩) M2 (.int .i64 d'))
            clear X4 O4 B4 TB HM F2 X2 O2 B2 hb1 hfif hadd
            go_wp2_with fail
            go_roundw
            case rel => exact ⟨k + 1, a', b', c', d', HLT.out, by go_num, HS', F4, X5, O5, B5⟩
            case measure => simp [intOf]; omega
        · obtain rfl : k = 4 := by omega
          have q3 : ¬ ((4 : Nat) : Int) < 4 := by omega
          obtain ⟨e, f, g, h, P, S, x9, x10, x11, C, z, hsay⟩ := thiSay_ex A OK.out hr12 HS.out O2.out
          have SAY := Lib.hid hsay
          have hadd := hsay.add
          have TB : Hid (TC ms mc a b c d (.slice p 12 cc) wr) := Lib.hid ⟨F2.out.1.2.1, F2.out.1.2.2.1, F2.out.1.2.2.2.1, F2.out.1.2.2.2.2, X2.out.2.1⟩
          have HM : Hid (ms < wr.heap.size ∧ mc < wr.heap.size) := Lib.hid ⟨F2.out.1.1, X2.out.1⟩
          clear hsay HS
          go_upto_region 13 with fail
          go_cut [9, 10] (fun s9 s10 wx => ∃ m9 : Nat, s9 = .pointer (some ⟨m9, 0, none⟩) ∧ s10 = .bool true ∧ Below wr.heap.size wr wx ∧ Four m9 e f g h wx)
          case first =>
            go_region_held3 (fun w' => w'.cell? ⟨ms, 0, none⟩ = some (.int .i64 a) ∧ w'.cell? ⟨ms, 1, none⟩ = some (.int .i64 b) ∧ w'.cell? ⟨ms, 2, none⟩ = some (.int .i64 c) ∧ w'.cell? ⟨ms, 3, none⟩ = some (.int .i64 d) ∧ w'.cell? ⟨mc, 0, none⟩ = some (.slice p 12 cc)) (with_reducible first | exact tc_keep HM.out (Below.refl _ _).drew TB.out | exact tc_keep HM.out (by assumption) TB.out | exact tc_keep HM.out (below_alC (Below.refl _ _).drew) TB.out | exact tc_keep HM.out (below_alC (Below.refl _ _)).drew TB.out | exact tc_keep HM.out (below_alC (by assumption)) TB.out | exact tc_keep HM.out (below_set4C (by with_reducible exact (by assumption : Zc _ _ _).1) (by assumption)) TB.out)
              (first
                | (go_at_call 14; refine (calls_zc (W := wr) (by with_reducible first | assumption | exact below_alC (by assumption) | exact (Below.refl _ _).drew | exact (below_alC (Below.refl _ _)).drew) (by with_reducible first | assumption | exact zc_alloc (by assumption) | exact zc_drew (zc_alloc (Below.refl _ _))) (pure_impl_yes 2 0 (-1) _ (by decide))).mono ?_; rintro e1 w3 ⟨rfl, hb, hzb⟩; obtain ⟨zb, zm, z0, z1, z2, z3, zf⟩ := id hzb)
                | (go_at_call 14; refine (calls_fromF (W := wr) (by with_reducible first | assumption | exact (Below.refl _ _).drew) (pure_impl_yes 2 0 (-1) _ (by decide))).mono ?_; rintro e1 w3 ⟨rfl, hb⟩)
                | (go_at_call 15; refine (calls_zc (W := wr) (by with_reducible first | assumption | exact below_alC (by assumption) | exact (Below.refl _ _).drew | exact (below_alC (Below.refl _ _)).drew) (by with_reducible first | assumption | exact zc_alloc (by assumption) | exact zc_drew (zc_alloc (Below.refl _ _))) (addTo_run (by with_reducible assumption) _)).mono ?_; rintro e1 w3 ⟨rfl, hb, hzb⟩; obtain ⟨zb, zm, z0, z1, z2, z3, zf⟩ := id hzb)
                | (go_at_call 15; refine (calls_fromF (W := wr) (by with_reducible first | assumption | exact (Below.refl _ _).drew) (addTo_run (by with_reducible assumption) _)).mono ?_; rintro e1 w3 ⟨rfl, hb⟩))
            all_goals
              go_wp2_with fail
              go_meet
              with_reducible first
                | exact ⟨_, rfl, rfl, below_alC hb, four_alloc⟩
                | exact ⟨_, rfl, rfl, below_set4C hzb.1 hb, four_setC hzb⟩
          case rest =>
            obtain ⟨me, rfl, rfl, hb1, h9⟩ := hcut
            obtain ⟨V1, hW⟩ : ∃ W, W = wc := ⟨_, rfl⟩
            rw [← hW] at hb1 h9 ⊢
            clear hW hadd
            have HB1 := Lib.hid hb1
            have F9 := Lib.hid h9
            obtain ⟨_, c1, _⟩ := one_keep hb1 X2.out
            have SW := Lib.hid (SAY.out.wid V1 hb1 (senAt_below SE.out (B2.out.trans (hb1.mono B2.out.size))))
            clear hb1 h9
            go_wp2_with fail
            refine SW.out.mono ?_
            rintro en V2 ⟨rfl, b2⟩
            have HB2 := Lib.hid (HB1.out.trans (b2.mono HB1.out.size))
            have F10 := Lib.hid (four_keep b2 F9.out)
            clear b2 c1 SW HB1 F9
            obtain ⟨_, c2, _⟩ := one_keep HB2.out X2.out
            have SS := Lib.hid (SAY.out.sma V2 HB2.out)
            obtain ⟨R, hR⟩ : ∃ R, R = 12 - S := ⟨_, rfl⟩
            have bS := SAY.out.bS
            have v0 : IntKind.i64.wrap (12 - S) = R := by rw [IntWalk.i64_in _ (by omega)]; exact hR.symm
            go_wp2_with fail
            refine SS.out.mono ?_
            rintro en V3 ⟨rfl, b3⟩
            have HB3 := Lib.hid (HB2.out.trans (b3.mono HB2.out.size))
            have F11 := Lib.hid (four_keep b3 F10.out)
            clear b3 c2 SS HB2 F10
            go_upto_region 16 with fail
            obtain ⟨V, hW⟩ : ∃ W, W = V3 := ⟨_, rfl⟩
            rw [← hW] at HB3 F11 ⊢
            clear hW
            obtain ⟨q, cq, hq, _, hqV⟩ := own_pos (own_below O2.out HB3.out) (by omega)
            simp only [Value.slice.injEq, true_and] at hq
            obtain ⟨rfl, rfl⟩ := hq
            have OV := own_below O2.out HB3.out
            obtain ⟨l9, e9⟩ : ∃ l, l = (r + 9) % 12 := ⟨_, rfl⟩
            obtain ⟨l10, e10⟩ : ∃ l, l = (r + 10) % 12 := ⟨_, rfl⟩
            obtain ⟨l11, e11⟩ : ∃ l, l = (r + 11) % 12 := ⟨_, rfl⟩
            have d9 := own_icell OV ((r + 9) % 12) (by omega)
            have d10 := own_icell OV ((r + 10) % 12) (by omega)
            have d11 := own_icell OV ((r + 11) % 12) (by omega)
            rw [← SAY.out.g9] at d9
            rw [← SAY.out.g10] at d10
            rw [← SAY.out.g11] at d11
            rw [← e9] at d9
            rw [← e10] at d10
            rw [← e11] at d11
            have vt9 : (IntKind.i64.wrap ((r : Int) + 9)).tmod 12 = (l9 : Int) := by rw [IntWalk.i64_in _ (by omega), Int.tmod_eq_emod_of_nonneg (by omega)]; omega
            have vt10 : (IntKind.i64.wrap ((r : Int) + 10)).tmod 12 = (l10 : Int) := by rw [IntWalk.i64_in _ (by omega), Int.tmod_eq_emod_of_nonneg (by omega)]; omega
            have vt11 : (IntKind.i64.wrap ((r : Int) + 11)).tmod 12 = (l11 : Int) := by rw [IntWalk.i64_in _ (by omega), Int.tmod_eq_emod_of_nonneg (by omega)]; omega
            have n9' : (l9 : Int) < 12 := by omega
            have n10' : (l10 : Int) < 12 := by omega
            have n11' : (l11 : Int) < 12 := by omega
            have o9' : (0 : Int) ≤ l9 := by omega
            have o10' : (0 : Int) ≤ l10 := by omega
            have o11' : (0 : Int) ≤ l11 := by omega
            obtain ⟨l0, l1, l2, l3, l4⟩ := tc_keep HM.out HB3.out TB.out
            have EC : Hid (EndC ms me mc q l9 l10 l11 a b c d e f g h (.slice (some ⟨q, 0, none⟩) 12 cc) x9 x10 x11 V) := Lib.hid ⟨l0, l1, l2, l3, F11.out.2.1, F11.out.2.2.1, F11.out.2.2.2.1, F11.out.2.2.2.2, l4, d9, d10, d11⟩
            have EM : Hid (ms < V.heap.size ∧ me < V.heap.size ∧ mc < V.heap.size ∧ q < V.heap.size) := Lib.hid ⟨Nat.lt_of_lt_of_le HM.out.1 HB3.out.size, F11.out.1, Nat.lt_of_lt_of_le HM.out.2 HB3.out.size, hqV⟩
            have TA := iv_more SAY.out.at3 HB3.out
            have TE := iv_more SAY.out.err HB3.out
            have TP : Hid (∀ X, Below V.heap.size V X → Calls Tryd.prog 11 #[cirV (.slice (some ⟨q, 0, none⟩) 12 cc), .int .i64 r] X fun en w' => en = .returned (.int .i64 P) ∧ Below X.heap.size X w') := Lib.hid (fun X hX => SAY.out.par X (HB3.out.trans (hX.mono HB3.out.size)))
            have SV := Lib.hid (senAt_below SE.out (B2.out.trans (HB3.out.mono B2.out.size)))
            have BV := Lib.hid (B2.out.trans (HB3.out.mono B2.out.size))
            obtain ⟨y1, hy1⟩ : ∃ y, y = x9 + x10 := ⟨_, rfl⟩
            obtain ⟨⟨n9, m9⟩, ⟨n10, m10⟩, ⟨n11, m11⟩⟩ := SAY.out.bx
            have v1 : IntKind.i64.wrap (x9 + x10) = y1 := by rw [IntWalk.i64_in _ (by omega)]; exact hy1.symm
            have v2 : IntKind.i64.wrap (y1 + x11) = R := by rw [IntWalk.i64_in _ (by omega), hR, hy1]; exact SAY.out.sum.symm
            have tR : ((12 - S) == R) = true := by rw [hR]; simp
            have wz := SAY.out.wz
            have cz := SAY.out.cz
            clear e9 e10 e11 hR hy1 v0 bS d9 d10 d11 l0 l1 l2 l3 l4 OV hqV F2 X2 O2 B2 TB HM HB3 F11
            cases z
            · have hP : ¬ P < 12 := fun h => by rw [decide_eq_true h] at wz; cases wz
              have hC : ¬ 0 < C := fun h => by rw [decide_eq_true h] at cz; cases cz
              have dP : decide (P < 12) = false := wz.symm
              have dC : decide (C > 0) = false := cz.symm
              clear wz cz
              go_region_held3 (fun w' => w'.cell? ⟨ms, 0, none⟩ = some (.int .i64 a) ∧ w'.cell? ⟨ms, 1, none⟩ = some (.int .i64 b) ∧ w'.cell? ⟨ms, 2, none⟩ = some (.int .i64 c) ∧ w'.cell? ⟨ms, 3, none⟩ = some (.int .i64 d) ∧ w'.cell? ⟨me, 0, none⟩ = some (.int .i64 e) ∧ w'.cell? ⟨me, 1, none⟩ = some (.int .i64 f) ∧ w'.cell? ⟨me, 2, none⟩ = some (.int .i64 g) ∧ w'.cell? ⟨me, 3, none⟩ = some (.int .i64 h) ∧ w'.cell? ⟨mc, 0, none⟩ = some (.slice (some ⟨q, 0, none⟩) 12 cc) ∧ w'.cell? ⟨q, l9, none⟩ = some (.int .i64 x9) ∧ w'.cell? ⟨q, l10, none⟩ = some (.int .i64 x10) ∧ w'.cell? ⟨q, l11, none⟩ = some (.int .i64 x11)) (with_reducible first | exact endC_keep EM.out (Below.refl _ _).drew EC.out | exact endC_keep EM.out (by assumption) EC.out)
                (first
                  | (go_at_call 13; refine (calls_fromF (W := V) (by with_reducible first | assumption | exact (Below.refl _ _).drew) (iv_run (by with_reducible assumption) _ (by with_reducible first | assumption | exact (Below.refl _ _).drew))).mono ?_; rintro e1 w3 ⟨rfl, hb⟩)
                  | (go_at_call 19; refine (calls_fromF (W := V) (by with_reducible first | assumption | exact (Below.refl _ _).drew) (iv_run (by with_reducible assumption) _ (by with_reducible first | assumption | exact (Below.refl _ _).drew))).mono ?_; rintro e1 w3 ⟨rfl, hb⟩)
                  | (go_at_call 11; refine (calls_fromF (W := V) (by with_reducible first | assumption | exact (Below.refl _ _).drew) (TP.out _ (by with_reducible first | assumption | exact (Below.refl _ _).drew))).mono ?_; rintro e1 w3 ⟨rfl, hb⟩)
                  | (go_at_call 20; refine (calls_fromF (W := V) (by with_reducible first | assumption | exact (Below.refl _ _).drew) (SAY.out.sgn _ (senAt_below SV.out (by with_reducible first | assumption | exact (Below.refl _ _).drew)))).mono ?_; rintro e1 w3 ⟨rfl, hb⟩))
              all_goals
                go_wp2_with fail
                go_ret
                first
                  | exact ⟨rfl, BV.out.trans (hb.mono BV.out.size)⟩
                  | exact ⟨ret_boolT tR, BV.out.trans (hb.mono BV.out.size)⟩
            · have hP : P < 12 := of_decide_eq_true wz.symm
              have hC : 0 < C := of_decide_eq_true cz.symm
              have dP : decide (P < 12) = true := wz.symm
              have dC : decide (C > 0) = true := cz.symm
              clear wz cz
              go_region_held3 (fun w' => w'.cell? ⟨ms, 0, none⟩ = some (.int .i64 a) ∧ w'.cell? ⟨ms, 1, none⟩ = some (.int .i64 b) ∧ w'.cell? ⟨ms, 2, none⟩ = some (.int .i64 c) ∧ w'.cell? ⟨ms, 3, none⟩ = some (.int .i64 d) ∧ w'.cell? ⟨me, 0, none⟩ = some (.int .i64 e) ∧ w'.cell? ⟨me, 1, none⟩ = some (.int .i64 f) ∧ w'.cell? ⟨me, 2, none⟩ = some (.int .i64 g) ∧ w'.cell? ⟨me, 3, none⟩ = some (.int .i64 h) ∧ w'.cell? ⟨mc, 0, none⟩ = some (.slice (some ⟨q, 0, none⟩) 12 cc) ∧ w'.cell? ⟨q, l9, none⟩ = some (.int .i64 x9) ∧ w'.cell? ⟨q, l10, none⟩ = some (.int .i64 x10) ∧ w'.cell? ⟨q, l11, none⟩ = some (.int .i64 x11)) (with_reducible first | exact endC_keep EM.out (Below.refl _ _).drew EC.out | exact endC_keep EM.out (by assumption) EC.out)
                (first
                  | (go_at_call 13; refine (calls_fromF (W := V) (by with_reducible first | assumption | exact (Below.refl _ _).drew) (iv_run (by with_reducible assumption) _ (by with_reducible first | assumption | exact (Below.refl _ _).drew))).mono ?_; rintro e1 w3 ⟨rfl, hb⟩)
                  | (go_at_call 19; refine (calls_fromF (W := V) (by with_reducible first | assumption | exact (Below.refl _ _).drew) (iv_run (by with_reducible assumption) _ (by with_reducible first | assumption | exact (Below.refl _ _).drew))).mono ?_; rintro e1 w3 ⟨rfl, hb⟩)
                  | (go_at_call 11; refine (calls_fromF (W := V) (by with_reducible first | assumption | exact (Below.refl _ _).drew) (TP.out _ (by with_reducible first | assumption | exact (Below.refl _ _).drew))).mono ?_; rintro e1 w3 ⟨rfl, hb⟩)
                  | (go_at_call 20; refine (calls_fromF (W := V) (by with_reducible first | assumption | exact (Below.refl _ _).drew) (SAY.out.sgn _ (senAt_below SV.out (by with_reducible first | assumption | exact (Below.refl _ _).drew)))).mono ?_; rintro e1 w3 ⟨rfl, hb⟩))
              all_goals
                go_wp2_with fail
                go_ret
                first
                  | exact ⟨rfl, BV.out.trans (hb.mono BV.out.size)⟩
                  | exact ⟨ret_boolT tR, BV.out.trans (hb.mono BV.out.size)⟩
end Go.Proofs.YtohfepcdgbgojabDoor
