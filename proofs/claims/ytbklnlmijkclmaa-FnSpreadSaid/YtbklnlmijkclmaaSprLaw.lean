/- Walks of exact laws of plans (written by stepslaw.py). -/
import Derived.Test.YtbklnlmijkclmaaSprImpl
namespace Go.Proofs.Ytbklnlmijkclmaa
open Go.RowKit Go.Joins
set_option linter.unusedVariables false
set_option maxRecDepth 100000 in
set_option maxHeartbeats 8000000 in
theorem walk_DepthOfBy (II : DepImpl) (a : Option Addr) (len cap : Nat) (xs : List Iv) (a1 : Int) (w : World) (hr : IvRow w a len xs) (h1 : (Lit.int .i64 a1).wf = true) :
    Calls Try.prog 5 #[.slice a len cap, .int .i64 a1] w fun e w' => e = .returned (.bool true) ∧ Below w.heap.size w w' := by
  have WF1 := Lib.hid h1
  clear h1
  have hlen := hr.2.1
  have HR := Lib.hid hr
  have HN := Lib.hid hr.1
  clear hr
  by_cases hbig : 1048576 < len
  · have SZ := Lib.hid (szSt_any a len cap w hlen)
    rw [if_pos hbig] at SZ
    clear hbig hlen
    go_enter Try.func5, Try.ntmps5
    go_wp2_with fail
    refine SZ.out.mono ?_
    rintro en w1 ⟨rfl, rfl⟩
    go_wp2_with fail
    go_ret
    exact ⟨rfl, Below.refl _ _⟩
  · have SZ := Lib.hid (szSt_any a len cap w hlen)
    rw [if_neg hbig] at SZ
    have t0 : ¬ (1048576 : Int) - (len : Int) < 0 := by omega
    have hl : len ≤ 1048576 := by omega
    have hx2 : xs.length ≤ 2000000 := by have := HN.out; omega
    have SP := Lib.hid (fun (W : World) (v : Value) (h : W.ownsRow w.heap.size 32 4 v xs.length (ivCs xs)) => depth_spec a1 W w.heap.size _ v xs hx2 h)
    have SI := Lib.hid (fun (W : World) (v : Value) (h : W.ownsRow w.heap.size 32 4 v xs.length (ivCs xs)) => II a1 WF1.out W w.heap.size v xs hx2 h)
    obtain ⟨C, hC⟩ : ∃ C, depV xs a1 = C := ⟨_, rfl⟩
    rw [hC] at SP SI
    have tc : (C != C) = false := by simp
    clear hC
    clear hbig hlen
    go_enter Try.func5, Try.ntmps5
    go_wp2_with fail
    refine SZ.out.mono ?_
    rintro en w0 ⟨rfl, rfl⟩
    have BR := Lib.hid (Below.refl w.heap.size w)
    go_wp2_with fail
    refine (toSteps_any _ _ _ _ xs HR.out hl).mono ?_
    rintro en w1 ⟨v1, rfl, o1, k1⟩
    have B1 := Lib.hid k1
    clear k1
    go_wp2_with fail
    refine (SP.out _ _ o1).mono ?_
    rintro en w2 ⟨rfl, k2⟩
    have B2 := Lib.hid (B1.out.trans (k2.mono B1.out.size))
    clear B1 o1 k2
    go_wp2_with fail
    refine (toSteps_any _ _ _ _ xs (ivRow_below HR.out B2.out) hl).mono ?_
    rintro en w3 ⟨v3, rfl, o3, k3⟩
    have o3' := st_base o3 B2.out.size
    have B3 := Lib.hid (B2.out.trans (k3.mono B2.out.size))
    have O3 := Lib.hid o3'
    clear B2 o3 o3' k3
    go_wp2_with fail
    refine (SI.out _ _ O3.out).mono ?_
    rintro en w4 ⟨rfl, k4⟩
    have B4 := Lib.hid (B3.out.trans (k4.mono B3.out.size))
    have O4 := Lib.hid (own4_below O3.out k4)
    clear B3 O3 k4
    go_wp2_with fail
    refine (toSteps_any _ _ _ _ xs (ivRow_below HR.out B4.out) hl).mono ?_
    rintro en w5 ⟨v5, rfl, o5, k5⟩
    have B5 := Lib.hid (B4.out.trans (k5.mono B4.out.size))
    have O5 := Lib.hid (own4_below O4.out k5)
    have O6 := Lib.hid o5
    clear B4 O4 k5 o5
    go_wp2_with fail
    refine (eqSteps_same _ _ _ _ _ _ _ xs hx2 O5.out O6.out).mono ?_
    rintro en w6 ⟨rfl, k6⟩
    have B6 := Lib.hid (B5.out.trans (k6.mono B5.out.size))
    clear B5 O5 O6 k6
    go_wp2_with fail
    go_ret
    exact ⟨rfl, B6.out⟩
set_option maxRecDepth 100000 in
set_option maxHeartbeats 8000000 in
theorem walk_MistuneBy (II : MisImpl) (a : Option Addr) (len cap : Nat) (xs : List Iv) (a1 : Int) (a2 : Int) (w : World) (hr : IvRow w a len xs) (h1 : (Lit.int .i64 a1).wf = true) (h2 : (Lit.int .i64 a2).wf = true) :
    Calls Try.prog 6 #[.slice a len cap, .int .i64 a1, .int .i64 a2] w fun e w' => e = .returned (.bool true) ∧ Below w.heap.size w w' := by
  clear h1 h2
  have hlen := hr.2.1
  have HR := Lib.hid hr
  have HN := Lib.hid hr.1
  clear hr
  by_cases hbig : 1048576 < len
  · have SZ := Lib.hid (szSt_any a len cap w hlen)
    rw [if_pos hbig] at SZ
    clear hbig hlen
    go_enter Try.func6, Try.ntmps6
    go_wp2_with fail
    refine SZ.out.mono ?_
    rintro en w1 ⟨rfl, rfl⟩
    go_wp2_with fail
    go_ret
    exact ⟨rfl, Below.refl _ _⟩
  · have SZ := Lib.hid (szSt_any a len cap w hlen)
    rw [if_neg hbig] at SZ
    have t0 : ¬ (1048576 : Int) - (len : Int) < 0 := by omega
    have hl : len ≤ 1048576 := by omega
    have hx2 : xs.length ≤ 2000000 := by have := HN.out; omega
    have SP := Lib.hid (fun (W : World) (v : Value) (h : W.ownsRow w.heap.size 32 4 v xs.length (ivCs xs)) => mistune_spec a1 a2 W w.heap.size _ v xs hx2 h)
    have SI := Lib.hid (fun (W : World) (v : Value) (h : W.ownsRow w.heap.size 32 4 v xs.length (ivCs xs)) => II a1 a2 W w.heap.size v xs hx2 h)
    obtain ⟨ys, hys⟩ : ∃ ys, misL xs a1 a2 = ys := ⟨_, rfl⟩
    have LY : ys.length ≤ 1048576 := by rw [← hys]; first | exact Nat.le_trans (misL_len _) (by omega) | exact Nat.le_trans (misL_len _ _) (by omega) | exact Nat.le_trans (misL_len _ _ _) (by omega) | exact Nat.le_trans (misL_len _ _ _ _) (by omega) | (have := HN.out; have := misL_len xs; omega) | (have := HN.out; rw [misL_len]; omega)
    rw [hys] at SP SI
    clear hys
    obtain ⟨z, hz⟩ : ∃ z, misB xs a1 a2 = z := ⟨_, rfl⟩
    rw [hz] at SP SI
    clear hz
    clear hbig hlen
    go_enter Try.func6, Try.ntmps6
    go_wp2_with fail
    refine SZ.out.mono ?_
    rintro en w0 ⟨rfl, rfl⟩
    have BR := Lib.hid (Below.refl w.heap.size w)
    go_wp2_with fail
    refine (toSteps_any _ _ _ _ xs HR.out hl).mono ?_
    rintro en w1 ⟨v1, rfl, o1, k1⟩
    have B1 := Lib.hid k1
    clear k1
    go_wp2_with fail
    refine (SP.out _ _ o1).mono ?_
    rintro en w2 ⟨v2, rfl, o2, k2⟩
    have P2 := Lib.hid (show w2.ownsRow w.heap.size 32 4 v2 ys.length (ivCs ys) from own_up o2 B1.out.size)
    have L2 := Lib.hid (fun g hg => (o2.lt g hg).2)
    have B2 := Lib.hid (B1.out.trans (k2.mono B1.out.size))
    have N2 := B2.out.size
    clear B1 o1 o2 k2
    go_wp2_with fail
    refine (toSteps_any _ _ _ _ xs (ivRow_below HR.out B2.out) hl).mono ?_
    rintro en w3 ⟨v3, rfl, o3, k3⟩
    have L3 := Lib.hid (fun g hg => o3.lt g hg)
    have O3 := Lib.hid (own_up o3 B2.out.size)
    have P3 := Lib.hid (own4_below P2.out k3)
    have B3 := Lib.hid (B2.out.trans (k3.mono B2.out.size))
    have N3 := k3.size
    clear B2 o3 k3 P2
    go_wp2_with fail
    refine (SI.out _ _ O3.out).mono ?_
    rintro en w4 ⟨v4, rfl, o4, k4⟩
    have L4 := Lib.hid (fun g hg => (o4.lt g hg).1)
    have Q4 := Lib.hid (show w4.ownsRow w.heap.size 32 4 v4 ys.length (ivCs ys) from own_up o4 B3.out.size)
    have O4 := Lib.hid (own4_below O3.out k4)
    have P4 := Lib.hid (own4_below P3.out k4)
    have B4 := Lib.hid (B3.out.trans (k4.mono B3.out.size))
    clear B3 O3 k4 o4 P3
    go_wp2_with fail
    refine (eqSteps_same w4 _ _ _ _ v4 v2 ys (by omega) Q4.out P4.out).mono ?_
    rintro en w5 ⟨rfl, k5⟩
    have Q5 := Lib.hid (own4_below Q4.out k5)
    have O5 := Lib.hid (own4_below O4.out k5)
    have P5 := Lib.hid (own4_below P4.out k5)
    have B5 := Lib.hid (B4.out.trans (k5.mono B4.out.size))
    clear B4 O4 Q4 k5 P4
    go_wp2_with fail
    refine (toSteps_any _ _ _ _ xs (ivRow_below HR.out B5.out) hl).mono ?_
    rintro en w6 ⟨v6, rfl, o6, k6⟩
    have O6 := Lib.hid o6
    have Q6 := Lib.hid (own4_below Q5.out k6)
    have O7 := Lib.hid (own4_below O5.out k6)
    have P6 := Lib.hid (own4_below P5.out k6)
    have B6 := Lib.hid (B5.out.trans (k6.mono B5.out.size))
    clear B5 O5 Q5 k6 P5 o6
    go_wp2_with fail
    refine (eqSteps_same _ _ _ _ _ _ _ xs hx2 O7.out O6.out).mono ?_
    rintro en w7 ⟨rfl, k7⟩
    have Q7 := Lib.hid (own4_below Q6.out k7)
    have O8 := Lib.hid (own4_below O7.out k7)
    have P7 := Lib.hid (own4_below P6.out k7)
    have B7 := Lib.hid (B6.out.trans (k7.mono B6.out.size))
    clear B6 O6 O7 Q6 k7 P6
    obtain ⟨lx, hlx⟩ : ∃ l, l = xs.length := ⟨_, rfl⟩
    have MK := Lib.hid (markSt _ _ _ _ xs hx2 O8.out)
    have t2 : ¬ ((1 : Int) + 4 * lx) < 0 := by omega
    rw [← hlx] at MK
    clear hlx
    go_wp2_with fail
    refine MK.out.mono ?_
    rintro en w8 ⟨rfl, g8⟩
    have P8 := Lib.hid (own_gr P7.out g8 (fun g hg e => by have := L2.out g hg; have := (L3.out g e).1; omega))
    have Q8 := Lib.hid (own_gr Q7.out g8 (fun g hg e => by have := L4.out g hg; have := (L3.out g e).2; omega))
    have B8 := Lib.hid (B7.out.grown g8 B7.out.size (fun k hk => by have := (L3.out k hk).1; omega))
    clear O8 P7 Q7 B7 g8 MK
    go_wp2_with fail
    refine (eqSteps_same w8 _ _ _ _ v4 v2 ys (by omega) Q8.out P8.out).mono ?_
    rintro en w9 ⟨rfl, k9⟩
    have Q9 := Lib.hid (own4_below Q8.out k9)
    have P9 := Lib.hid (own4_below P8.out k9)
    have B9 := Lib.hid (B8.out.trans (k9.mono B8.out.size))
    clear B8 P8 Q8 k9
    obtain ⟨ly, hly⟩ : ∃ l, l = ys.length := ⟨_, rfl⟩
    have t3 : ¬ ((1 : Int) + 4 * ly) < 0 := by omega
    have MK := Lib.hid (markSt_full w9 _ v4 ys (by omega) Q9.out)
    rw [← hly] at MK
    have HLY := Lib.hid hly
    clear hly
    go_wp2_with fail
    refine MK.out.mono ?_
    rintro en w10 ⟨rfl, o10, g10⟩
    have P10 := Lib.hid (own_gr P9.out g10 (fun g hg e => by have := L2.out g hg; have := L4.out g e; omega))
    have Q10 := Lib.hid o10
    have B10 := Lib.hid (B9.out.grown g10 B9.out.size (fun k hk => by have := L4.out k hk; omega))
    clear o10
    clear B9 P9 Q9 g10 MK
    go_wp2_with fail
    refine (heldSt_own w10 _ _ v4 ly (by have := HLY.out; omega) Q10.out).mono ?_
    rintro en w11 ⟨rfl, rfl⟩
    have Q11 := Q10
    have P11 := P10
    have B11 := B10
    go_wp2_with fail
    refine (toSteps_any _ _ _ _ xs (ivRow_below HR.out B11.out) hl).mono ?_
    rintro en w12 ⟨v12, rfl, o12, k12⟩
    have o12' := st_base o12 B11.out.size
    have Q12 := Lib.hid (own4_below Q11.out k12)
    have P12 := Lib.hid (own4_below P11.out k12)
    have B12 := Lib.hid (B11.out.trans (k12.mono B11.out.size))
    clear B11 P11 Q11 k12 o12
    go_wp2_with fail
    refine (SI.out _ _ o12').mono ?_
    rintro en w13 ⟨v13, rfl, o13, k13⟩
    have R13 := Lib.hid o13
    have Q13 := Lib.hid (own4_below Q12.out k13)
    have P13 := Lib.hid (own4_below P12.out k13)
    have B13 := Lib.hid (B12.out.trans (k13.mono B12.out.size))
    clear B12 P12 Q12 k13 o13 o12'
    go_wp2_with fail
    refine (eqSteps_same w13 _ _ _ _ v13 v2 ys (by omega) R13.out P13.out).mono ?_
    rintro en w14 ⟨rfl, k14⟩
    have Q14 := Lib.hid (own4_below Q13.out k14)
    have B14 := Lib.hid (B13.out.trans (k14.mono B13.out.size))
    clear B13 P13 Q13 R13 k14
    go_wp2_with fail
    refine (heldSt_own w14 _ _ v4 ly (by have := HLY.out; omega) Q14.out).mono ?_
    rintro en w15 ⟨rfl, rfl⟩
    have B15 := B14
    go_wp2_with fail
    go_ret
    exact ⟨rfl, B15.out⟩
set_option maxRecDepth 100000 in
set_option maxHeartbeats 8000000 in
theorem walk_AffectedKeysBy (II : AffImpl) (a : Option Addr) (len cap : Nat) (xs : List Iv) (a1 : Int) (w : World) (hr : IvRow w a len xs) (h1 : (Lit.int .i64 a1).wf = true) :
    Calls Try.prog 7 #[.slice a len cap, .int .i64 a1] w fun e w' => e = .returned (.bool true) ∧ Below w.heap.size w w' := by
  clear h1
  have hlen := hr.2.1
  have HR := Lib.hid hr
  have HN := Lib.hid hr.1
  clear hr
  by_cases hbig : 1048576 < len
  · have SZ := Lib.hid (szSt_any a len cap w hlen)
    rw [if_pos hbig] at SZ
    clear hbig hlen
    go_enter Try.func7, Try.ntmps7
    go_wp2_with fail
    refine SZ.out.mono ?_
    rintro en w1 ⟨rfl, rfl⟩
    go_wp2_with fail
    go_ret
    exact ⟨rfl, Below.refl _ _⟩
  · have SZ := Lib.hid (szSt_any a len cap w hlen)
    rw [if_neg hbig] at SZ
    have t0 : ¬ (1048576 : Int) - (len : Int) < 0 := by omega
    have hl : len ≤ 1048576 := by omega
    have hx2 : xs.length ≤ 2000000 := by have := HN.out; omega
    have SP := Lib.hid (fun (W : World) (v : Value) (h : W.ownsRow w.heap.size 32 4 v xs.length (ivCs xs)) => affected_spec a1 W w.heap.size _ v xs hx2 h)
    have SI := Lib.hid (fun (W : World) (v : Value) (h : W.ownsRow w.heap.size 32 4 v xs.length (ivCs xs)) => II a1 W w.heap.size v xs hx2 h)
    obtain ⟨ys, hys⟩ : ∃ ys, affL xs a1 = ys := ⟨_, rfl⟩
    have LY : ys.length ≤ 1048576 := by rw [← hys]; first | exact Nat.le_trans (affL_len _) (by omega) | exact Nat.le_trans (affL_len _ _) (by omega) | exact Nat.le_trans (affL_len _ _ _) (by omega) | exact Nat.le_trans (affL_len _ _ _ _) (by omega) | (have := HN.out; have := affL_len xs; omega) | (have := HN.out; rw [affL_len]; omega)
    rw [hys] at SP SI
    clear hys
    clear hbig hlen
    go_enter Try.func7, Try.ntmps7
    go_wp2_with fail
    refine SZ.out.mono ?_
    rintro en w0 ⟨rfl, rfl⟩
    have BR := Lib.hid (Below.refl w.heap.size w)
    go_wp2_with fail
    refine (toSteps_any _ _ _ _ xs HR.out hl).mono ?_
    rintro en w1 ⟨v1, rfl, o1, k1⟩
    have B1 := Lib.hid k1
    clear k1
    go_wp2_with fail
    refine (SP.out _ _ o1).mono ?_
    rintro en w2 ⟨v2, rfl, o2, k2⟩
    have P2 := Lib.hid (show w2.ownsRow w.heap.size 3 1 v2 ys.length (intCs ys) from own_up o2 B1.out.size)
    have L2 := Lib.hid (fun g hg => (o2.lt g hg).2)
    have B2 := Lib.hid (B1.out.trans (k2.mono B1.out.size))
    have N2 := B2.out.size
    clear B1 o1 o2 k2
    go_wp2_with fail
    refine (toSteps_any _ _ _ _ xs (ivRow_below HR.out B2.out) hl).mono ?_
    rintro en w3 ⟨v3, rfl, o3, k3⟩
    have L3 := Lib.hid (fun g hg => o3.lt g hg)
    have O3 := Lib.hid (own_up o3 B2.out.size)
    have P3 := Lib.hid (own_below P2.out k3)
    have B3 := Lib.hid (B2.out.trans (k3.mono B2.out.size))
    have N3 := k3.size
    clear B2 o3 k3 P2
    go_wp2_with fail
    refine (SI.out _ _ O3.out).mono ?_
    rintro en w4 ⟨v4, rfl, o4, k4⟩
    have L4 := Lib.hid (fun g hg => (o4.lt g hg).1)
    have Q4 := Lib.hid (show w4.ownsRow w.heap.size 3 1 v4 ys.length (intCs ys) from own_up o4 B3.out.size)
    have O4 := Lib.hid (own4_below O3.out k4)
    have P4 := Lib.hid (own_below P3.out k4)
    have B4 := Lib.hid (B3.out.trans (k4.mono B3.out.size))
    clear B3 O3 k4 o4 P3
    go_wp2_with fail
    refine (eqIL w4 _ _ v4 v2 ys (by omega) Q4.out P4.out).mono ?_
    rintro en w5 ⟨rfl, k5⟩
    have Q5 := Lib.hid (own_below Q4.out k5)
    have O5 := Lib.hid (own4_below O4.out k5)
    have P5 := Lib.hid (own_below P4.out k5)
    have B5 := Lib.hid (B4.out.trans (k5.mono B4.out.size))
    clear B4 O4 Q4 k5 P4
    go_wp2_with fail
    refine (toSteps_any _ _ _ _ xs (ivRow_below HR.out B5.out) hl).mono ?_
    rintro en w6 ⟨v6, rfl, o6, k6⟩
    have O6 := Lib.hid o6
    have Q6 := Lib.hid (own_below Q5.out k6)
    have O7 := Lib.hid (own4_below O5.out k6)
    have P6 := Lib.hid (own_below P5.out k6)
    have B6 := Lib.hid (B5.out.trans (k6.mono B5.out.size))
    clear B5 O5 Q5 k6 P5 o6
    go_wp2_with fail
    refine (eqSteps_same _ _ _ _ _ _ _ xs hx2 O7.out O6.out).mono ?_
    rintro en w7 ⟨rfl, k7⟩
    have Q7 := Lib.hid (own_below Q6.out k7)
    have O8 := Lib.hid (own4_below O7.out k7)
    have P7 := Lib.hid (own_below P6.out k7)
    have B7 := Lib.hid (B6.out.trans (k7.mono B6.out.size))
    clear B6 O6 O7 Q6 k7 P6
    obtain ⟨lx, hlx⟩ : ∃ l, l = xs.length := ⟨_, rfl⟩
    have MK := Lib.hid (markSt _ _ _ _ xs hx2 O8.out)
    have t2 : ¬ ((1 : Int) + 4 * lx) < 0 := by omega
    rw [← hlx] at MK
    clear hlx
    go_wp2_with fail
    refine MK.out.mono ?_
    rintro en w8 ⟨rfl, g8⟩
    have P8 := Lib.hid (own_gr P7.out g8 (fun g hg e => by have := L2.out g hg; have := (L3.out g e).1; omega))
    have Q8 := Lib.hid (own_gr Q7.out g8 (fun g hg e => by have := L4.out g hg; have := (L3.out g e).2; omega))
    have B8 := Lib.hid (B7.out.grown g8 B7.out.size (fun k hk => by have := (L3.out k hk).1; omega))
    clear O8 P7 Q7 B7 g8 MK
    go_wp2_with fail
    refine (eqIL w8 _ _ v4 v2 ys (by omega) Q8.out P8.out).mono ?_
    rintro en w9 ⟨rfl, k9⟩
    have Q9 := Lib.hid (own_below Q8.out k9)
    have P9 := Lib.hid (own_below P8.out k9)
    have B9 := Lib.hid (B8.out.trans (k9.mono B8.out.size))
    clear B8 P8 Q8 k9
    obtain ⟨ly, hly⟩ : ∃ l, l = ys.length := ⟨_, rfl⟩
    have t3 : ¬ ((1 : Int) +  ly) < 0 := by omega
    have MK := Lib.hid (markInts_own w9 _ 1 _ v4 ys.length ys (by omega) (by omega) Q9.out)
    rw [← hly] at MK
    have HLY := Lib.hid hly
    clear hly
    go_wp2_with fail
    refine MK.out.mono ?_
    rintro en w10 ⟨rfl, o10, g10⟩
    have P10 := Lib.hid (own_gr P9.out g10 (fun g hg e => by have := L2.out g hg; have := L4.out g e; omega))
    have Q10 := Lib.hid o10
    have B10 := Lib.hid (B9.out.grown g10 B9.out.size (fun k hk => by have := L4.out k hk; omega))
    clear o10
    clear B9 P9 Q9 g10 MK
    go_wp2_with fail
    refine (heldInts_any w10 _ 1 _ v4 ly (by have := HLY.out; omega) (by omega) Q10.out).mono ?_
    rintro en w11 ⟨rfl, k11⟩
    have Q11 := Lib.hid (own_below Q10.out k11)
    have P11 := Lib.hid (own_below P10.out k11)
    have B11 := Lib.hid (B10.out.trans (k11.mono B10.out.size))
    clear B10 P10 Q10 k11
    go_wp2_with fail
    refine (toSteps_any _ _ _ _ xs (ivRow_below HR.out B11.out) hl).mono ?_
    rintro en w12 ⟨v12, rfl, o12, k12⟩
    have o12' := st_base o12 B11.out.size
    have Q12 := Lib.hid (own_below Q11.out k12)
    have P12 := Lib.hid (own_below P11.out k12)
    have B12 := Lib.hid (B11.out.trans (k12.mono B11.out.size))
    clear B11 P11 Q11 k12 o12
    go_wp2_with fail
    refine (SI.out _ _ o12').mono ?_
    rintro en w13 ⟨v13, rfl, o13, k13⟩
    have R13 := Lib.hid o13
    have Q13 := Lib.hid (own_below Q12.out k13)
    have P13 := Lib.hid (own_below P12.out k13)
    have B13 := Lib.hid (B12.out.trans (k13.mono B12.out.size))
    clear B12 P12 Q12 k13 o13 o12'
    go_wp2_with fail
    refine (eqIL w13 _ _ v13 v2 ys (by omega) R13.out P13.out).mono ?_
    rintro en w14 ⟨rfl, k14⟩
    have Q14 := Lib.hid (own_below Q13.out k14)
    have B14 := Lib.hid (B13.out.trans (k14.mono B13.out.size))
    clear B13 P13 Q13 R13 k14
    go_wp2_with fail
    refine (heldInts_any w14 _ 1 _ v4 ly (by have := HLY.out; omega) (by omega) Q14.out).mono ?_
    rintro en w15 ⟨rfl, k15⟩
    have B15 := Lib.hid (B14.out.trans (k15.mono B14.out.size))
    clear B14 Q14 k15
    go_wp2_with fail
    go_ret
    exact ⟨rfl, B15.out⟩
set_option maxRecDepth 100000 in
set_option maxHeartbeats 8000000 in
theorem walk_ErrorBoundBy (II : ErrImpl) (a : Option Addr) (len cap : Nat) (xs : List Iv) (a1 : Int) (a2 : Int) (w : World) (hr : IvRow w a len xs) (h1 : (Lit.int .i64 a1).wf = true) (h2 : (Lit.int .i64 a2).wf = true) :
    Calls Try.prog 8 #[.slice a len cap, .int .i64 a1, .int .i64 a2] w fun e w' => e = .returned (.bool true) ∧ Below w.heap.size w w' := by
  have WF1 := Lib.hid h1
  clear h1 h2
  have hlen := hr.2.1
  have HR := Lib.hid hr
  have HN := Lib.hid hr.1
  clear hr
  by_cases hbig : 1048576 < len
  · have SZ := Lib.hid (szSt_any a len cap w hlen)
    rw [if_pos hbig] at SZ
    clear hbig hlen
    go_enter Try.func8, Try.ntmps8
    go_wp2_with fail
    refine SZ.out.mono ?_
    rintro en w1 ⟨rfl, rfl⟩
    go_wp2_with fail
    go_ret
    exact ⟨rfl, Below.refl _ _⟩
  · have SZ := Lib.hid (szSt_any a len cap w hlen)
    rw [if_neg hbig] at SZ
    have t0 : ¬ (1048576 : Int) - (len : Int) < 0 := by omega
    have hl : len ≤ 1048576 := by omega
    have hx2 : xs.length ≤ 2000000 := by have := HN.out; omega
    have SP := Lib.hid (fun (W : World) (v : Value) (h : W.ownsRow w.heap.size 32 4 v xs.length (ivCs xs)) => err_spec a1 a2 W w.heap.size _ v xs hx2 h)
    have SI := Lib.hid (fun (W : World) (v : Value) (h : W.ownsRow w.heap.size 32 4 v xs.length (ivCs xs)) => II a1 a2 WF1.out W w.heap.size v xs hx2 h)
    obtain ⟨C, hC⟩ : ∃ C, errV xs a1 a2 = C := ⟨_, rfl⟩
    rw [hC] at SP SI
    have tc : (C != C) = false := by simp
    clear hC
    clear hbig hlen
    go_enter Try.func8, Try.ntmps8
    go_wp2_with fail
    refine SZ.out.mono ?_
    rintro en w0 ⟨rfl, rfl⟩
    have BR := Lib.hid (Below.refl w.heap.size w)
    go_wp2_with fail
    refine (toSteps_any _ _ _ _ xs HR.out hl).mono ?_
    rintro en w1 ⟨v1, rfl, o1, k1⟩
    have B1 := Lib.hid k1
    clear k1
    go_wp2_with fail
    refine (SP.out _ _ o1).mono ?_
    rintro en w2 ⟨rfl, k2⟩
    have B2 := Lib.hid (B1.out.trans (k2.mono B1.out.size))
    clear B1 o1 k2
    go_wp2_with fail
    refine (toSteps_any _ _ _ _ xs (ivRow_below HR.out B2.out) hl).mono ?_
    rintro en w3 ⟨v3, rfl, o3, k3⟩
    have o3' := st_base o3 B2.out.size
    have B3 := Lib.hid (B2.out.trans (k3.mono B2.out.size))
    have O3 := Lib.hid o3'
    clear B2 o3 o3' k3
    go_wp2_with fail
    refine (SI.out _ _ O3.out).mono ?_
    rintro en w4 ⟨rfl, k4⟩
    have B4 := Lib.hid (B3.out.trans (k4.mono B3.out.size))
    have O4 := Lib.hid (own4_below O3.out k4)
    clear B3 O3 k4
    go_wp2_with fail
    refine (toSteps_any _ _ _ _ xs (ivRow_below HR.out B4.out) hl).mono ?_
    rintro en w5 ⟨v5, rfl, o5, k5⟩
    have B5 := Lib.hid (B4.out.trans (k5.mono B4.out.size))
    have O5 := Lib.hid (own4_below O4.out k5)
    have O6 := Lib.hid o5
    clear B4 O4 k5 o5
    go_wp2_with fail
    refine (eqSteps_same _ _ _ _ _ _ _ xs hx2 O5.out O6.out).mono ?_
    rintro en w6 ⟨rfl, k6⟩
    have B6 := Lib.hid (B5.out.trans (k6.mono B5.out.size))
    clear B5 O5 O6 k6
    go_wp2_with fail
    go_ret
    exact ⟨rfl, B6.out⟩
set_option maxRecDepth 100000 in
set_option maxHeartbeats 8000000 in
theorem walk_DeepestKeyBy (II : DeepImpl) (a : Option Addr) (len cap : Nat) (xs : List Iv) (w : World) (hr : IvRow w a len xs) :
    Calls Try.prog 9 #[.slice a len cap] w fun e w' => e = .returned (.bool true) ∧ Below w.heap.size w w' := by
  have hlen := hr.2.1
  have HR := Lib.hid hr
  have HN := Lib.hid hr.1
  clear hr
  by_cases hbig : 1048576 < len
  · have SZ := Lib.hid (szSt_any a len cap w hlen)
    rw [if_pos hbig] at SZ
    clear hbig hlen
    go_enter Try.func9, Try.ntmps9
    go_wp2_with fail
    refine SZ.out.mono ?_
    rintro en w1 ⟨rfl, rfl⟩
    go_wp2_with fail
    go_ret
    exact ⟨rfl, Below.refl _ _⟩
  · have SZ := Lib.hid (szSt_any a len cap w hlen)
    rw [if_neg hbig] at SZ
    have t0 : ¬ (1048576 : Int) - (len : Int) < 0 := by omega
    have hl : len ≤ 1048576 := by omega
    have hx2 : xs.length ≤ 2000000 := by have := HN.out; omega
    have SP := Lib.hid (fun (W : World) (v : Value) (h : W.ownsRow w.heap.size 32 4 v xs.length (ivCs xs)) => deepest_spec  W w.heap.size _ v xs hx2 h)
    have SI := Lib.hid (fun (W : World) (v : Value) (h : W.ownsRow w.heap.size 32 4 v xs.length (ivCs xs)) => II  W w.heap.size v xs hx2 h)
    obtain ⟨C, hC⟩ : ∃ C, deepV xs = C := ⟨_, rfl⟩
    rw [hC] at SP SI
    have tc : (C != C) = false := by simp
    clear hC
    clear hbig hlen
    go_enter Try.func9, Try.ntmps9
    go_wp2_with fail
    refine SZ.out.mono ?_
    rintro en w0 ⟨rfl, rfl⟩
    have BR := Lib.hid (Below.refl w.heap.size w)
    go_wp2_with fail
    refine (toSteps_any _ _ _ _ xs HR.out hl).mono ?_
    rintro en w1 ⟨v1, rfl, o1, k1⟩
    have B1 := Lib.hid k1
    clear k1
    go_wp2_with fail
    refine (SP.out _ _ o1).mono ?_
    rintro en w2 ⟨rfl, k2⟩
    have B2 := Lib.hid (B1.out.trans (k2.mono B1.out.size))
    clear B1 o1 k2
    go_wp2_with fail
    refine (toSteps_any _ _ _ _ xs (ivRow_below HR.out B2.out) hl).mono ?_
    rintro en w3 ⟨v3, rfl, o3, k3⟩
    have o3' := st_base o3 B2.out.size
    have B3 := Lib.hid (B2.out.trans (k3.mono B2.out.size))
    have O3 := Lib.hid o3'
    clear B2 o3 o3' k3
    go_wp2_with fail
    refine (SI.out _ _ O3.out).mono ?_
    rintro en w4 ⟨rfl, k4⟩
    have B4 := Lib.hid (B3.out.trans (k4.mono B3.out.size))
    have O4 := Lib.hid (own4_below O3.out k4)
    clear B3 O3 k4
    go_wp2_with fail
    refine (toSteps_any _ _ _ _ xs (ivRow_below HR.out B4.out) hl).mono ?_
    rintro en w5 ⟨v5, rfl, o5, k5⟩
    have B5 := Lib.hid (B4.out.trans (k5.mono B4.out.size))
    have O5 := Lib.hid (own4_below O4.out k5)
    have O6 := Lib.hid o5
    clear B4 O4 k5 o5
    go_wp2_with fail
    refine (eqSteps_same _ _ _ _ _ _ _ xs hx2 O5.out O6.out).mono ?_
    rintro en w6 ⟨rfl, k6⟩
    have B6 := Lib.hid (B5.out.trans (k6.mono B5.out.size))
    clear B5 O5 O6 k6
    go_wp2_with fail
    go_ret
    exact ⟨rfl, B6.out⟩
end Go.Proofs.Ytbklnlmijkclmaa
