/- The walk of laws.FnExactReverseScale. -/
import Derived.Test.YtneblpplkidkfaaSRev
import Derived.Test.YtneblpplkidkfaaModeImpl
import Derived.Test.YtneblpplkidkfaaScRows
import Derived.Test.YtneblpplkidkfaaEqCirLaw
import Derived.Deep.RegionWith
namespace Go.Proofs.Ytneblpplkidkfaa
open Go.RowKit Go.Joins
set_option linter.unusedVariables false
set_option maxRecDepth 100000 in
set_option maxHeartbeats 8000000 in
theorem walk_ReverseScaleBy (II : RevImpl) (a : Option Addr) (len cap : Nat) (zs : List Int) (w : World) (hr : IsRow .i64 w a len cap zs) :
    Calls Try.prog 7 #[cirV (.slice a len cap)] w fun e w' => e = .returned (.bool true) ∧ Below w.heap.size w w' := by
  have HL := Lib.hid (row_len hr)
  have HR := Lib.hid hr
  have hl' := HL.out.2
  obtain ⟨n, hn⟩ : ∃ n, n = w.heap.size := ⟨_, rfl⟩
  have HN := Lib.hid hn
  have C0 : Hid (One n (.slice a len cap) (w.alloc (.cells #[.slice a len cap] 35))) := Lib.hid (by rw [hn]; exact one_alloc)
  have B0 := Lib.hid (below_alloc1 w (.cells #[.slice a len cap] 35))
  clear hr
  go_enter Try.func7, Try.ntmps7
  go_upto_region 1 with fail
  obtain ⟨W0, hW⟩ : ∃ W, W = w.alloc (.cells #[.slice a len cap] 35) := ⟨_, rfl⟩
  rw [← hW] at C0 B0 ⊢
  rw [← hn]
  clear hW hn
  obtain ⟨_, c0, _⟩ := C0.out
  by_cases h1 : 1048576 < len
  · go_wp2_with fail
    refine (szSc_high a len cap _ h1 hl').mono ?_
    rintro e w1 ⟨rfl, b1⟩
    go_wp2_with fail
    go_ret
    exact ⟨rfl, B0.out.trans (b1.mono B0.out.size)⟩
  · obtain ⟨xs, hxs⟩ : ∃ xs, xs = zs.take len := ⟨_, rfl⟩
    have HX := Lib.hid hxs
    have HLEN := Lib.hid (show xs.length ≤ 2000000 from by have := HL.out.1; rw [hxs]; omega)
    have hl1 : len ≤ 1048576 := by omega
    have hl2 : ¬ (1048576 : Int) - len < 0 := by omega
    obtain ⟨ys, hat⟩ := revAt_ex xs
    have HA := Lib.hid hat
    have hy12 := revAt_len hat
    obtain ⟨ly, hly⟩ : ∃ l, l = ys.length := ⟨_, rfl⟩
    obtain ⟨lx, hlx⟩ : ∃ l, l = xs.length := ⟨_, rfl⟩
    rw [← hly] at hy12
    have HLY := Lib.hid hly.symm
    have HLX := Lib.hid hlx.symm
    have hx2 : lx ≤ 2000000 := by have := HLEN.out; omega
    have HYL := Lib.hid (show ys.length ≤ 2000000 from by omega)
    clear hxs h1 hat hly hlx
    go_wp2_with fail
    refine (szSc_low a len cap _ hl1).mono ?_
    rintro e w1 ⟨rfl, b1⟩
    have C1 := Lib.hid (one_keep b1 C0.out)
    have B1 := Lib.hid (B0.out.trans (b1.mono B0.out.size))
    clear c0 C0 B0 b1
    obtain ⟨_, c0, _⟩ := C1.out
    go_wp2_with fail
    refine (calls_toSc (Below.refl _ _) (HR.out.below B1.out) hl1 HX).mono ?_
    rintro e w2 ⟨v2, rfl, o2, b2⟩
    have C2 := Lib.hid (one_keep b2 C1.out)
    have B2 := Lib.hid (B1.out.trans (b2.mono B1.out.size))
    clear c0 C1 B1 b2
    go_wp2_with fail
    refine (calls_cir (Below.refl _ _) (rev_spec HA.out _ _ _ v2 HLEN.out o2)).mono ?_
    rintro e w3 ⟨v3, rfl, o3, b3⟩
    obtain ⟨p3, k3, rfl, x3, o3, l3⟩ := sc_laid (n := ly) b3.size HLY.out o3
    have X3 := Lib.hid x3
    have O3 := Lib.hid o3
    have L3 := Lib.hid l3
    have C3 := Lib.hid (one_al (o := .cells #[.slice p3 ly k3] 26) (one_keep b3 C2.out))
    have B3 := Lib.hid ((B2.out.trans (b3.mono B2.out.size)).alloc (Nat.le_trans B2.out.size b3.size) (.cells #[.slice p3 ly k3] 26))
    have N2 : w.heap.size ≤ w2.heap.size := B2.out.size
    clear x3 o3 l3 b3 o2 C2 B2
    go_upto_region 6 with fail
    obtain ⟨W3, hW⟩ : ∃ W, W = w3.alloc (.cells #[.slice p3 ly k3] 26) := ⟨_, rfl⟩
    obtain ⟨m3, hm⟩ : ∃ m, m = w3.heap.size := ⟨_, rfl⟩
    have M3 : m3 < W3.heap.size := by rw [hW, hm]; simp
    rw [← hW] at X3 O3 C3 B3 ⊢
    rw [← hm] at X3 L3 ⊢
    clear hW hm
    obtain ⟨_, c0, _⟩ := C3.out
    go_wp2_with fail
    refine (calls_toSc (Below.refl _ _) (HR.out.below B3.out) hl1 HX).mono ?_
    rintro e w4 ⟨v4, rfl, o4, b4⟩
    obtain ⟨p4, k4, rfl, x4, o4, l4⟩ := sc_laid (n := lx) b4.size HLX.out o4
    have X4 := Lib.hid x4
    have O4 := Lib.hid o4
    have L4 := Lib.hid l4
    have A4 := below_alloc1 w4 (.cells #[.slice p4 lx k4] 26)
    have C4 := Lib.hid (one_keep A4 (one_keep b4 C3.out))
    have Y4 := Lib.hid (one_keep A4 (one_keep b4 X3.out))
    have P4 := Lib.hid (own_below (own_below O3.out b4) A4)
    have B4 := Lib.hid ((B3.out.trans (b4.mono B3.out.size)).trans (A4.mono (Nat.le_trans B3.out.size b4.size)))
    have N3 : w.heap.size ≤ W3.heap.size := B3.out.size
    have N4 : W3.heap.size ≤ w4.heap.size := b4.size
    clear x4 o4 l4 b4 c0 A4 C3 X3 O3 B3
    go_upto_region 7 with fail
    obtain ⟨W4, hW⟩ : ∃ W, W = w4.alloc (.cells #[.slice p4 lx k4] 26) := ⟨_, rfl⟩
    obtain ⟨m4, hm⟩ : ∃ m, m = w4.heap.size := ⟨_, rfl⟩
    have M4 : m4 < W4.heap.size := by rw [hW, hm]; simp
    rw [← hW] at X4 O4 C4 Y4 P4 B4 ⊢
    rw [← hm] at X4 L4 N4 ⊢
    clear hW hm
    obtain ⟨_, c4, _⟩ := X4.out
    go_wp2_with fail
    refine (calls_cir (Below.refl _ _) ((II _ _) HA.out _ _ _ _ HLEN.out (own_eq O4.out (rfl : xs = xs) HLX.out.symm))).mono ?_
    rintro e w5 ⟨v5, rfl, o5, b5⟩
    obtain ⟨p5, k5, rfl, x5, o5, l5⟩ := sc_laid (n := ly) b5.size HLY.out o5
    have X5 := Lib.hid x5
    have O5 := Lib.hid o5
    have L5 := Lib.hid l5
    have A5 := below_alloc1 w5 (.cells #[.slice p5 ly k5] 26)
    have C5 := Lib.hid (one_keep A5 (one_keep b5 C4.out))
    have Y5 := Lib.hid (one_keep A5 (one_keep b5 Y4.out))
    have P5 := Lib.hid (own_below (own_below P4.out b5) A5)
    have Z5 := Lib.hid (one_keep A5 (one_keep b5 X4.out))
    have Q5 := Lib.hid (own_below (own_below O4.out b5) A5)
    have B5 := Lib.hid ((B4.out.trans (b5.mono B4.out.size)).trans (A5.mono (Nat.le_trans B4.out.size b5.size)))
    have N5 : W4.heap.size ≤ w5.heap.size := b5.size
    clear x5 o5 l5 b5 c4 A5 C4 Y4 P4 X4 O4 B4
    go_upto_region 8 with fail
    obtain ⟨W5, hW⟩ : ∃ W, W = w5.alloc (.cells #[.slice p5 ly k5] 26) := ⟨_, rfl⟩
    obtain ⟨m5, hm⟩ : ∃ m, m = w5.heap.size := ⟨_, rfl⟩
    have M5 : m5 < W5.heap.size := by rw [hW, hm]; simp
    rw [← hW] at X5 O5 C5 Y5 P5 Z5 Q5 B5 ⊢
    rw [← hm] at X5 L5 N5 ⊢
    clear hW hm
    obtain ⟨_, c5, _⟩ := X5.out
    obtain ⟨_, c3, _⟩ := Y5.out
    go_wp2_with fail
    refine (calls_eqSc (xs := ys) (Below.refl _ _) HYL.out (own_eq O5.out (rfl : ys = ys) HLY.out.symm) (own_eq P5.out (rfl : ys = ys) HLY.out.symm)).mono ?_
    rintro e w6 ⟨rfl, b6⟩
    have C6 := Lib.hid (one_keep b6 C5.out)
    have Y6 := Lib.hid (one_keep b6 Y5.out)
    have P6 := Lib.hid (own_below P5.out b6)
    have Z6 := Lib.hid (one_keep b6 Z5.out)
    have Q6 := Lib.hid (own_below Q5.out b6)
    have X6 := Lib.hid (one_keep b6 X5.out)
    have O6 := Lib.hid (own_below O5.out b6)
    have B6 := Lib.hid (B5.out.trans (b6.mono B5.out.size))
    clear c5 c3 C5 Y5 P5 Z5 Q5 X5 O5 B5 b6
    have HR6 := Lib.hid (HR.out.below B6.out)
    obtain ⟨_, c0, _⟩ := C6.out
    obtain ⟨_, c4, _⟩ := Z6.out
    go_upto_region 10 with fail
    go_cut [31] (fun s wx => s = .bool false ∧ Below w6.heap.size w6 wx)
    case first =>
      go_region_with (first
        | (go_at_call 22; refine (calls_toSc (W := w6) (by with_reducible first | assumption | exact (Below.refl _ _).drew) HR6.out hl1 HX).mono ?_; rintro e1 w7 ⟨v7, rfl, o7, b7⟩; obtain ⟨_, d0, _⟩ := one_keep b7 C6.out; obtain ⟨_, d4, _⟩ := one_keep b7 Z6.out)
        | (go_at_call 23; refine (calls_eqSc (W := w6) (by with_reducible assumption) HLEN.out (own_eq Q6.out (rfl : xs = xs) HLX.out.symm) (by with_reducible assumption)).mono ?_; rintro e1 w8 ⟨rfl, b8⟩))
      all_goals
        go_wp2_with fail
        go_meet
        exact ⟨rfl, b8⟩
    case rest =>
      obtain ⟨rfl, b7⟩ := hcut
      obtain ⟨W7, hW⟩ : ∃ W, W = wc := ⟨_, rfl⟩
      rw [← hW] at b7 ⊢
      clear hW c0 c4
      have C7 := Lib.hid (one_keep b7 C6.out)
      have Y7 := Lib.hid (one_keep b7 Y6.out)
      have P7 := Lib.hid (own_below P6.out b7)
      have Z7 := Lib.hid (one_keep b7 Z6.out)
      have Q7 := Lib.hid (own_below Q6.out b7)
      have X7 := Lib.hid (one_keep b7 X6.out)
      have O7 := Lib.hid (own_below O6.out b7)
      have B7 := Lib.hid (B6.out.trans (b7.mono B6.out.size))
      clear C6 Y6 P6 Z6 Q6 X6 O6 B6 HR6 b7
      obtain ⟨_, c4, _⟩ := Z7.out
      go_wp2_with fail
      refine (markSc_own _ _ 1 _ _ lx xs hx2 (by omega) Q7.out).mono ?_
      rintro e w8 ⟨rfl, _, g8⟩
      have C8 := Lib.hid (one_grown C7.out g8 (fun e => by have := (L4.out _ e).1; have := HN.out; omega))
      have Y8 := Lib.hid (one_grown Y7.out g8 (fun e => by have := (L4.out _ e).1; omega))
      have P8 := Lib.hid (own_grownC P7.out g8 (fun g hg e => by have := (L3.out g hg).2; have := (L4.out g e).1; omega))
      have X8 := Lib.hid (one_grown X7.out g8 (fun e => by have := (L4.out _ e).2; omega))
      have O8 := Lib.hid (own_grownC O7.out g8 (fun g hg e => by have := (L5.out g hg).1; have := (L4.out g e).2; omega))
      have B8 := Lib.hid (B7.out.grown g8 B7.out.size (fun k hk => by have := (L4.out k hk).1; omega))
      clear c4 C7 Y7 P7 Z7 Q7 X7 O7 B7 g8
      have t0 : ¬ ((1 : Int) + lx) < 0 := by omega
      obtain ⟨_, c5, _⟩ := X8.out
      obtain ⟨_, c3, _⟩ := Y8.out
      go_wp2_with fail
      refine (calls_eqSc (xs := ys) (Below.refl _ _) HYL.out (own_eq O8.out (rfl : ys = ys) HLY.out.symm) (own_eq P8.out (rfl : ys = ys) HLY.out.symm)).mono ?_
      rintro e w9 ⟨rfl, b9⟩
      have C9 := Lib.hid (one_keep b9 C8.out)
      have Y9 := Lib.hid (one_keep b9 Y8.out)
      have P9 := Lib.hid (own_below P8.out b9)
      have X9 := Lib.hid (one_keep b9 X8.out)
      have O9 := Lib.hid (own_below O8.out b9)
      have B9 := Lib.hid (B8.out.trans (b9.mono B8.out.size))
      clear c5 c3 C8 Y8 P8 X8 O8 B8 b9
      obtain ⟨_, c5, _⟩ := X9.out
      go_wp2_with fail
      refine (markSc_own _ _ 1 _ _ ly ys (by omega) (by omega) O9.out).mono ?_
      rintro e w10 ⟨rfl, o10, g10⟩
      have C10 := Lib.hid (one_grown C9.out g10 (fun e => by have := (L5.out _ e).1; have := HN.out; omega))
      have Y10 := Lib.hid (one_grown Y9.out g10 (fun e => by have := (L5.out _ e).1; omega))
      have P10 := Lib.hid (own_grownC P9.out g10 (fun g hg e => by have := (L3.out g hg).2; have := (L5.out g e).1; omega))
      have X10 := Lib.hid (one_grown X9.out g10 (fun e => by have := (L5.out _ e).2; omega))
      have O10 := Lib.hid o10
      have B10 := Lib.hid (B9.out.grown g10 B9.out.size (fun k hk => by have := (L5.out k hk).1; omega))
      clear c5 C9 Y9 P9 X9 O9 B9 o10 g10
      obtain ⟨_, c5, _⟩ := X10.out
      go_wp2_with fail
      refine (heldSc_any _ _ 1 _ _ ly (by omega) (by omega) O10.out).mono ?_
      rintro e w11 ⟨rfl, b11⟩
      have C11 := Lib.hid (one_keep b11 C10.out)
      have Y11 := Lib.hid (one_keep b11 Y10.out)
      have P11 := Lib.hid (own_below P10.out b11)
      have X11 := Lib.hid (one_keep b11 X10.out)
      have O11 := Lib.hid (own_below O10.out b11)
      have B11 := Lib.hid (B10.out.trans (b11.mono B10.out.size))
      clear c5 C10 Y10 P10 X10 O10 B10 b11
      have t1 : ¬ ((1 : Int) + ly) < 0 := by omega
      obtain ⟨_, c0, _⟩ := C11.out
      go_wp2_with fail
      refine (calls_toSc (Below.refl _ _) (HR.out.below B11.out) hl1 HX).mono ?_
      rintro e w12 ⟨v12, rfl, o12, b12⟩
      have Y12 := Lib.hid (one_keep b12 Y11.out)
      have P12 := Lib.hid (own_below P11.out b12)
      have X12 := Lib.hid (one_keep b12 X11.out)
      have O12 := Lib.hid (own_below O11.out b12)
      have B12 := Lib.hid (B11.out.trans (b12.mono B11.out.size))
      clear c0 C11 Y11 P11 X11 O11 B11 b12
      go_wp2_with fail
      refine (calls_cir (Below.refl _ _) ((II _ _) HA.out _ _ _ v12 HLEN.out o12)).mono ?_
      rintro e w13 ⟨v13, rfl, o13, b13⟩
      obtain ⟨p13, k13, rfl, x13, o13, l13⟩ := sc_laid (n := ly) b13.size HLY.out o13
      have Z13 := Lib.hid x13
      have Q13 := Lib.hid o13
      have A13 := below_alloc1 w13 (.cells #[.slice p13 ly k13] 26)
      have Y13 := Lib.hid (one_keep A13 (one_keep b13 Y12.out))
      have P13 := Lib.hid (own_below (own_below P12.out b13) A13)
      have X13 := Lib.hid (one_keep A13 (one_keep b13 X12.out))
      have O13 := Lib.hid (own_below (own_below O12.out b13) A13)
      have B13 := Lib.hid ((B12.out.trans (b13.mono B12.out.size)).trans (A13.mono (Nat.le_trans B12.out.size b13.size)))
      clear x13 o13 l13 b13 o12 A13 Y12 P12 X12 O12 B12
      go_upto_region 25 with fail
      obtain ⟨W13, hW⟩ : ∃ W, W = w13.alloc (.cells #[.slice p13 ly k13] 26) := ⟨_, rfl⟩
      obtain ⟨m13, hm⟩ : ∃ m, m = w13.heap.size := ⟨_, rfl⟩
      rw [← hW] at Z13 Q13 Y13 P13 X13 O13 B13 ⊢
      rw [← hm] at Z13 ⊢
      clear hW hm
      obtain ⟨_, c13, _⟩ := Z13.out
      obtain ⟨_, c3, _⟩ := Y13.out
      go_wp2_with fail
      refine (calls_eqSc (xs := ys) (Below.refl _ _) HYL.out (own_eq Q13.out (rfl : ys = ys) HLY.out.symm) (own_eq P13.out (rfl : ys = ys) HLY.out.symm)).mono ?_
      rintro e w14 ⟨rfl, b14⟩
      have X14 := Lib.hid (one_keep b14 X13.out)
      have O14 := Lib.hid (own_below O13.out b14)
      have B14 := Lib.hid (B13.out.trans (b14.mono B13.out.size))
      clear c13 c3 Z13 Q13 Y13 P13 X13 O13 B13 b14
      obtain ⟨_, c5, _⟩ := X14.out
      go_wp2_with fail
      refine (heldSc_any _ _ 1 _ _ ly (by omega) (by omega) O14.out).mono ?_
      rintro e w15 ⟨rfl, b15⟩
      have B15 := Lib.hid (B14.out.trans (b15.mono B14.out.size))
      clear c5 X14 O14 B14 b15
      go_wp2_with fail
      go_ret
      exact ⟨rfl, B15.out⟩
end Go.Proofs.Ytneblpplkidkfaa
