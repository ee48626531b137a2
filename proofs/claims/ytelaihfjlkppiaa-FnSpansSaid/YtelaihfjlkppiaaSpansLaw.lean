/- The walk of laws.FnExactSpansOf. -/
import Derived.Test.YtelaihfjlkppiaaSScale
import Derived.Test.YtelaihfjlkppiaaScImpl
import Derived.Test.YtelaihfjlkppiaaScRows
import Derived.Test.YtelaihfjlkppiaaEqCirLaw
import Derived.Test.YtelaihfjlkppiaaMarkOwn
import Derived.Deep.RegionWith
namespace Go.Proofs.Ytelaihfjlkppiaa
open Go.RowKit Go.Joins
set_option linter.unusedVariables false
set_option maxRecDepth 100000 in
set_option maxHeartbeats 8000000 in
theorem walk_SpansOfBy (II : SpansImpl) (a : Option Addr) (len cap : Nat) (zs : List Int) (i : Int) (w : World) (hr : IsRow .i64 w a len cap zs) (hi : (Lit.int .i64 i).wf = true) :
    Calls Try.prog 7 #[cirV (.slice a len cap), .int .i64 i] w fun e w' => e = .returned (.bool true) ∧ Below w.heap.size w w' := by
  clear hi
  have HL := Lib.hid (row_len hr)
  have HR := Lib.hid hr
  have hl' := HL.out.2
  obtain ⟨n, hn⟩ : ∃ n, n = w.heap.size := ⟨_, rfl⟩
  have HN := Lib.hid hn
  have C0 : Hid (One n (.slice a len cap) (w.alloc (.cells #[.slice a len cap] 35))) := Lib.hid (by rw [hn]; exact one_alloc)
  have B0 := Lib.hid (below_alloc1 w (.cells #[.slice a len cap] 35))
  clear hr
  go_enter Try.func7, Try.ntmps7
  go_upto_region 1 with fail
  obtain ⟨W0, hW⟩ : ∃ W, W = w.alloc (.cells #[.slice a len cap] 35) := ⟨_, rfl⟩
  rw [← hW] at C0 B0 ⊢
  rw [← hn]
  clear hW hn
  obtain ⟨_, c0, _⟩ := C0.out
  by_cases h1 : 1048576 < len
  · go_wp2_with fail
    refine (szSc_high a len cap _ h1 hl').mono ?_
    rintro e w1 ⟨rfl, b1⟩
    go_wp2_with fail
    go_ret
    exact ⟨rfl, B0.out.trans (b1.mono B0.out.size)⟩
  · obtain ⟨xs, hxs⟩ : ∃ xs, xs = zs.take len := ⟨_, rfl⟩
    have HX := Lib.hid hxs
    have HLEN := Lib.hid (show xs.length ≤ 2000000 from by have := HL.out.1; rw [hxs]; omega)
    have hl1 : len ≤ 1048576 := by omega
    have hl2 : ¬ (1048576 : Int) - len < 0 := by omega
    obtain ⟨ys, hat⟩ := spsAt_ex xs i
    have HA := Lib.hid hat
    have hy12 := spsAt_len hat
    obtain ⟨ly, hly⟩ : ∃ l, l = ys.length := ⟨_, rfl⟩
    obtain ⟨lx, hlx⟩ : ∃ l, l = xs.length := ⟨_, rfl⟩
    rw [← hly] at hy12
    have HLY := Lib.hid hly
    have HLX := Lib.hid hlx.symm
    have hx2 : lx ≤ 2000000 := by have := HLEN.out; omega
    have HYL := Lib.hid (show ys.length ≤ 2000000 from by omega)
    clear hxs h1 hat hly hlx
    go_wp2_with fail
    refine (szSc_low a len cap _ hl1).mono ?_
    rintro e w1 ⟨rfl, b1⟩
    have C1 := Lib.hid (one_keep b1 C0.out)
    have B1 := Lib.hid (B0.out.trans (b1.mono B0.out.size))
    clear c0 C0 B0 b1
    obtain ⟨_, c0, _⟩ := C1.out
    go_wp2_with fail
    refine (calls_toSc (Below.refl _ _) (HR.out.below B1.out) hl1 HX).mono ?_
    rintro e w2 ⟨v2, rfl, o2, b2⟩
    have C2 := Lib.hid (one_keep b2 C1.out)
    have B2 := Lib.hid (B1.out.trans (b2.mono B1.out.size))
    clear c0 C1 B1 b2
    go_wp2_with fail
    refine (spans_spec HA.out _ _ _ v2 HLEN.out o2).mono ?_
    rintro e w3 ⟨v3, rfl, o3, b3⟩
    have P3 := Lib.hid o3
    have LW := Lib.hid (fun g hg => (o3.lt g hg).2)
    have C3 := Lib.hid (one_keep b3 C2.out)
    have B3 := Lib.hid (B2.out.trans (b3.mono B2.out.size))
    have N2 : w.heap.size ≤ w2.heap.size := B2.out.size
    clear o3 b3 o2 C2 B2
    obtain ⟨_, c0, _⟩ := C3.out
    go_wp2_with fail
    refine (calls_toSc (Below.refl _ _) (HR.out.below B3.out) hl1 HX).mono ?_
    rintro e w4 ⟨v4, rfl, o4, b4⟩
    obtain ⟨p4, k4, rfl, x4, o4, l4⟩ := sc_laid (n := lx) b4.size HLX.out o4
    have X4 := Lib.hid x4
    have O4 := Lib.hid o4
    have L4 := Lib.hid l4
    have A4 := below_alloc1 w4 (.cells #[.slice p4 lx k4] 26)
    have C4 := Lib.hid (one_keep A4 (one_keep b4 C3.out))
    have P4 := Lib.hid (own_below (own_below P3.out b4) A4)
    have B4 := Lib.hid ((B3.out.trans (b4.mono B3.out.size)).trans (A4.mono (Nat.le_trans B3.out.size b4.size)))
    have N3 : w.heap.size ≤ w3.heap.size := B3.out.size
    have N4 : w3.heap.size ≤ w4.heap.size := b4.size
    clear x4 o4 l4 b4 c0 A4 C3 P3 B3
    go_upto_region 7 with fail
    obtain ⟨W4, hW⟩ : ∃ W, W = w4.alloc (.cells #[.slice p4 lx k4] 26) := ⟨_, rfl⟩
    obtain ⟨m4, hm⟩ : ∃ m, m = w4.heap.size := ⟨_, rfl⟩
    have M4 : m4 < W4.heap.size := by rw [hW, hm]; simp
    rw [← hW] at X4 O4 C4 P4 B4 ⊢
    rw [← hm] at X4 L4 N4 ⊢
    clear hW hm
    obtain ⟨_, c4, _⟩ := X4.out
    go_wp2_with fail
    refine ((II _ _ _) HA.out _ _ _ _ HLEN.out (own_eq O4.out (rfl : xs = xs) HLX.out.symm)).mono ?_
    rintro e w5 ⟨v5, rfl, o5, b5⟩
    have O5 := Lib.hid o5
    have L5 := Lib.hid (fun g hg => (o5.lt g hg).1)
    have C5 := Lib.hid (one_keep b5 C4.out)
    have P5 := Lib.hid (own_below P4.out b5)
    have Z5 := Lib.hid (one_keep b5 X4.out)
    have Q5 := Lib.hid (own_below O4.out b5)
    have B5 := Lib.hid (B4.out.trans (b5.mono B4.out.size))
    clear o5 b5 c4 C4 P4 X4 O4 B4
    go_wp2_with fail
    refine (eqInts_any w5 _ _ _ _ v5 v3 ys ys HYL.out HYL.out O5.out P5.out).mono ?_
    rintro e w6 ⟨rfl, b6⟩
    rw [decide_eq_true (rfl : ys = ys)]
    have C6 := Lib.hid (one_keep b6 C5.out)
    have P6 := Lib.hid (own_below P5.out b6)
    have Z6 := Lib.hid (one_keep b6 Z5.out)
    have Q6 := Lib.hid (own_below Q5.out b6)
    have O6 := Lib.hid (own_below O5.out b6)
    have B6 := Lib.hid (B5.out.trans (b6.mono B5.out.size))
    clear C5 P5 Z5 Q5 O5 B5 b6
    have HR6 := Lib.hid (HR.out.below B6.out)
    obtain ⟨_, c0, _⟩ := C6.out
    obtain ⟨_, c4, _⟩ := Z6.out
    go_upto_region 10 with fail
    go_cut [35] (fun s wx => s = .bool false ∧ Below w6.heap.size w6 wx)
    case first =>
      go_region_with (first
        | (go_at_call 21; refine (calls_toSc (W := w6) (by with_reducible first | assumption | exact (Below.refl _ _).drew) HR6.out hl1 HX).mono ?_; rintro e1 w7 ⟨v7, rfl, o7, b7⟩; obtain ⟨_, d0, _⟩ := one_keep b7 C6.out; obtain ⟨_, d4, _⟩ := one_keep b7 Z6.out)
        | (go_at_call 23; refine (calls_eqSc (W := w6) (by with_reducible assumption) HLEN.out (own_eq Q6.out (rfl : xs = xs) HLX.out.symm) (by with_reducible assumption)).mono ?_; rintro e1 w8 ⟨rfl, b8⟩))
      all_goals
        go_wp2_with fail
        go_meet
        exact ⟨rfl, b8⟩
    case rest =>
      obtain ⟨rfl, b7⟩ := hcut
      obtain ⟨W7, hW⟩ : ∃ W, W = wc := ⟨_, rfl⟩
      rw [← hW] at b7 ⊢
      clear hW c0 c4
      have C7 := Lib.hid (one_keep b7 C6.out)
      have P7 := Lib.hid (own_below P6.out b7)
      have Z7 := Lib.hid (one_keep b7 Z6.out)
      have Q7 := Lib.hid (own_below Q6.out b7)
      have O7 := Lib.hid (own_below O6.out b7)
      have B7 := Lib.hid (B6.out.trans (b7.mono B6.out.size))
      clear C6 P6 Z6 Q6 O6 B6 HR6 b7
      obtain ⟨_, c4, _⟩ := Z7.out
      go_wp2_with fail
      refine (markSc_own _ _ 1 _ _ lx xs hx2 (by omega) Q7.out).mono ?_
      rintro e w8 ⟨rfl, _, g8⟩
      have C8 := Lib.hid (one_grown C7.out g8 (fun e => by have := (L4.out _ e).1; have := HN.out; omega))
      have P8 := Lib.hid (own_grownC P7.out g8 (fun g hg e => by have := LW.out g hg; have := (L4.out g e).1; omega))
      have O8 := Lib.hid (own_grownC O7.out g8 (fun g hg e => by have := L5.out g hg; have := (L4.out g e).2; omega))
      have B8 := Lib.hid (B7.out.grown g8 B7.out.size (fun k hk => by have := (L4.out k hk).1; omega))
      clear c4 C7 P7 Z7 Q7 O7 B7 g8
      have t0 : ¬ ((1 : Int) + lx) < 0 := by omega
      go_wp2_with fail
      refine (eqInts_any w8 _ _ _ _ v5 v3 ys ys HYL.out HYL.out O8.out P8.out).mono ?_
      rintro e w9 ⟨rfl, b9⟩
      rw [decide_eq_true (rfl : ys = ys)]
      have C9 := Lib.hid (one_keep b9 C8.out)
      have P9 := Lib.hid (own_below P8.out b9)
      have O9 : Hid (w9.ownsRow W4.heap.size 3 1 v5 ly (intCs ys)) := Lib.hid (by rw [HLY.out]; exact own_below O8.out b9)
      have B9 := Lib.hid (B8.out.trans (b9.mono B8.out.size))
      clear C8 P8 O8 B8 b9
      go_wp2_with fail
      refine (markInts_own w9 _ 1 _ v5 ly ys (by omega) (by omega) O9.out).mono ?_
      rintro e w10 ⟨rfl, o10, g10⟩
      have C10 := Lib.hid (one_grown C9.out g10 (fun e => by have := L5.out _ e; have := HN.out; omega))
      have P10 := Lib.hid (own_grownC P9.out g10 (fun g hg e => by have := LW.out g hg; have := L5.out g e; omega))
      have O10 := Lib.hid o10
      have B10 := Lib.hid (B9.out.grown g10 B9.out.size (fun k hk => by have := L5.out k hk; omega))
      clear C9 P9 O9 B9 o10 g10
      have t1 : ¬ ((1 : Int) + ly) < 0 := by omega
      go_wp2_with fail
      refine (heldInts_any w10 _ 1 _ v5 ly (by omega) (by omega) O10.out).mono ?_
      rintro e w11 ⟨rfl, b11⟩
      have C11 := Lib.hid (one_keep b11 C10.out)
      have P11 := Lib.hid (own_below P10.out b11)
      have O11 := Lib.hid (own_below O10.out b11)
      have B11 := Lib.hid (B10.out.trans (b11.mono B10.out.size))
      clear C10 P10 O10 B10 b11
      obtain ⟨_, c0, _⟩ := C11.out
      go_wp2_with fail
      refine (calls_toSc (Below.refl _ _) (HR.out.below B11.out) hl1 HX).mono ?_
      rintro e w12 ⟨v12, rfl, o12, b12⟩
      have P12 := Lib.hid (own_below P11.out b12)
      have O12 := Lib.hid (own_below O11.out b12)
      have B12 := Lib.hid (B11.out.trans (b12.mono B11.out.size))
      clear c0 C11 P11 O11 B11 b12
      go_wp2_with fail
      refine ((II _ _ _) HA.out _ _ _ v12 HLEN.out o12).mono ?_
      rintro e w13 ⟨v13, rfl, o13, b13⟩
      have Q13 := Lib.hid o13
      have P13 := Lib.hid (own_below P12.out b13)
      have O13 := Lib.hid (own_below O12.out b13)
      have B13 := Lib.hid (B12.out.trans (b13.mono B12.out.size))
      clear o13 b13 o12 P12 O12 B12
      go_wp2_with fail
      refine (eqInts_any w13 _ _ _ _ v13 v3 ys ys HYL.out HYL.out Q13.out P13.out).mono ?_
      rintro e w14 ⟨rfl, b14⟩
      rw [decide_eq_true (rfl : ys = ys)]
      have O14 := Lib.hid (own_below O13.out b14)
      have B14 := Lib.hid (B13.out.trans (b14.mono B13.out.size))
      clear Q13 P13 O13 B13 b14
      go_wp2_with fail
      refine (heldInts_any w14 _ 1 _ v5 ly (by omega) (by omega) O14.out).mono ?_
      rintro e w15 ⟨rfl, b15⟩
      have B15 := Lib.hid (B14.out.trans (b15.mono B14.out.size))
      clear O14 B14 b15
      go_wp2_with fail
      go_ret
      exact ⟨rfl, B15.out⟩
end Go.Proofs.Ytelaihfjlkppiaa
