/- The walk of laws.FnExactTimesBig over the contracts. -/
import Derived.Test.YtpagmeekbdiaoaaSTimesWalks
import Derived.Test.YtpagmeekbdiaoaaOfLaw
import Derived.Test.YtpagmeekbdiaoaaMarkOwn
namespace Go.Proofs.Ytpagmeekbdiaoaa
open Go.RowKit
set_option linter.unusedVariables false
theorem timesR_len (xs : List Int) (N : Int) : (TimesR xs N).1.length ≤ 120 := by
  unfold TimesR
  split
  · split
    · assumption
    · simp
  · simp
/-- A row is kept where another block is written. -/
theorem own_apart {w w' : World} {base : Nat} {e : TypeId} {v : Value} {n : Nat} {xs : List Value} {r : Option Nat} (h : w.ownsRow base e 1 v n xs) (hg : w.grownBy w' r) (hr : ∀ g, v.ownBlock = some g → r ≠ some g) : w'.ownsRow base e 1 v n xs := by
  refine h.kept hg ?_
  cases hv : v.ownBlock
  · exact .inl rfl
  · exact .inr (fun e => hr _ hv e.symm)
set_option maxHeartbeats 2000000 in
theorem walk_FnExactTimesBig (a : Option Addr) (len cap : Nat) (zs : List Int) (N : Int) (w : World) (hr : IsRow .i64 w a len cap zs) (hN : (Lit.int .i64 N).wf = true) :
    Calls Try.prog 4 #[.slice a len cap, .int .i64 N] w fun e w' => e = .returned (.bool true) ∧ Below w.heap.size w w' := by
  have hl := (row_len hr)
  have HL := Lib.hid hl
  have hl' := hl.2
  clear hl hN
  by_cases h1 : 1048576 < len
  · go_enter Try.func4, Try.ntmps4
    go_wp2_with fail
    go_ret
    exact ⟨rfl, Below.refl _ _⟩
  · have HLEN := Lib.hid (show (zs.take len).length ≤ 2000000 from by have := HL.out.1; omega)
    generalize hzs : zs.take len = xs at HLEN
    have HZ := Lib.hid hzs
    have hm2 := timesR_len xs N
    generalize hys : (TimesR xs N).1 = ys at hm2
    generalize hok : (TimesR xs N).2 = ok
    have HY := Lib.hid hys
    have HOK := Lib.hid hok
    have tb : (ok != ok) = false := by simp
    have HL2 := Lib.hid (show ys.length ≤ 2000000 from by omega)
    obtain ⟨m, hm⟩ : ∃ m, m = ys.length := ⟨_, rfl⟩
    obtain ⟨l, hl⟩ : ∃ l, l = xs.length := ⟨_, rfl⟩
    have hm3 : m ≤ 120 := by omega
    have hl3 : l ≤ 2000000 := by have := HLEN.out; omega
    have HM := Lib.hid hm
    have HX := Lib.hid hl
    clear hm hl hzs hys hok hm2
    go_enter Try.func4, Try.ntmps4
    go_wp2_with fail
    refine (toInts_any w a len cap zs hr (by omega)).mono ?_
    rintro e w1 ⟨v1, rfl, o1, b1⟩
    rw [HZ.out] at o1
    go_wp2_with fail
    refine (stimesBig_any w1 _ _ v1 xs N HLEN.out o1).mono ?_
    rintro e w2 ⟨vw, rfl, ow2, b2⟩
    rw [HY.out] at ow2
    rw [HOK.out]
    have B2 := b1.trans (b2.mono b1.size)
    go_wp2_with fail
    refine (toInts_any w2 a len cap zs (hr.below B2) (by omega)).mono ?_
    rintro e w3 ⟨vx, rfl, ox3, b3⟩
    rw [HZ.out] at ox3
    have B3 := B2.trans (b3.mono B2.size)
    have ow3 := own_below ow2 b3
    go_wp2_with fail
    refine (timesBig_any w3 _ _ vx xs N HLEN.out ox3).mono ?_
    rintro e w4 ⟨vg, rfl, og4, b4⟩
    rw [HY.out] at og4
    rw [HOK.out]
    have B4 := B3.trans (b4.mono B3.size)
    have ow4 := own_below ow3 b4
    have ox4 := own_below ox3 b4
    go_wp2_with fail
    refine (eqInts_any w4 _ _ _ _ vg vw ys ys HL2.out HL2.out og4 ow4).mono ?_
    rintro e w5 ⟨rfl, b5⟩
    rw [decide_eq_true (rfl : ys = ys)]
    have B5 := B4.trans (b5.mono B4.size)
    have ow5 := own_below ow4 b5
    have ox5 := own_below ox4 b5
    have og5 := own_below og4 b5
    go_wp2_with fail
    refine (toInts_any w5 a len cap zs (hr.below B5) (by omega)).mono ?_
    rintro e w6 ⟨vy, rfl, oy6, b6⟩
    rw [HZ.out] at oy6
    have B6 := B5.trans (b6.mono B5.size)
    have ow6 := own_below ow5 b6
    have ox6 := own_below ox5 b6
    have og6 := own_below og5 b6
    go_wp2_with fail
    refine (eqInts_any w6 _ _ _ _ vx vy xs xs HLEN.out HLEN.out ox6 oy6).mono ?_
    rintro e w7 ⟨rfl, b7⟩
    rw [decide_eq_true (rfl : xs = xs)]
    have B7 := B6.trans (b7.mono B6.size)
    have ow7 := own_below ow6 b7
    have ox7 := own_below ox6 b7
    have og7 := own_below og6 b7
    rw [← HX.out] at ox7
    go_wp2_with fail
    refine (markInts_own w7 w2.heap.size 1 _ vx l xs (by omega) (by omega) ox7).mono ?_
    rintro e w8 ⟨rfl, _, g8⟩
    have B8 := B7.grown g8 B7.size (fun j hj => Nat.le_trans B2.size (ox7.lt j hj).1)
    have ow8 := own_apart ow7 g8 (fun g hg e => by have := (ow2.lt g hg).2; have := (ox3.lt g e).1; omega)
    have og8 := own_apart og7 g8 (fun g hg e => by have := (og4.lt g hg).1; have := (ox3.lt g e).2; omega)
    have t0 : ¬ ((1 : Int) + l) < 0 := by omega
    go_wp2_with fail
    refine (eqInts_any w8 _ _ _ _ vg vw ys ys HL2.out HL2.out og8 ow8).mono ?_
    rintro e w9 ⟨rfl, b9⟩
    rw [decide_eq_true (rfl : ys = ys)]
    have B9 := B8.trans (b9.mono B8.size)
    have ow9 := own_below ow8 b9
    have og9 := own_below og8 b9
    rw [← HM.out] at og9
    go_wp2_with fail
    refine (markInts_any w9 w3.heap.size 1 _ vg m ys (by omega) (by omega) og9).mono ?_
    rintro e w10 ⟨rfl, og10, b10⟩
    have B10 := B9.trans (b10.mono B3.size)
    have ow10 := own_old ow9 b10 (fun g hg => by have := (ow2.lt g hg).2; have := b3.size; omega)
    go_wp2_with fail
    refine (heldInts_any w10 w3.heap.size 1 _ vg m (by omega) (by omega) og10).mono ?_
    rintro e w11 ⟨rfl, b11⟩
    have B11 := B10.trans (b11.mono B10.size)
    have og11 := own_below og10 b11
    have ow11 := own_below ow10 b11
    have t1 : ¬ ((1 : Int) + m) < 0 := by omega
    go_wp2_with fail
    refine (toInts_any w11 a len cap zs (hr.below B11) (by omega)).mono ?_
    rintro e w12 ⟨vz, rfl, oz12, b12⟩
    rw [HZ.out] at oz12
    have B12 := B11.trans (b12.mono B11.size)
    have og12 := own_below og11 b12
    have ow12 := own_below ow11 b12
    go_wp2_with fail
    refine (timesBig_any w12 _ _ vz xs N HLEN.out oz12).mono ?_
    rintro e w13 ⟨vh, rfl, oh13, b13⟩
    rw [HY.out] at oh13
    rw [HOK.out]
    have B13 := B12.trans (b13.mono B12.size)
    have og13 := own_below og12 b13
    have ow13 := own_below ow12 b13
    go_wp2_with fail
    refine (eqInts_any w13 _ _ _ _ vh vw ys ys HL2.out HL2.out oh13 ow13).mono ?_
    rintro e w14 ⟨rfl, b14⟩
    rw [decide_eq_true (rfl : ys = ys)]
    have B14 := B13.trans (b14.mono B13.size)
    have og14 := own_below og13 b14
    go_wp2_with fail
    refine (heldInts_any w14 w3.heap.size 1 _ vg m (by omega) (by omega) og14).mono ?_
    rintro e w15 ⟨rfl, b15⟩
    have B15 := B14.trans (b15.mono B14.size)
    go_wp2_with fail
    go_ret
    exact ⟨rfl, B15⟩
end Go.Proofs.Ytpagmeekbdiaoaa
