/- The walk of laws.FnBigs. -/
import Derived.Test.YtpagmeekbdiaoaaDoorDrawBig
import Derived.Test.YtpagmeekbdiaoaaDoorSameInts
import Derived.Test.YtpagmeekbdiaoaaDoorAtWalks
import Derived.Test.YtpagmeekbdiaoaaDoorCmpBig
import Derived.Test.YtpagmeekbdiaoaaDoorBtWalks
namespace Go.Proofs.YtpagmeekbdiaoaaDoor
open Go.RowKit Go.Joins
set_option linter.unusedVariables false
theorem bt_small (n : Nat) (h : n < 10000) : BtR (ofB n) = Lib.itoa (n : Int) := by
  have h1 := (ofB_ok n (by omega)).1
  unfold BtR
  rw [if_pos h1]
  by_cases h0 : n = 0
  · subst h0; rw [ofB_zero]; unfold btV; rw [if_pos (by simp)]
    rw [Lib.itoa_nonneg, Lib.decDigits_one (by omega)]; rfl
  · rw [ofB_small n h h0]
    unfold btV
    rw [if_neg (by simp)]
    simp [btLow]
theorem cmp_three (x : Int) (h : -1 ≤ x ∧ x ≤ 1) : x = -1 ∨ x = 0 ∨ x = 1 := by omega
set_option maxHeartbeats 4000000 in
theorem walk_FnBigs (a : Option Addr) (len cap : Nat) (zs : List Int) (w : World) (ht : ItoaTab w) (hr : IsRow .u8 w a len cap zs) :
    Calls Tryd.prog 3 #[.slice a len cap] w fun e w' => e = .returned (.bool true) ∧ Below w.heap.size w w' := by
  have hlen := (row_len hr).2
  by_cases h1 : 1048576 < len
  · have d1 : decide (1048576 < (len : Int)) = true := decide_eq_true (by omega)
    go_enter Tryd.func3, Tryd.ntmps3
    go_wp2_with fail
    refine (bigA_any _ _ _ _ hlen).mono ?_
    rintro e w0 ⟨rfl, rfl⟩
    rw [d1]
    go_wp2_with fail
    go_ret
    exact ⟨rfl, Below.refl _ _⟩
  · have d1 : decide (1048576 < (len : Int)) = false := decide_eq_false (by omega)
    have HR := Lib.hid hr
    have HT := Lib.hid ht
    have HL : Hid (len ≤ 1048576) := Lib.hid (by omega)
    clear hr ht
    go_enter Tryd.func3, Tryd.ntmps3
    go_wp2_with fail
    refine (bigA_any _ _ _ _ hlen).mono ?_
    rintro e w0 ⟨rfl, rfl⟩
    rw [d1]
    clear hlen h1 d1
    go_wp2_with fail
    refine (drawBigs_any HR.out).mono ?_
    rintro e w1 ⟨va, vb, xs, ys, okx, lx, oky, ly, rfl, oa1, ob1, b1⟩
    obtain ⟨e7, ok7, l7⟩ := times_short (n := 7) okx (by omega) (by omega) (by omega)
    obtain ⟨e11, ok11, l11⟩ := times_short (n := 11) ok7 (by omega) (by omega) (by omega)
    obtain ⟨e77, ok77, l77⟩ := times_short (n := 77) okx (by omega) (by omega) (by omega)
    have tt := times_twice okx (by omega)
    rw [tt] at e11 ok11 l11
    have LX : Hid (xs.length ≤ 2000000) := Lib.hid (by omega)
    have LY : Hid (ys.length ≤ 2000000) := Lib.hid (by omega)
    have L7 : Hid ((timesB xs 7).length ≤ 2000000) := Lib.hid (by omega)
    have L77 : Hid ((timesB xs 77).length ≤ 2000000) := Lib.hid (by omega)
    have E7 := Lib.hid e7
    have E11 := Lib.hid e11
    have E77 := Lib.hid e77
    have OK77 := Lib.hid ok77
    have C1 := Lib.hid (cmpR_yes okx oky)
    have C2 := Lib.hid ((cmpR_yes oky okx).trans (cmpB_swap xs ys))
    clear e7 ok7 l7 e11 ok11 l11 e77 ok77 l77 tt lx ly okx oky
    have OA := Lib.hid oa1
    have OB := Lib.hid ob1
    have B := Lib.hid b1
    clear oa1 ob1 b1
    go_wp2_with fail
    refine (timesBig_any _ _ _ _ xs 7 LX.out OA.out).mono ?_
    rintro e w2 ⟨vx, rfl, o2, b2⟩
    rw [E7.out] at o2 ⊢
    have OX := Lib.hid o2
    have OA := Lib.hid (own_below OA.out b2)
    have OB := Lib.hid (own_below OB.out b2)
    have B := Lib.hid (B.out.trans (b2.mono B.out.size))
    clear o2 b2
    go_wp2_with fail
    refine (timesBig_any _ _ _ _ (timesB xs 7) 11 L7.out OX.out).mono ?_
    rintro e w3 ⟨vy, rfl, o3, b3⟩
    rw [E11.out] at o3 ⊢
    have OY := Lib.hid o3
    have OA := Lib.hid (own_below OA.out b3)
    have OB := Lib.hid (own_below OB.out b3)
    have B := Lib.hid (B.out.trans (b3.mono B.out.size))
    clear o3 b3 OX
    go_wp2_with fail
    refine (timesBig_any _ _ _ _ xs 77 LX.out OA.out).mono ?_
    rintro e w4 ⟨vz, rfl, o4, b4⟩
    rw [E77.out] at o4 ⊢
    have OZ := Lib.hid o4
    have OA := Lib.hid (own_below OA.out b4)
    have OB := Lib.hid (own_below OB.out b4)
    have OY := Lib.hid (own_below OY.out b4)
    have B := Lib.hid (B.out.trans (b4.mono B.out.size))
    clear o4 b4
    generalize timesB xs 77 = ps at OY OZ L77 OK77
    go_wp2_with fail
    refine (at_any (HR.out.below B.out) HL.out 0 (by omega)).mono ?_
    rintro e w0 ⟨u0, h0, rfl, rfl⟩
    go_wp2_with fail
    refine (at_any (HR.out.below B.out) HL.out 1 (by omega)).mono ?_
    rintro e w0 ⟨u1, h1, rfl, rfl⟩
    go_wp2_with fail
    refine (at_any (HR.out.below B.out) HL.out 2 (by omega)).mono ?_
    rintro e w0 ⟨u2, h2, rfl, rfl⟩
    go_wp2_with fail
    refine (at_any (HR.out.below B.out) HL.out 3 (by omega)).mono ?_
    rintro e w0 ⟨u3, h3, rfl, rfl⟩
    obtain ⟨n, hn, hn'⟩ : ∃ n : Nat, (u0 : Int) * 31 + (u1 : Int) = (n : Int) ∧ n < 10000 := ⟨u0 * 31 + u1, by push_cast; rfl, by omega⟩
    obtain ⟨m, hm, hm'⟩ : ∃ m : Nat, (u2 : Int) * 31 + (u3 : Int) = (m : Int) ∧ m < 10000 := ⟨u2 * 31 + u3, by push_cast; rfl, by omega⟩
    go_wp2_with fail
    clear hn hm h0 h1 h2 h3
    have HCN := Lib.hid ((cmpR_yes (ofB_ok n (by omega)).1 (ofB_ok m (by omega)).1).trans (ofB_cmp n m hn' hm'))
    have HNL : Hid ((ofB n).length ≤ 2000000) := Lib.hid (by have := (ofB_ok n (by omega)).2; omega)
    have HML : Hid ((ofB m).length ≤ 2000000) := Lib.hid (by have := (ofB_ok m (by omega)).2; omega)
    have HBT := Lib.hid (bt_small n hn')
    refine (of_any (n : Int) (by omega) _).mono ?_
    rintro e w5 ⟨v5, rfl, o5, b5⟩
    rw [Int.toNat_natCast] at o5
    have ON := Lib.hid o5
    have OA := Lib.hid (own_below OA.out b5)
    have OB := Lib.hid (own_below OB.out b5)
    have OY := Lib.hid (own_below OY.out b5)
    have OZ := Lib.hid (own_below OZ.out b5)
    have B := Lib.hid (B.out.trans (b5.mono B.out.size))
    clear o5 b5
    go_wp2_with fail
    refine (of_any (m : Int) (by omega) _).mono ?_
    rintro e w6 ⟨v6, rfl, o6, b6⟩
    rw [Int.toNat_natCast] at o6
    have OM := Lib.hid o6
    have ON := Lib.hid (own_below ON.out b6)
    have OA := Lib.hid (own_below OA.out b6)
    have OB := Lib.hid (own_below OB.out b6)
    have OY := Lib.hid (own_below OY.out b6)
    have OZ := Lib.hid (own_below OZ.out b6)
    have B := Lib.hid (B.out.trans (b6.mono B.out.size))
    clear o6 b6
    go_wp2_with fail
    refine (compareBig_any _ _ _ _ _ v5 v6 _ _ HNL.out HML.out ON.out OM.out).mono ?_
    rintro e w7 ⟨rfl, b7⟩
    rw [HCN.out]
    have OA := Lib.hid (own_below OA.out b7)
    have OB := Lib.hid (own_below OB.out b7)
    have OY := Lib.hid (own_below OY.out b7)
    have OZ := Lib.hid (own_below OZ.out b7)
    have B := Lib.hid (B.out.trans (b7.mono B.out.size))
    clear b7 ON OM HCN HML
    obtain ⟨cn, hcn⟩ : ∃ c : Int, c = if n < m then -1 else if m < n then 1 else 0 := ⟨_, rfl⟩
    rw [← hcn]
    have HCN := Lib.hid hcn
    clear hcn
    go_wp2_with fail
    refine (sameInts_any _ _ _ _ _ vy vz ps ps L77.out L77.out OY.out OZ.out).mono ?_
    rintro e w8 ⟨rfl, b8⟩
    rw [decide_eq_true (rfl : ps = ps)]
    have OA := Lib.hid (own_below OA.out b8)
    have OB := Lib.hid (own_below OB.out b8)
    have OY := Lib.hid (own_below OY.out b8)
    have B := Lib.hid (B.out.trans (b8.mono B.out.size))
    clear b8 OZ
    go_wp2_with fail
    refine (compareBig_any _ _ _ _ _ va vb xs ys LX.out LY.out OA.out OB.out).mono ?_
    rintro e w9 ⟨rfl, b9⟩
    have OA := Lib.hid (own_below OA.out b9)
    have OB := Lib.hid (own_below OB.out b9)
    have OY := Lib.hid (own_below OY.out b9)
    have B := Lib.hid (B.out.trans (b9.mono B.out.size))
    clear b9
    rw [C1.out]
    obtain ⟨c, hc⟩ : ∃ c : Int, c = cmpB xs ys := ⟨_, rfl⟩
    have HC3 := Lib.hid (show -1 ≤ c ∧ c ≤ 1 from by rw [hc]; exact cmpB_bd xs ys)
    have HC0 : Hid (decide (xs = ys) = (c == 0)) := Lib.hid (by
      have := cmpB_zero xs ys
      rw [← hc] at this
      by_cases h : c = 0
      · rw [decide_eq_true (this.1 h), h]; rfl
      · rw [decide_eq_false (fun h' => h (this.2 h'))]; simp [h])
    rw [← hc] at C1 C2 ⊢
    clear hc
    obtain ⟨d, hd⟩ : ∃ d : Int, d = -c := ⟨_, rfl⟩
    rw [← hd] at C2
    have q1 : -1 ≤ d ∧ d ≤ 1 := by have := HC3.out; omega
    have q2 : (c == -d) = true := by rw [hd]; simp
    obtain ⟨q10, q11⟩ := q1
    clear hd HC3
    go_wp2_with fail
    refine (compareBig_any _ _ _ _ _ vb va ys xs LY.out LX.out OB.out OA.out).mono ?_
    rintro e w10 ⟨rfl, b10⟩
    rw [C2.out]
    have OA := Lib.hid (own_below OA.out b10)
    have OB := Lib.hid (own_below OB.out b10)
    have OY := Lib.hid (own_below OY.out b10)
    have B := Lib.hid (B.out.trans (b10.mono B.out.size))
    clear b10
    go_wp2_with fail
    refine (compareBig_any _ _ _ _ _ va vb xs ys LX.out LY.out OA.out OB.out).mono ?_
    rintro e w11 ⟨rfl, b11⟩
    rw [C1.out]
    have OA := Lib.hid (own_below OA.out b11)
    have OB := Lib.hid (own_below OB.out b11)
    have OY := Lib.hid (own_below OY.out b11)
    have B := Lib.hid (B.out.trans (b11.mono B.out.size))
    clear b11
    obtain ⟨z, hz⟩ : ∃ z : Bool, (c == 0) = z := ⟨_, rfl⟩
    have qz : (z == z) = true := by cases z <;> rfl
    go_wp2_with fail
    refine (sameInts_any _ _ _ _ _ va vb xs ys LX.out LY.out OA.out OB.out).mono ?_
    rintro e w12 ⟨rfl, b12⟩
    rw [HC0.out, hz]
    have OY := Lib.hid (own_below OY.out b12)
    have B := Lib.hid (B.out.trans (b12.mono B.out.size))
    clear b12 OA OB q2 q10 q11 C1 C2 HC0 hz
    go_wp2_with fail
    refine (btoi_any _ _).mono ?_
    rintro e w0 ⟨rfl, rfl⟩
    obtain ⟨p, hp⟩ : ∃ p : Int, p = if decide (m < n) = true then 1 else 0 := ⟨_, rfl⟩
    obtain ⟨q, hq⟩ : ∃ p : Int, p = if decide (n < m) = true then 1 else 0 := ⟨_, rfl⟩
    have r0 : 0 ≤ p ∧ p ≤ 1 := by rw [hp]; split <;> omega
    have r1 : 0 ≤ q ∧ q ≤ 1 := by rw [hq]; split <;> omega
    have r2 : (cn == p - q) = true := by
      rw [HCN.out, hp, hq]
      rcases Nat.lt_trichotomy n m with h | h | h
      · rw [if_pos h, if_neg (by simp; omega), if_pos (by simp; omega)]; rfl
      · rw [if_neg (by omega), if_neg (by omega), if_neg (by simp; omega), if_neg (by simp; omega)]; rfl
      · rw [if_neg (by omega), if_pos h, if_pos (by simp; omega), if_neg (by simp; omega)]; rfl
    rw [← hp]
    have HQ := Lib.hid hq
    obtain ⟨r00, r01⟩ := r0
    obtain ⟨r10, r11⟩ := r1
    clear hp hq HCN
    go_wp2_with fail
    refine (btoi_any _ _).mono ?_
    rintro e w0 ⟨rfl, rfl⟩
    rw [← HQ.out]
    clear HQ
    go_wp2_with fail
    refine (of_any (n : Int) (by omega) _).mono ?_
    rintro e w13 ⟨v13, rfl, o13, b13⟩
    rw [Int.toNat_natCast] at o13
    have ON := Lib.hid o13
    have OY := Lib.hid (own_below OY.out b13)
    have B := Lib.hid (B.out.trans (b13.mono B.out.size))
    clear o13 b13
    go_wp2_with fail
    refine (bt_any _ _ _ v13 _ HNL.out ON.out (HT.out.below B.out HT.out.lt)).mono ?_
    rintro e w14 ⟨rfl, b14⟩
    rw [HBT.out]
    have OY := Lib.hid (own_below OY.out b14)
    have B := Lib.hid (B.out.trans (b14.mono B.out.size))
    clear b14 ON
    go_wp2_with fail
    refine (format_any (n : Int) (by omega) (by omega) _ (HT.out.below B.out HT.out.lt)).mono ?_
    rintro e w15 ⟨rfl, b15⟩
    have OY := Lib.hid (own_below OY.out b15)
    have B := Lib.hid (B.out.trans (b15.mono B.out.size))
    clear b15
    generalize Lib.itoa (n : Int) = L
    go_wp2_with fail
    refine (ok_any _ _ _ vy ps L77.out OY.out).mono ?_
    rintro e w0 ⟨rfl, rfl⟩
    rw [decide_eq_true OK77.out]
    go_wp2_with fail
    go_ret
    exact ⟨rfl, B.out⟩
end Go.Proofs.YtpagmeekbdiaoaaDoor
