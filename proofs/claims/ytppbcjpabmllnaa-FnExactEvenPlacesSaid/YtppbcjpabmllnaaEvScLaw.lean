/- The walk of laws.FnExactEvenScale over the program's contract. Written by evenlaws.py. -/
import Derived.Test.YtppbcjpabmllnaaSEvenSc
import Derived.Test.YtppbcjpabmllnaaEvenImpl
import Derived.Test.YtppbcjpabmllnaaScRows
import Derived.Deep.DeepCutAuto
namespace Go.Proofs.Ytppbcjpabmllnaa
open Go.RowKit Go.Joins
set_option linter.unusedVariables false
set_option maxHeartbeats 2000000 in
theorem walk_EvenScaleBy (MI : EvScImpl) (c s : Int) (w : World) (hc : (Lit.int .i64 c).wf = true) (hs : (Lit.int .i64 s).wf = true) :
    Calls Try.prog 5 #[.int .i64 c, .int .i64 s] w fun e w' => e = .returned (.bool true) ∧ Below w.heap.size w w' := by
  obtain ⟨ys, hy⟩ : ∃ ys, EsAt c s ys := ⟨_, rfl⟩
  have HE := Lib.hid hy
  have hyl : ys.length ≤ 12 := by rw [hy]; exact esF_len c s
  obtain ⟨n, hn⟩ : ∃ n, ys.length = n := ⟨_, rfl⟩
  have HN := Lib.hid hn
  have HL := Lib.hid (show ys.length ≤ 2000000 from by omega)
  have hn12 : n ≤ 12 := by omega
  clear hy hn hyl hc hs
  go_enter Try.func5, Try.ntmps5
  go_wp2_with fail
  refine (evenscale_spec (HE.out) _).mono ?_
  rintro e w1 ⟨v1, rfl, o1, b1⟩
  obtain ⟨p1, c1, rfl, x1, o1, l1⟩ := sc_laid (n := n) b1.size HN.out o1
  have X1 := Lib.hid x1
  have O1 := Lib.hid o1
  have B1 := Lib.hid (b1.alloc b1.size (.cells #[.slice p1 n c1] 26))
  have L1 := Lib.hid (fun g hg => (l1 g hg).2)
  clear o1 b1 x1 l1
  go_upto_region 2 with fail
  obtain ⟨W1, hW⟩ : ∃ W, W = w1.alloc (.cells #[.slice p1 n c1] 26) := ⟨_, rfl⟩
  obtain ⟨m1, hm⟩ : ∃ m, m = w1.heap.size := ⟨_, rfl⟩
  have M1 : m1 < W1.heap.size := by rw [hW, hm]; simp
  rw [← hW] at X1 O1 B1 ⊢
  rw [← hm] at X1 L1 ⊢
  have N1 : w.heap.size ≤ W1.heap.size := B1.out.size
  clear hW hm
  go_wp2_with fail
  refine (calls_cir (Below.refl _ _) (MI c s _ HE.out _)).mono ?_
  rintro e w2 ⟨v2, rfl, o2, b2⟩
  obtain ⟨p2, c2, rfl, x2, o2, l2⟩ := sc_laid (n := n) b2.size HN.out o2
  have X2 := Lib.hid x2
  have O2 := Lib.hid o2
  have X1' := Lib.hid (one_al (o := .cells #[.slice p2 n c2] 26) (one_keep b2 X1.out))
  have O1' := Lib.hid (own_below (own_below O1.out b2) (below_alloc1 w2 (.cells #[.slice p2 n c2] 26)))
  have B2 := Lib.hid ((B1.out.trans (b2.mono B1.out.size)).alloc (Nat.le_trans B1.out.size b2.size) (.cells #[.slice p2 n c2] 26))
  have L2 := Lib.hid l2
  have M2 : W1.heap.size ≤ w2.heap.size := b2.size
  clear o2 b2 X1 O1 B1 x2 l2
  go_upto_region 3 with fail
  obtain ⟨W2, hW⟩ : ∃ W, W = w2.alloc (.cells #[.slice p2 n c2] 26) := ⟨_, rfl⟩
  obtain ⟨m2, hm⟩ : ∃ m, m = w2.heap.size := ⟨_, rfl⟩
  rw [← hW] at X2 O2 X1' O1' B2 ⊢
  rw [← hm] at X2 L2 M2 ⊢
  clear hW hm
  obtain ⟨_, x1, _⟩ := X1'.out
  obtain ⟨_, x2, _⟩ := X2.out
  go_wp2_with fail
  refine (calls_eqSc (xs := ys) (Below.refl _ _) HL.out (own_eq O2.out (rfl : ys = ys) HN.out.symm) (own_eq O1'.out (rfl : ys = ys) HN.out.symm)).mono ?_
  rintro e w3 ⟨rfl, b3⟩
  have X3 := Lib.hid (one_keep b3 X1'.out)
  have Y3 := Lib.hid (one_keep b3 X2.out)
  have O3 := Lib.hid (own_below O1'.out b3)
  have P3 := Lib.hid (own_below O2.out b3)
  have B3 := Lib.hid (B2.out.trans (b3.mono B2.out.size))
  clear x1 x2 X1' X2 O1' O2 B2 b3
  obtain ⟨_, x2, _⟩ := Y3.out
  go_wp2_with fail
  refine (markSc_own _ _ 1 _ _ n ys (by omega) (by omega) P3.out).mono ?_
  rintro e w4 ⟨rfl, p4, g4⟩
  have X4 := Lib.hid (one_grown X3.out g4 (fun e => by have := L2.out m1 e; omega))
  have Y4 := Lib.hid (one_grown Y3.out g4 (fun e => by have := L2.out m2 e; omega))
  have O4 := Lib.hid (own_grownC O3.out g4 (fun g hg e => by have := L2.out g e; have := L1.out g hg; omega))
  have P4 := Lib.hid p4
  have B4 := Lib.hid (B3.out.grown g4 B3.out.size (fun k hk => by have := (L2.out k hk).1; omega))
  clear x2 X3 Y3 O3 P3 B3 p4 g4
  obtain ⟨_, x2, _⟩ := Y4.out
  go_wp2_with fail
  refine (heldSc_any _ _ 1 _ _ n (by omega) (by omega) P4.out).mono ?_
  rintro e w5 ⟨rfl, b5⟩
  have X5 := Lib.hid (one_keep b5 X4.out)
  have Y5 := Lib.hid (one_keep b5 Y4.out)
  have O5 := Lib.hid (own_below O4.out b5)
  have P5 := Lib.hid (own_below P4.out b5)
  have B5 := Lib.hid (B4.out.trans (b5.mono B4.out.size))
  clear x2 X4 Y4 O4 P4 B4 b5
  go_wp2_with fail
  refine (calls_cir (Below.refl _ _) (MI c s _ HE.out _)).mono ?_
  rintro e w6 ⟨v6, rfl, o6, b6⟩
  obtain ⟨p6, c6, rfl, x6, o6, _⟩ := sc_laid (n := n) b6.size HN.out o6
  have Z6 := Lib.hid x6
  have Q6 := Lib.hid o6
  have X6 := Lib.hid (one_al (o := .cells #[.slice p6 n c6] 26) (one_keep b6 X5.out))
  have Y6 := Lib.hid (one_al (o := .cells #[.slice p6 n c6] 26) (one_keep b6 Y5.out))
  have O6 := Lib.hid (own_below (own_below O5.out b6) (below_alloc1 w6 (.cells #[.slice p6 n c6] 26)))
  have P6 := Lib.hid (own_below (own_below P5.out b6) (below_alloc1 w6 (.cells #[.slice p6 n c6] 26)))
  have B6 := Lib.hid ((B5.out.trans (b6.mono B5.out.size)).alloc (Nat.le_trans B5.out.size b6.size) (.cells #[.slice p6 n c6] 26))
  clear o6 b6 x6 X5 Y5 O5 P5 B5
  go_upto_region 14 with fail
  obtain ⟨W6, hW⟩ : ∃ W, W = w6.alloc (.cells #[.slice p6 n c6] 26) := ⟨_, rfl⟩
  obtain ⟨m6, hm⟩ : ∃ m, m = w6.heap.size := ⟨_, rfl⟩
  rw [← hW] at Z6 Q6 X6 Y6 O6 P6 B6 ⊢
  rw [← hm] at Z6 ⊢
  clear hW hm
  obtain ⟨_, x1, _⟩ := X6.out
  obtain ⟨_, x6, _⟩ := Z6.out
  go_wp2_with fail
  refine (calls_eqSc (xs := ys) (Below.refl _ _) HL.out (own_eq Q6.out (rfl : ys = ys) HN.out.symm) (own_eq O6.out (rfl : ys = ys) HN.out.symm)).mono ?_
  rintro e w7 ⟨rfl, b7⟩
  have Y7 := Lib.hid (one_keep b7 Y6.out)
  have P7 := Lib.hid (own_below P6.out b7)
  have B7 := Lib.hid (B6.out.trans (b7.mono B6.out.size))
  clear x1 x6 Z6 Q6 X6 Y6 O6 P6 B6 b7
  obtain ⟨_, x2, _⟩ := Y7.out
  go_wp2_with fail
  refine (heldSc_any _ _ 1 _ _ n (by omega) (by omega) P7.out).mono ?_
  rintro e w8 ⟨rfl, b8⟩
  have B8 := Lib.hid (B7.out.trans (b8.mono B7.out.size))
  clear x2 Y7 P7 B7 b8
  go_wp2_with fail
  go_ret
  exact ⟨rfl, B8.out⟩
end Go.Proofs.Ytppbcjpabmllnaa
