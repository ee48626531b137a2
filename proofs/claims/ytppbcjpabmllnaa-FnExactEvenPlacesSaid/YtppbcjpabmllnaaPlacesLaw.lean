/- The walk of laws.FnExactEvenPlaces over the program's contract. -/
import Derived.Test.YtppbcjpabmllnaaSEven
import Derived.Test.YtppbcjpabmllnaaEvenImpl
import Derived.Test.YtppbcjpabmllnaaMarkOwn
import Derived.Deep.RegionWith
namespace Go.Proofs.Ytppbcjpabmllnaa
open Go.RowKit Go.Joins
set_option linter.unusedVariables false
set_option maxRecDepth 100000 in
set_option maxHeartbeats 4000000 in
theorem walk_EvenPlacesBy (PI : PlacesImpl) (c s : Int) (w : World) (hc : (Lit.int .i64 c).wf = true) (hs : (Lit.int .i64 s).wf = true) :
    Calls Try.prog 4 #[.int .i64 c, .int .i64 s] w fun e w' => e = .returned (.bool true) ∧ Below w.heap.size w w' := by
  obtain ⟨ys, hy⟩ : ∃ ys, EvAt c s ys := ⟨_, rfl⟩
  have HE := Lib.hid hy
  have hyl : ys.length ≤ 12 := by rw [hy]; exact evF_len c s
  obtain ⟨n, hn⟩ : ∃ n, n = ys.length := ⟨_, rfl⟩
  have HN := Lib.hid hn
  have HL := Lib.hid (show ys.length ≤ 2000000 from by omega)
  have hn12 : n ≤ 12 := by omega
  clear hy hn hyl hc hs
  go_enter Try.func4, Try.ntmps4
  go_wp2_with fail
  refine (places_spec HE.out _).mono ?_
  rintro e w1 ⟨v1, rfl, o1, b1⟩
  have O1 := Lib.hid o1
  have L1 := Lib.hid (fun g hg => (o1.lt g hg).2)
  have B1 := Lib.hid b1
  clear o1 b1
  go_wp2_with fail
  refine (PI c s _ HE.out _).mono ?_
  rintro e w2 ⟨v2, rfl, o2, b2⟩
  have P2 := Lib.hid o2
  have L2 := Lib.hid (fun g hg => (o2.lt g hg).1)
  have O2 := Lib.hid (own_below O1.out b2)
  have B2 := Lib.hid (B1.out.trans (b2.mono B1.out.size))
  have N1 : w.heap.size ≤ w1.heap.size := B1.out.size
  clear o2 b2 O1 B1
  go_wp2_with fail
  refine (eqInts_any w2 _ _ _ _ v2 v1 ys ys HL.out HL.out P2.out O2.out).mono ?_
  rintro e w3 ⟨rfl, b3⟩
  rw [decide_eq_true (rfl : ys = ys)]
  have O3 := Lib.hid (own_below O2.out b3)
  have P3 : Hid (w3.ownsRow w1.heap.size 3 1 v2 n (intCs ys)) := Lib.hid (by rw [HN.out]; exact own_below P2.out b3)
  have B3 := Lib.hid (B2.out.trans (b3.mono B2.out.size))
  clear b3 O2 P2 B2
  go_wp2_with fail
  refine (markInts_own w3 _ 1 _ v2 n ys (by omega) (by omega) P3.out).mono ?_
  rintro e w4 ⟨rfl, o4, g4⟩
  have O4 := Lib.hid (own_grownC O3.out g4 (fun g hg e => by have := L1.out g hg; have := L2.out g e; omega))
  have P4 := Lib.hid o4
  have B4 := Lib.hid (B3.out.grown g4 B3.out.size (fun k hk => by have := L2.out k hk; omega))
  clear o4 g4 O3 P3 B3
  have t1 : ¬ ((1 : Int) + n) < 0 := by omega
  go_wp2_with fail
  refine (heldInts_any w4 _ 1 _ v2 n (by omega) (by omega) P4.out).mono ?_
  rintro e w5 ⟨rfl, b5⟩
  have O5 := Lib.hid (own_below O4.out b5)
  have P5 := Lib.hid (own_below P4.out b5)
  have B5 := Lib.hid (B4.out.trans (b5.mono B4.out.size))
  clear b5 O4 P4 B4
  go_wp2_with fail
  refine (PI c s _ HE.out _).mono ?_
  rintro e w6 ⟨v6, rfl, o6, b6⟩
  have Q6 := Lib.hid o6
  have O6 := Lib.hid (own_below O5.out b6)
  have P6 := Lib.hid (own_below P5.out b6)
  have B6 := Lib.hid (B5.out.trans (b6.mono B5.out.size))
  clear o6 b6 O5 P5 B5
  go_wp2_with fail
  refine (eqInts_any w6 _ _ _ _ v6 v1 ys ys HL.out HL.out Q6.out O6.out).mono ?_
  rintro e w7 ⟨rfl, b7⟩
  rw [decide_eq_true (rfl : ys = ys)]
  have P7 := Lib.hid (own_below P6.out b7)
  have B7 := Lib.hid (B6.out.trans (b7.mono B6.out.size))
  clear b7 Q6 O6 P6 B6
  go_wp2_with fail
  refine (heldInts_any w7 _ 1 _ v2 n (by omega) (by omega) P7.out).mono ?_
  rintro e w8 ⟨rfl, b8⟩
  have B8 := Lib.hid (B7.out.trans (b8.mono B7.out.size))
  clear b8 P7 B7
  go_wp2_with fail
  go_ret
  exact ⟨rfl, B8.out⟩
end Go.Proofs.Ytppbcjpabmllnaa
