/- The walk of laws.FnExactHiddenCommas. -/
import Derived.Test.YtfhefakacjkmiaaDoorHidComs
namespace Go.Proofs.YtfhefakacjkmiaaDoor
open Go.RowKit Go.Joins
set_option linter.unusedVariables false
theorem tri_grown {w w' : World} {m : Nat} {p q r : Int} {o : Option Nat} (h : Tri m p q r w) (hg : w.grownBy w' o) (ho : ∀ g, o = some g → m ≠ g) : Tri m p q r w' := by
  have hb : w'.heap[m]? = w.heap[m]? := hg.block m h.1 (fun e => ho m e.symm rfl)
  have hc : ∀ i, w'.cell? ⟨m, i, none⟩ = w.cell? ⟨m, i, none⟩ := fun i => World.cell?_of_block (a := ⟨m, i, none⟩) hb
  exact ⟨Nat.lt_of_lt_of_le h.1 hg.size, (hc 0).trans h.2.1, (hc 1).trans h.2.2.1, (hc 2).trans h.2.2.2⟩
set_option maxRecDepth 100000 in
set_option maxHeartbeats 4000000 in
theorem walk_FnExactHiddenCommas (A : Addr) (a b c : Int) (l : Int) (w : World) (hs : SenAt A w) (_ : (Lit.int .i64 l).wf = true) :
    Calls Tryd.prog 5 #[mapV a b c, .int .i64 l] w fun e w' => e = .returned (.bool true) ∧ Below w.heap.size w w' := by
  obtain ⟨p, hp⟩ := hidP_ex a b c
  obtain ⟨xs, hxs⟩ : ∃ xs, xs = (comList l).filter p := ⟨_, rfl⟩
  have hlen : xs.length ≤ 400 := by
    have h1 := List.length_filter_le p (comList l)
    have h2 := comList_len l
    rw [hxs]
    omega
  have SS := Lib.hid (fun w => hidden_spec hp l w)
  have SI := Lib.hid (fun w hs => hidden_impl A hp l w hs)
  have HXS := Lib.hid hxs
  have HS := Lib.hid hs
  clear hp hxs hs
  go_enter Tryd.func5, Tryd.ntmps5
  go_upto_region 1 with fail
  obtain ⟨W0, hW0⟩ : ∃ W0, W0 = w.alloc (.cells #[.int .i64 a, .int .i64 b, .int .i64 c] 46) := ⟨_, rfl⟩
  have F0 : Hid (Tri w.heap.size a b c W0) := Lib.hid (by rw [hW0]; exact tri_alloc)
  have B0 : Hid (Below w.heap.size w W0) := Lib.hid (by rw [hW0]; exact below_alloc1 w _)
  rw [← hW0]
  clear hW0
  generalize hn : w.heap.size = n at F0 ⊢
  have HN := Lib.hid hn
  clear hn
  obtain ⟨_, z0, z1, z2⟩ := F0.out
  go_wp2_with fail
  refine (toMap_any _ _ _ _).mono ?_
  rintro e w1 ⟨rfl, b1⟩
  clear z0 z1 z2
  have B1 := Lib.hid (B0.out.trans (b1.mono B0.out.size))
  have F1 := Lib.hid (tri_keep b1 F0.out)
  clear b1 B0 F0
  go_wp2_with fail
  refine (SS.out _).mono ?_
  rintro e w2 ⟨⟨vw, rfl, p2⟩, b2⟩
  have P2 : Hid (OwnC w1.heap.size vw xs w2) := Lib.hid (by rw [HXS.out]; exact p2)
  clear p2
  have B2 := Lib.hid (B1.out.trans (b2.mono B1.out.size))
  have F2 := Lib.hid (tri_keep b2 F1.out)
  clear b2 B1 F1
  obtain ⟨_, z0, z1, z2⟩ := F2.out
  go_wp2_with fail
  refine (toMap_any _ _ _ _).mono ?_
  rintro e w3 ⟨rfl, b3⟩
  clear z0 z1 z2
  have B3 := Lib.hid (B2.out.trans (b3.mono B2.out.size))
  have F3 := Lib.hid (tri_keep b3 F2.out)
  have P3 := Lib.hid (ownC_below P2.out b3)
  clear b3 B2 F2 P2
  go_wp2_with fail
  refine (SI.out _ (senAt_below HS.out B3.out)).mono ?_
  rintro e w4 ⟨⟨vg, rfl, q4⟩, b4⟩
  have Q4 : Hid (OwnC w3.heap.size vg xs w4) := Lib.hid (by rw [HXS.out]; exact q4)
  clear q4
  have S3 := Lib.hid (show n < w3.heap.size from F3.out.1)
  have LW := Lib.hid (fun g (hg : vw.ownBlock = some g) => (P3.out.lt g hg).2)
  have B4 := Lib.hid (B3.out.trans (b4.mono B3.out.size))
  have F4 := Lib.hid (tri_keep b4 F3.out)
  have P4 := Lib.hid (ownC_below P3.out b4)
  clear b4 B3 F3 P3
  go_wp2_with fail
  refine (eqC _ _ _ _ _ xs (by omega) Q4.out P4.out).mono ?_
  rintro e w5 ⟨rfl, b5⟩
  have B5 := Lib.hid (B4.out.trans (b5.mono B4.out.size))
  have F5 := Lib.hid (tri_keep b5 F4.out)
  have P5 := Lib.hid (ownC_below P4.out b5)
  have Q5 := Lib.hid (ownC_below Q4.out b5)
  clear b5 B4 F4 P4 Q4
  go_wp2_with fail
  refine (markC _ _ _ xs (by omega) Q5.out).mono ?_
  rintro e w6 ⟨rfl, q6, g6⟩
  have LG := Lib.hid (fun g (hg : vg.ownBlock = some g) => (Q5.out.lt g hg).1)
  have B6 := Lib.hid (B5.out.grown g6 B5.out.size (fun j hj => Nat.le_trans (by rw [HN.out]; exact Nat.le_of_lt S3.out) (LG.out j hj)))
  have P6 := Lib.hid (ownC_apart P5.out g6 (fun g hg e => by have := LW.out g hg; have := LG.out g e; omega))
  have F6 := Lib.hid (tri_grown F5.out g6 (fun g hg => by have := LG.out g hg; have := S3.out; omega))
  have Q6 := Lib.hid q6
  clear q6 g6 B5 P5 Q5 F5
  obtain ⟨z, hz⟩ : ∃ z : Int, z = 1 + 4 * (xs.length : Int) := ⟨_, rfl⟩
  have z9 : ¬ z < 0 := by omega
  have z8 : (z != z) = false := by simp
  have HZ := Lib.hid hz
  rw [← hz]
  clear hz
  go_wp2_with fail
  refine (heldC _ _ _ xs (by omega) Q6.out).mono ?_
  rintro e w7 ⟨rfl, rfl⟩
  rw [← HZ.out]
  obtain ⟨_, z0, z1, z2⟩ := F6.out
  go_wp2_with fail
  refine (toMap_any _ _ _ _).mono ?_
  rintro e w8 ⟨rfl, b8⟩
  clear z0 z1 z2
  have B8 := Lib.hid (B6.out.trans (b8.mono B6.out.size))
  have F8 := Lib.hid (tri_keep b8 F6.out)
  have P8 := Lib.hid (ownC_below P6.out b8)
  have Q8 := Lib.hid (ownC_below Q6.out b8)
  clear b8 B6 F6 P6 Q6
  go_wp2_with fail
  refine (SI.out _ (senAt_below HS.out B8.out)).mono ?_
  rintro e w9 ⟨⟨vh, rfl, r9⟩, b9⟩
  have R9 : Hid (OwnC w8.heap.size vh xs w9) := Lib.hid (by rw [HXS.out]; exact r9)
  clear r9
  have B9 := Lib.hid (B8.out.trans (b9.mono B8.out.size))
  have F9 := Lib.hid (tri_keep b9 F8.out)
  have P9 := Lib.hid (ownC_below P8.out b9)
  have Q9 := Lib.hid (ownC_below Q8.out b9)
  clear b9 B8 F8 P8 Q8
  go_wp2_with fail
  refine (eqC _ _ _ _ _ xs (by omega) R9.out P9.out).mono ?_
  rintro e w10 ⟨rfl, b10⟩
  have B10 := Lib.hid (B9.out.trans (b10.mono B9.out.size))
  have F10 := Lib.hid (tri_keep b10 F9.out)
  have Q10 := Lib.hid (ownC_below Q9.out b10)
  clear b10 B9 F9 Q9 P9 R9
  go_wp2_with fail
  refine (heldC _ _ _ xs (by omega) Q10.out).mono ?_
  rintro e w11 ⟨rfl, rfl⟩
  rw [← HZ.out]
  go_wp2_with fail
  go_ret
  exact ⟨rfl, HN.out ▸ B10.out⟩
end Go.Proofs.YtfhefakacjkmiaaDoor
