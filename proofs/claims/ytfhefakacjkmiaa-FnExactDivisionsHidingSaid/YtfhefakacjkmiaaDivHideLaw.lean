/- The walk of laws.FnExactDivisionsHiding. -/
import Derived.Test.YtfhefakacjkmiaaDivHide
import Derived.Test.YtfhefakacjkmiaaMarkOwn
import Derived.Test.YtfhefakacjkmiaaToneWalks
namespace Go.Proofs.Ytfhefakacjkmiaa
open Go.RowKit Go.Joins
set_option linter.unusedVariables false
/-- A row is kept where another block is written. -/
theorem own_apart {w w' : World} {base : Nat} {e : TypeId} {v : Value} {n : Nat} {xs : List Value} {r : Option Nat} (h : w.ownsRow base e 1 v n xs) (hg : w.grownBy w' r) (hr : ∀ g, v.ownBlock = some g → r ≠ some g) : w'.ownsRow base e 1 v n xs := by
  refine h.kept hg ?_
  cases hv : v.ownBlock
  · exact .inl rfl
  · exact .inr (fun e => hr _ hv e.symm)
theorem four_grown {w w' : World} {m : Nat} {p q r s : Int} {o : Option Nat} (h : Four m p q r s w) (hg : w.grownBy w' o) (ho : ∀ g, o = some g → m ≠ g) : Four m p q r s w' := by
  have hb : w'.heap[m]? = w.heap[m]? := hg.block m h.1 (fun e => ho m e.symm rfl)
  have hc : ∀ i, w'.cell? ⟨m, i, none⟩ = w.cell? ⟨m, i, none⟩ := fun i => World.cell?_of_block (a := ⟨m, i, none⟩) hb
  exact ⟨Nat.lt_of_lt_of_le h.1 hg.size, (hc 0).trans h.2.1, (hc 1).trans h.2.2.1, (hc 2).trans h.2.2.2.1, (hc 3).trans h.2.2.2.2⟩
set_option maxRecDepth 100000 in
set_option maxHeartbeats 4000000 in
theorem walk_FnExactDivisionsHiding (t h f d : Int) (m : Int) (wm : (Lit.int .i64 m).wf = true) (w : World) :
    Calls Try.prog 4 #[ivV t h f d, .int .i64 m] w fun e w' => e = .returned (.bool true) ∧ Below w.heap.size w w' := by
  obtain ⟨xs, hx⟩ := divAt_ex t h f d m
  have LX := divAt_len hx
  have SS := Lib.hid (fun w => div_spec hx w)
  have SI := Lib.hid (fun w => div_impl hx w)
  obtain ⟨l, hl⟩ : ∃ l, l = xs.length := ⟨_, rfl⟩
  have hl3 : l ≤ 40 := by omega
  have HLEN := Lib.hid (show xs.length ≤ 2000000 from by omega)
  have HL := Lib.hid hl
  clear hx LX hl wm
  go_enter Try.func4, Try.ntmps4
  go_upto_region 1 with fail
  obtain ⟨W0, hW0⟩ : ∃ W0, W0 = w.alloc (.cells #[.int .i64 t, .int .i64 h, .int .i64 f, .int .i64 d] 25) := ⟨_, rfl⟩
  have F0 : Hid (Four w.heap.size t h f d W0) := Lib.hid (by rw [hW0]; exact four_alloc)
  have B0 : Hid (Below w.heap.size w W0) := Lib.hid (by rw [hW0]; exact below_alloc1 w _)
  rw [← hW0]
  clear hW0
  generalize hn : w.heap.size = n at F0 ⊢
  have HN := Lib.hid hn
  clear hn
  obtain ⟨_, z0, z1, z2, z3⟩ := F0.out
  go_wp2_with fail
  refine (toInterval_any _ _ _ _ _).mono ?_
  rintro e w1 ⟨rfl, b1⟩
  clear z0 z1 z2 z3
  have B1 := Lib.hid (B0.out.trans (b1.mono B0.out.size))
  have F1 := Lib.hid (four_keep b1 F0.out)
  clear b1 B0 F0
  go_wp2_with fail
  refine (SS.out _).mono ?_
  rintro e w2 ⟨vw, rfl, p2, b2⟩
  have P2 := Lib.hid p2
  clear p2
  have B2 := Lib.hid (B1.out.trans (b2.mono B1.out.size))
  have F2 := Lib.hid (four_keep b2 F1.out)
  clear b2 B1 F1
  obtain ⟨_, z0, z1, z2, z3⟩ := F2.out
  go_wp2_with fail
  refine (toInterval_any _ _ _ _ _).mono ?_
  rintro e w3 ⟨rfl, b3⟩
  clear z0 z1 z2 z3
  have B3 := Lib.hid (B2.out.trans (b3.mono B2.out.size))
  have F3 := Lib.hid (four_keep b3 F2.out)
  have P3 := Lib.hid (own_below P2.out b3)
  clear b3 B2 F2 P2
  go_wp2_with fail
  refine (SI.out _).mono ?_
  rintro e w4 ⟨vg, rfl, q4, b4⟩
  have Q4 := Lib.hid q4
  clear q4
  have S3 := Lib.hid (show n < w3.heap.size from F3.out.1)
  have LW := Lib.hid (fun g (hg : vw.ownBlock = some g) => (P3.out.lt g hg).2)
  have B4 := Lib.hid (B3.out.trans (b4.mono B3.out.size))
  have F4 := Lib.hid (four_keep b4 F3.out)
  have P4 := Lib.hid (own_below P3.out b4)
  clear b4 B3 F3 P3
  go_wp2_with fail
  refine (eqInts_any w4 _ _ _ _ vg vw xs xs HLEN.out HLEN.out Q4.out P4.out).mono ?_
  rintro e w5 ⟨rfl, b5⟩
  rw [decide_eq_true (rfl : xs = xs)]
  have B5 := Lib.hid (B4.out.trans (b5.mono B4.out.size))
  have F5 := Lib.hid (four_keep b5 F4.out)
  have P5 := Lib.hid (own_below P4.out b5)
  have Q5 := Lib.hid (own_below Q4.out b5)
  clear b5 B4 F4 P4 Q4
  have Q5' : Hid (w5.ownsRow w3.heap.size 3 1 vg l (intCs xs)) := Lib.hid (by rw [HL.out]; exact Q5.out)
  go_wp2_with fail
  refine (markInts_own w5 _ 1 _ vg l xs (by omega) (by omega) Q5'.out).mono ?_
  rintro e w6 ⟨rfl, q6, g6⟩
  have LG := Lib.hid (fun g (hg : vg.ownBlock = some g) => (Q5.out.lt g hg).1)
  have B6 := Lib.hid (B5.out.grown g6 B5.out.size (fun j hj => Nat.le_trans (by rw [HN.out]; exact Nat.le_of_lt S3.out) (LG.out j hj)))
  have P6 := Lib.hid (own_apart P5.out g6 (fun g hg e => by have := LW.out g hg; have := LG.out g e; omega))
  have F6 := Lib.hid (four_grown F5.out g6 (fun g hg => by have := LG.out g hg; have := S3.out; omega))
  have Q6 := Lib.hid q6
  clear q6 g6 B5 P5 Q5 Q5' F5
  have t0 : ¬ ((1 : Int) + l) < 0 := by omega
  go_wp2_with fail
  refine (heldInts_any w6 _ 1 _ vg l (by omega) (by omega) Q6.out).mono ?_
  rintro e w7 ⟨rfl, b7⟩
  have B7 := Lib.hid (B6.out.trans (b7.mono B6.out.size))
  have F7 := Lib.hid (four_keep b7 F6.out)
  have P7 := Lib.hid (own_below P6.out b7)
  have Q7 := Lib.hid (own_below Q6.out b7)
  clear b7 B6 F6 P6 Q6
  obtain ⟨_, z0, z1, z2, z3⟩ := F7.out
  go_wp2_with fail
  refine (toInterval_any _ _ _ _ _).mono ?_
  rintro e w8 ⟨rfl, b8⟩
  clear z0 z1 z2 z3
  have B8 := Lib.hid (B7.out.trans (b8.mono B7.out.size))
  have F8 := Lib.hid (four_keep b8 F7.out)
  have P8 := Lib.hid (own_below P7.out b8)
  have Q8 := Lib.hid (own_below Q7.out b8)
  clear b8 B7 F7 P7 Q7
  go_wp2_with fail
  refine (SI.out _).mono ?_
  rintro e w9 ⟨vh, rfl, r9, b9⟩
  have R9 := Lib.hid r9
  clear r9
  have B9 := Lib.hid (B8.out.trans (b9.mono B8.out.size))
  have F9 := Lib.hid (four_keep b9 F8.out)
  have P9 := Lib.hid (own_below P8.out b9)
  have Q9 := Lib.hid (own_below Q8.out b9)
  clear b9 B8 F8 P8 Q8
  go_wp2_with fail
  refine (eqInts_any w9 _ _ _ _ vh vw xs xs HLEN.out HLEN.out R9.out P9.out).mono ?_
  rintro e w10 ⟨rfl, b10⟩
  rw [decide_eq_true (rfl : xs = xs)]
  have B10 := Lib.hid (B9.out.trans (b10.mono B9.out.size))
  have F10 := Lib.hid (four_keep b10 F9.out)
  have Q10 := Lib.hid (own_below Q9.out b10)
  clear b10 B9 F9 Q9 P9 R9
  go_wp2_with fail
  refine (heldInts_any w10 _ 1 _ vg l (by omega) (by omega) Q10.out).mono ?_
  rintro e w11 ⟨rfl, b11⟩
  have B11 := Lib.hid (B10.out.trans (b11.mono B10.out.size))
  clear b11 B10 Q10 F10
  go_wp2_with fail
  go_ret
  exact ⟨rfl, HN.out ▸ B11.out⟩
end Go.Proofs.Ytfhefakacjkmiaa
