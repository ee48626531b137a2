/- The walk of laws.FnTurned. -/
import Derived.Test.YtohfepcdgbgojabDoorTurnSay
import Derived.Test.YtohfepcdgbgojabDoorDrawCir
import Derived.Test.YtohfepcdgbgojabDoorAtWalks
import Derived.Deep.RegionHeld3
import Derived.Deep.DeepCutAuto
namespace Go.Proofs.YtohfepcdgbgojabDoor
open Go.RowKit Go.Joins
set_option linter.unusedVariables false
/-- Three circles' boxes. -/
abbrev Box3 (m1 m2 m3 : Nat) (v1 v2 v3 : Value) (w : World) : Prop := w.cell? ⟨m1, 0, none⟩ = some v1 ∧ w.cell? ⟨m2, 0, none⟩ = some v2 ∧ w.cell? ⟨m3, 0, none⟩ = some v3
theorem box3_keep {m1 m2 m3 : Nat} {v1 v2 v3 : Value} {W w : World} (hm : m1 < W.heap.size ∧ m2 < W.heap.size ∧ m3 < W.heap.size) (hb : Below W.heap.size W w) (H : Box3 m1 m2 m3 v1 v2 v3 W) : Box3 m1 m2 m3 v1 v2 v3 w :=
  ⟨(hb.cell (p := ⟨m1, 0, none⟩) hm.1).trans H.1, (hb.cell (p := ⟨m2, 0, none⟩) hm.2.1).trans H.2.1, (hb.cell (p := ⟨m3, 0, none⟩) hm.2.2).trans H.2.2⟩
set_option maxRecDepth 100000 in
set_option maxHeartbeats 8000000 in
theorem walk_FnTurned (a0 : Option Addr) (len0 cap0 : Nat) (z0 : List Int) (w : World) (ht : ItoaTab w) (hr : IsRow .u8 w a0 len0 cap0 z0) :
    Calls Tryd.prog 3 #[.slice a0 len0 cap0] w fun e w' => e = .returned (.bool true) ∧ Below w.heap.size w w' := by
  have hlen := (row_len hr).2
  have HT := Lib.hid ht
  clear ht
  by_cases hbig : 1048576 < len0
  · have t0 : decide (1048576 < (len0 : Int)) = true := by simp; omega
    go_enter Tryd.func3, Tryd.ntmps3
    go_wp2_with fail
    refine (bigW_any _ _ _ _ hlen).mono ?_
    rintro e w' ⟨rfl, rfl⟩
    go_wp2_with fail
    go_ret
    exact ⟨rfl, Below.refl _ _⟩
  · have t0 : decide (1048576 < (len0 : Int)) = false := by simp; omega
    have HR := Lib.hid hr
    obtain ⟨u, hu, hat⟩ := at_fix hr (by omega) 0 (by omega)
    obtain ⟨u', hu', hat'⟩ := at_fix hr (by omega) 1 (by omega)
    have AT := Lib.hid hat
    have AT' := Lib.hid hat'
    have HLEN := Lib.hid hlen
    clear hr hbig hlen hat hat'
    go_enter Tryd.func3, Tryd.ntmps3
    go_wp2_with fail
    refine (bigW_any _ _ _ _ HLEN.out).mono ?_
    rintro e w' ⟨rfl, rfl⟩
    rw [t0]
    go_wp2_with fail
    clear t0
    refine (drawCircle_any HR.out).mono ?_
    rintro e w1 ⟨xs, p, cc, ok, rfl, o1, b1⟩
    have OK := Lib.hid ok
    have X1 := Lib.hid (one_alloc (w := w1) (v := .slice p 12 cc) (t := 26))
    have O1 := Lib.hid (own_below o1 (below_alloc1 w1 (.cells #[.slice p 12 cc] 26)))
    have B1 := Lib.hid (b1.alloc b1.size (.cells #[.slice p 12 cc] 26))
    clear ok o1 b1 HR HLEN
    go_upto_region 4 with fail
    obtain ⟨W1, hW⟩ : ∃ W, W = w1.alloc (.cells #[.slice p 12 cc] 26) := ⟨_, rfl⟩
    obtain ⟨mc, hm⟩ : ∃ m, m = w1.heap.size := ⟨_, rfl⟩
    rw [← hW] at X1 O1 B1 ⊢
    rw [← hm] at X1 ⊢
    clear hW hm
    obtain ⟨n, hnn⟩ : ∃ r : Nat, r = u % 12 := ⟨_, rfl⟩
    obtain ⟨r, hrr⟩ : ∃ r : Nat, r = u' % 12 := ⟨_, rfl⟩
    have hn12 : n < 12 := by omega
    have hr12 : r < 12 := by omega
    have HRR := Lib.hid hrr
    have htn : (u : Int).tmod 12 = (n : Int) := by rw [Int.tmod_eq_emod_of_nonneg (by omega)]; omega
    have htr : (u' : Int).tmod 12 = (r : Int) := by rw [Int.tmod_eq_emod_of_nonneg (by omega)]; omega
    have HNN := Lib.hid hnn
    clear hnn hrr
    go_cut [4] (fun s wx => s = .int .i64 (n : Int) ∧ wx = W1)
    case first =>
      go_wp2_with fail
      refine (AT.out _ B1.out).mono ?_
      rintro e w2 ⟨rfl, rfl⟩
      go_wp2_with fail
      go_meet
      first
        | exact ⟨rfl, rfl⟩
        | exact ⟨congrArg (Value.int .i64) (by have := HNN.out; omega), rfl⟩
        | exact ⟨congrArg (Value.int .i64) htn, rfl⟩
    case rest =>
      obtain ⟨rfl, hwx⟩ := hcut
      rw [hwx]
      clear hwx
      go_upto_region 5 with fail
      go_cut [5] (fun s wx => s = .int .i64 (r : Int) ∧ wx = W1)
      case first =>
        go_wp2_with fail
        refine (AT'.out _ B1.out).mono ?_
        rintro e w2 ⟨rfl, rfl⟩
        go_wp2_with fail
        go_meet
        first
          | exact ⟨rfl, rfl⟩
          | exact ⟨congrArg (Value.int .i64) (by have := HRR.out; omega), rfl⟩
          | exact ⟨congrArg (Value.int .i64) htr, rfl⟩
      case rest =>
        obtain ⟨rfl, hwx⟩ := hcut
        rw [hwx]
        clear hwx htr hu hu' AT AT' htn HNN HRR
        obtain ⟨_, c1, _⟩ := X1.out
        go_wp2_with fail
        refine (turn_of OK.out O1.out hn12).mono ?_
        rintro e w2 ⟨p2, k2, rfl, o2, b2⟩
        have A2 := below_alloc1 w2 (.cells #[.slice p2 12 k2] 26)
        have BB2 := b2.trans (A2.mono b2.size)
        have X2 := Lib.hid (one_alloc (w := w2) (v := .slice p2 12 k2) (t := 26))
        have O2 := Lib.hid (own_below o2 A2)
        have C2 := Lib.hid (one_keep BB2 X1.out)
        have Q2 := Lib.hid (own_below O1.out BB2)
        have B2 := Lib.hid (B1.out.trans (BB2.mono B1.out.size))
        clear o2 b2 A2 BB2 c1 X1 O1 B1
        go_upto_region 7 with fail
        obtain ⟨W2, hW⟩ : ∃ W, W = w2.alloc (.cells #[.slice p2 12 k2] 26) := ⟨_, rfl⟩
        obtain ⟨mt, hm⟩ : ∃ m, m = w2.heap.size := ⟨_, rfl⟩
        rw [← hW] at X2 O2 C2 Q2 B2 ⊢
        rw [← hm] at X2 ⊢
        clear hW hm
        obtain ⟨_, c2, _⟩ := X2.out
        obtain ⟨l, hl⟩ : ∃ l, l = (12 - n) % 12 := ⟨_, rfl⟩
        have hl12 : l < 12 := by omega
        have vl : (IntKind.i64.wrap ((12 : Int) - (n : Int))).tmod 12 = (l : Int) := by rw [IntWalk.i64_in _ (by omega), Int.tmod_eq_emod_of_nonneg (by omega)]; omega
        have vl2 : ((12 : Int) - (n : Int)).tmod 12 = (l : Int) := by rw [Int.tmod_eq_emod_of_nonneg (by omega)]; omega
        have TB := turn_back (xs := xs) OK.out.1 hn12
        rw [← hl] at TB
        have TU := Lib.hid (turn_of (turn_ok OK.out n) O2.out hl12)
        rw [TB] at TU
        clear hl TB
        go_wp2_with fail
        refine TU.out.mono ?_
        rintro e w3 ⟨p3, k3, rfl, o3, b3⟩
        have A3 := below_alloc1 w3 (.cells #[.slice p3 12 k3] 26)
        have BB3 := b3.trans (A3.mono b3.size)
        have X3 := Lib.hid (one_alloc (w := w3) (v := .slice p3 12 k3) (t := 26))
        have O3 := Lib.hid (own_below o3 A3)
        have Y3 := Lib.hid (one_keep BB3 X2.out)
        have P3 := Lib.hid (own_below O2.out BB3)
        have C3 := Lib.hid (one_keep BB3 C2.out)
        have Q3 := Lib.hid (own_below Q2.out BB3)
        have B3 := Lib.hid (B2.out.trans (BB3.mono B2.out.size))
        clear o3 b3 A3 BB3 c2 X2 O2 C2 Q2 B2 TU vl vl2 hl12
        go_upto_region 8 with fail
        obtain ⟨V, hW⟩ : ∃ W, W = w3.alloc (.cells #[.slice p3 12 k3] 26) := ⟨_, rfl⟩
        obtain ⟨mu, hm⟩ : ∃ m, m = w3.heap.size := ⟨_, rfl⟩
        rw [← hW] at X3 O3 Y3 P3 C3 Q3 B3 ⊢
        rw [← hm] at X3 ⊢
        clear hW hm
        obtain ⟨j, hj⟩ : ∃ j, j = (r + n) % 12 := ⟨_, rfl⟩
        have hj12 : j < 12 := by omega
        have vj : (IntKind.i64.wrap ((r : Int) + (n : Int))).tmod 12 = (j : Int) := by rw [IntWalk.i64_in _ (by omega), Int.tmod_eq_emod_of_nonneg (by omega)]; omega
        obtain ⟨y, hy⟩ : ∃ y, y = cycTo xs j 4 := ⟨_, rfl⟩
        have hy' : y = cycTo (turnTo xs n 12) r 4 := by rw [turn_cyc, ← hj]; exact hy
        have PT := pt_of (turn_ok OK.out n) P3.out hr12 hy'
        have PC := pt_of OK.out Q3.out hj12 hy
        have VT := tv_of (turn_ok OK.out n) P3.out hr12 hy'
        have VC := tv_of OK.out Q3.out hj12 hy
        have TU := tx_of OK.out O3.out (HT.out.below B3.out HT.out.lt)
        have TC := tx_of OK.out Q3.out (HT.out.below B3.out HT.out.lt)
        have hne := text_some OK.out
        generalize cirT xs = L at TU TC hne
        obtain ⟨s, hs⟩ : ∃ s : ByteArray, s = ⟨L.toArray⟩ := ⟨_, rfl⟩
        rw [← hs] at TU TC
        have hne2 : s.toList ≠ [] := fun e => hne (by rw [hs, ByteArray.toList_mk] at e; exact e)
        have hb2 : (s.toList == []) = false := by simpa using hne2
        have hb4 : s.toList.isEmpty = false := by cases hq : s.toList with
          | nil => exact absurd hq hne2
          | cons a l => rfl
        have hyy : (y == y) = true := by simp
        generalize (thV y).two = i1 at VT VC
        generalize (thV y).three = i2 at VT VC
        generalize (thV y).five = i3 at VT VC
        generalize (thV y).root = i4 at VT VC
        have B3' : Hid (Box3 mc mt mu (.slice p 12 cc) (.slice p2 12 k2) (.slice p3 12 k3) V) := Lib.hid ⟨C3.out.2.1, Y3.out.2.1, X3.out.2.1⟩
        have HM : Hid (mc < V.heap.size ∧ mt < V.heap.size ∧ mu < V.heap.size) := Lib.hid ⟨C3.out.1, Y3.out.1, X3.out.1⟩
        clear hs hne hy hy' hj X3 O3 Y3 P3 C3 Q3
        go_region_held3 (fun w' => w'.cell? ⟨mc, 0, none⟩ = some (.slice p 12 cc) ∧ w'.cell? ⟨mt, 0, none⟩ = some (.slice p2 12 k2) ∧ w'.cell? ⟨mu, 0, none⟩ = some (.slice p3 12 k3)) (with_reducible first | exact box3_keep HM.out (Below.refl _ _).drew B3'.out | exact box3_keep HM.out (by assumption) B3'.out)
          (first
            | (go_at_call 11; refine (calls_fromF (W := V) (by with_reducible first | assumption | exact (Below.refl _ _).drew) (pt_run (by with_reducible assumption) _ (by with_reducible first | assumption | exact (Below.refl _ _).drew))).mono ?_; rintro e1 w3 ⟨rfl, hb⟩)
            | (go_at_call 12; refine (calls_fromF (W := V) (by with_reducible first | assumption | exact (Below.refl _ _).drew) (tx_run (by with_reducible assumption) _ (by with_reducible first | assumption | exact (Below.refl _ _).drew))).mono ?_; rintro e1 w3 ⟨rfl, hb⟩)
            | (go_at_call 13; refine (calls_fromF (W := V) (by with_reducible first | assumption | exact (Below.refl _ _).drew) (tv_run (by with_reducible assumption) _ (by with_reducible first | assumption | exact (Below.refl _ _).drew))).mono ?_; rintro e1 w3 ⟨rfl, hb⟩))
        all_goals
          go_wp2_with fail
          go_ret
          exact ⟨rfl, B3.out.trans (hb.mono B3.out.size)⟩
end Go.Proofs.YtohfepcdgbgojabDoor
