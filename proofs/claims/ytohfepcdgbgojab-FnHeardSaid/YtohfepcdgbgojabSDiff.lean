/- Contract of spec.DifferenceOf. -/
import Derived.Test.YtohfepcdgbgojabSThirds
import Derived.Test.YtohfepcdgbgojabHeardMath
namespace Go.Proofs.Ytohfepcdgbgojab
open Go.RowKit Go.Joins
set_option linter.unusedVariables false
/-- The thirds of a valid circle in a row; ThirdsOf behind a world that is named. -/
def TRow (v : Value) (xs : List Int) (w : World) : Prop := CirOk xs ∧ ∃ b, w.ownsRow b 3 1 v 12 (intCs (thTo xs 12))
theorem trow_keep {v : Value} {xs : List Int} {w w' : World} (h : TRow v xs w) (hb : Below w.heap.size w w') : TRow v xs w' := ⟨h.1, h.2.elim fun b o => ⟨b, own_below o hb⟩⟩
theorem dist_run {v1 v2 : Value} {xs ys : List Int} {w : World} (h1 : TRow v1 xs w) (h2 : TRow v2 ys w) {W : World} (hW : Below W.heap.size W w) : Calls Try.prog 77 #[v1, v2] w fun e w' => e = .returned (.int .i64 (dTo (thTo xs 12) (thTo ys 12) 12)) ∧ Below W.heap.size W w' := by
  obtain ⟨c1, b1, o1⟩ := h1
  obtain ⟨c2, b2, o2⟩ := h2
  exact (dist_spec w b1 b2 _ _ v1 v2 _ _ (fun i => by have := thTo_in c1 i; omega) (fun i => by have := thTo_in c2 i; omega) o1 o2).mono fun _ _ ⟨he, hb⟩ => ⟨he, hW.trans (hb.mono hW.size)⟩
def TwSay (u : Value) (xs : List Int) (W : World) : Prop := ∀ X, Below W.heap.size W X → Calls Try.prog 42 #[cirV u] X fun e w' => ∃ v, e = .returned v ∧ TRow v xs w' ∧ Below X.heap.size X w' ∧ Below W.heap.size W w'
theorem tw_run {u : Value} {xs : List Int} {W : World} (h : TwSay u xs W) (X : World) (hX : Below W.heap.size W X) : Calls Try.prog 42 #[cirV u] X fun e w' => ∃ v, e = .returned v ∧ TRow v xs w' ∧ Below X.heap.size X w' ∧ Below W.heap.size W w' := h X hX
theorem tw_says {u : Value} {xs : List Int} {W : World} {b : Nat} {e : TypeId} (hc : CirOk xs) (h : W.ownsRow b e 1 u xs.length (intCs xs)) : TwSay u xs W := fun X hX => by
  refine (thirds_spec X b e u xs (by have := hc.1; omega) (own_below h hX)).mono ?_
  rintro e1 w1 ⟨v, rfl, o1, b1⟩
  rw [thirdsL_ok hc, thTo_len] at o1
  exact ⟨v, rfl, ⟨hc, _, o1⟩, b1, hX.trans (b1.mono hX.size)⟩
/-- Two boxes. -/
def TwoB (m k : Nat) (u v : Value) (w : World) : Prop := One m u w ∧ One k v w
theorem twoB_keep {m k : Nat} {u v : Value} {w w' : World} (hb : Below w.heap.size w w') (h : TwoB m k u v w) : TwoB m k u v w' := ⟨one_keep hb h.1, one_keep hb h.2⟩
theorem twoB_cells {m k : Nat} {u v : Value} {w : World} (h : TwoB m k u v w) : w.cell? ⟨m, 0, none⟩ = some u ∧ w.cell? ⟨k, 0, none⟩ = some v := ⟨h.1.2.1, h.2.2.1⟩
theorem diff_ret {xs ys : List Int} {d : Int} (hf : DiffAt xs ys d) (h : CirOk xs ∧ CirOk ys) : d = dTo (thTo xs 12) (thTo ys 12) 12 := hf.elim (fun q => q.2) (fun q => absurd h q.1)
theorem diff_no {xs ys : List Int} {d : Int} (hf : DiffAt xs ys d) (h : ¬ (CirOk xs ∧ CirOk ys)) : d = -1 := hf.elim (fun q => absurd q.1 h) (fun q => q.2)
set_option maxRecDepth 100000 in
set_option maxHeartbeats 4000000 in
theorem diff_spec {xs ys : List Int} {d : Int} (hf : DiffAt xs ys d) (w : World) (b1 b2 : Nat) (e1 e2 : TypeId) (v1 v2 : Value) (hx : xs.length ≤ 2000000) (hy : ys.length ≤ 2000000) (h1 : w.ownsRow b1 e1 1 v1 xs.length (intCs xs)) (h2 : w.ownsRow b2 e2 1 v2 ys.length (intCs ys)) :
    Calls Try.prog 52 #[cirV v1, cirV v2] w fun e w' => e = .returned (.int .i64 d) ∧ Below w.heap.size w w' := by
  obtain ⟨W0, hW0⟩ : ∃ W, W = (w.alloc (.cells #[v1] 29)).alloc (.cells #[v2] 29) := ⟨_, rfl⟩
  have b0 : Below w.heap.size w W0 := by rw [hW0]; exact below_alloc2 w _ _
  have C1 := Lib.hid (fun X (hX : Below w.heap.size w X) => cirOk_spec X b1 e1 v1 xs hx (own_below h1 hX))
  have C2 := Lib.hid (fun X (hX : Below w.heap.size w X) => cirOk_spec X b2 e2 v2 ys hy (own_below h2 hX))
  have R1 := Lib.hid (own_below h1 b0)
  have R2 := Lib.hid (own_below h2 b0)
  have B0 := Lib.hid b0
  have TB : Hid (TwoB w.heap.size (w.heap.size + 1) v1 v2 W0) := Lib.hid (by
    rw [hW0]
    refine ⟨one_al one_alloc, ?_⟩
    have h := one_alloc (w := w.alloc (.cells #[v1] 29)) (v := v2) (t := 29)
    rwa [World.size_alloc] at h)
  obtain ⟨p1, c1, hs1⟩ := own_slice h1
  obtain ⟨p2, c2, hs2⟩ := own_slice h2
  have HF := Lib.hid hf
  clear h1 h2 hx hy b0 hf
  generalize xs.length = l1 at hs1 R1
  generalize ys.length = l2 at hs2 R2
  subst hs1
  subst hs2
  go_enter Try.func52, Try.ntmps52
  go_upto_region 1 with fail
  rw [← hW0]
  clear hW0
  obtain ⟨m, hm⟩ : ∃ m, m = w.heap.size := ⟨_, rfl⟩
  rw [← hm] at TB ⊢
  clear hm
  obtain ⟨c0, c1'⟩ := twoB_cells TB.out
  by_cases hc1 : CirOk xs
  · rw [show cirB xs = true from decide_eq_true hc1] at C1
    by_cases hc2 : CirOk ys
    · rw [show cirB ys = true from decide_eq_true hc2] at C2
      have HD := Lib.hid (diff_ret HF.out ⟨hc1, hc2⟩)
      have HC1 := Lib.hid hc1
      have HC2 := Lib.hid hc2
      clear hc1 hc2
      go_wp2_with fail
      refine (C1.out _ B0.out).mono ?_
      rintro e w1 ⟨rfl, b1⟩
      have B1 := Lib.hid (B0.out.trans (b1.mono B0.out.size))
      have T1 := Lib.hid (twoB_keep b1 TB.out)
      have Q1 := Lib.hid (own_below R1.out b1)
      have Q2 := Lib.hid (own_below R2.out b1)
      clear b1 c0 c1' TB R1 R2 B0
      obtain ⟨c0, c1'⟩ := twoB_cells T1.out
      go_wp2_with fail
      refine (C2.out _ B1.out).mono ?_
      rintro e w2 ⟨rfl, b2⟩
      have B2 := Lib.hid (B1.out.trans (b2.mono B1.out.size))
      have T2 := Lib.hid (twoB_keep b2 T1.out)
      have S1 : TwSay (.slice p1 l1 c1) xs w2 := tw_says HC1.out (own_eq (own_below Q1.out b2) (rfl : xs = xs) (by have := Q1.out.1; rw [intCs_len] at this; omega))
      have S2 : TwSay (.slice p2 l2 c2) ys w2 := tw_says HC2.out (own_eq (own_below Q2.out b2) (rfl : ys = ys) (by have := Q2.out.1; rw [intCs_len] at this; omega))
      clear b2 c0 c1' T1 Q1 Q2 B1
      go_upto_region 3 with fail
      go_region_held3 (fun w' => w'.cell? ⟨m, 0, none⟩ = some (.slice p1 l1 c1) ∧ w'.cell? ⟨m + 1, 0, none⟩ = some (.slice p2 l2 c2)) (first | exact twoB_cells (T2.out : TwoB m (m + 1) (.slice p1 l1 c1) (.slice p2 l2 c2) w2) | exact twoB_cells (twoB_keep (by assumption) T2.out))
        (first
          | (go_at_call 42; refine (tw_run (W := w2) (by with_reducible assumption) _ (by with_reducible first | assumption | exact (Below.refl _ _).drew)).mono ?_; rintro e1 w3 ⟨v3, rfl, htr, hbx, hb⟩)
          | (go_at_call 77; refine (dist_run (W := w2) (by with_reducible first | assumption | exact trow_keep (by assumption) (by assumption)) (by with_reducible first | assumption | exact trow_keep (by assumption) (by assumption)) (by with_reducible assumption)).mono ?_; rintro e1 w3 ⟨rfl, hb⟩))
      all_goals
        have B3 := Lib.hid (B2.out.trans (hb.mono B2.out.size))
        rw [← HD.out]
        go_wp2_with fail
        go_ret
        exact ⟨rfl, B3.out⟩
    · rw [show cirB ys = false from decide_eq_false hc2] at C2
      have HD := Lib.hid (diff_no HF.out (fun h => hc2 h.2))
      clear hc1 hc2
      go_wp2_with fail
      refine (C1.out _ B0.out).mono ?_
      rintro e w1 ⟨rfl, b1⟩
      have B1 := Lib.hid (B0.out.trans (b1.mono B0.out.size))
      have T1 := Lib.hid (twoB_keep b1 TB.out)
      clear b1 c0 c1' TB R1 R2 B0
      obtain ⟨c0, c1'⟩ := twoB_cells T1.out
      go_wp2_with fail
      refine (C2.out _ B1.out).mono ?_
      rintro e w2 ⟨rfl, b2⟩
      have B2 := Lib.hid (B1.out.trans (b2.mono B1.out.size))
      clear b2 c0 c1' T1 B1
      go_wp2_with fail
      go_ret
      exact ⟨ret_int HD.out.symm, B2.out⟩
  · rw [show cirB xs = false from decide_eq_false hc1] at C1
    have HD := Lib.hid (diff_no HF.out (fun h => hc1 h.1))
    clear hc1
    go_wp2_with fail
    refine (C1.out _ B0.out).mono ?_
    rintro e w1 ⟨rfl, b1⟩
    have B1 := Lib.hid (B0.out.trans (b1.mono B0.out.size))
    clear b1 c0 c1' TB R1 R2 B0
    go_wp2_with fail
    go_ret
    exact ⟨ret_int HD.out.symm, B1.out⟩
end Go.Proofs.Ytohfepcdgbgojab
