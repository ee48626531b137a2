/- Maps keyed by ints as functions: map[int]int (MapF) and map[int]bool (MapB): made, looked up, stored into, deleted from. -/
import Derived.Test.YtbklnlmijkclmaaPlanLoop
import Derived.Test.YtbklnlmijkclmaaSprImpl
import Derived.Maps.OwnSet
import Derived.Laws.EntriesVeiled
namespace Go.Proofs.Ytbklnlmijkclmaa
open Go.RowKit Go.Joins Go.Maps
set_option linter.unusedVariables false
theorem lawInt : Keyed Try.prog 3 := int_keyed Try.underlying3
theorem zeroInt (w : World) : (zeroValue 3).run Try.prog w = .ok (.int .i64 0) w := by kernel_rfl
theorem zeroBool (w : World) : (zeroValue 4).run Try.prog w = .ok (.bool false) w := by kernel_rfl
theorem plainBool_inv {v : Value} {z : DataW Unit × List MemPlace} (h : plainElem Try.prog 4 v = some z) : ∃ x, v = .bool x ∧ z = (.lit (.bool x), []) := by
  unfold plainElem at h
  rw [Try.underlying4] at h
  cases v <;> simp at h
  exact ⟨_, rfl, h.symm⟩
/-- Block b is a map that holds f. -/
def MapF (b n : Nat) (f : Int → Option Int) (w : World) : Prop :=
  ∃ D : DataW Unit, w.ownsMap Try.prog 3 (plainElem Try.prog 3) b n D ∧ ∀ x, D.atKey (.int .i64 x) (.lit (.int .i64 0)) = .lit (.int .i64 ((f x).getD 0)) ∧ Maps.has D (.int .i64 x) = (f x).isSome
theorem mapF_made (w : World) : MapF w.heap.size 0 (fun _ => none) (w.alloc (.map #[] 0)) := ⟨_, World.ownsMap_made w Try.prog 3 _, fun x => ⟨rfl, rfl⟩⟩
theorem mapF_kept {b n : Nat} {f : Int → Option Int} {w w' : World} {r : Option Nat} (h : MapF b n f w) (hg : w.grownBy w' r) (hne : some b ≠ r) : MapF b n f w' := by
  obtain ⟨D, h1, h2⟩ := h
  exact ⟨D, h1.kept hg hne, h2⟩
theorem mapF_below {b n : Nat} {f : Int → Option Int} {w w' : World} (h : MapF b n f w) (hb : Below w.heap.size w w') : MapF b n f w' := mapF_kept h (grown_of_below hb) (by simp)
theorem mapF_lt {b n : Nat} {f : Int → Option Int} {w : World} (h : MapF b n f w) : b < w.heap.size := by
  obtain ⟨D, h1, _⟩ := h
  exact h1.lt
theorem mapF_look {b n : Nat} {f : Int → Option Int} {w : World} (h : MapF b n f w) (c : Bool) {x : Int} (hx : (Lit.int .i64 x).wf = true) :
    (Instr.lookup 54 (.map (some b)) (.int .i64 x) c).run Try.prog w = .ok (if c then .tuple #[.int .i64 ((f x).getD 0), .bool (f x).isSome] else .int .i64 ((f x).getD 0)) w := by
  obtain ⟨D, ⟨es, clock, hb, F, _, rfl⟩, hD⟩ := h
  obtain ⟨d1, d2⟩ := hD x
  rcases Maps.fit_look c lawInt Try.underlying54 (zeroInt w) hb F (keyOf_int_mk Try.underlying3 hx) with ⟨hrun, _, hat⟩ | ⟨e0, y, _, _, hrun, hRv, hat, _⟩
  · rw [hat] at d1
    rw [Maps.has_false_of_atKey hat] at d2
    simp only [DataW.lit.injEq, Lit.int.injEq, true_and] at d1
    rw [← d1, ← d2]
    exact hrun
  · rw [hat] at d1
    rw [Maps.has_true_of_atKey hat] at d2
    obtain ⟨a, ha, rfl, _⟩ := plainElem_int_inv Try.underlying3 hRv
    simp only [DataW.lit.injEq, Lit.int.injEq, true_and] at d1
    rw [← d1, ← d2, ← ha]
    exact hrun
theorem mapF_store {b n : Nat} {f : Int → Option Int} {w : World} (h : MapF b n f w) (hn : n < 100000) {x y : Int} (hx : (Lit.int .i64 x).wf = true) (hy : (Lit.int .i64 y).wf = true) :
    ∃ w', (Instr.mapUpdate 54 (.map (some b)) (.int .i64 x) (.int .i64 y)).run Try.prog w = .ok () w' ∧ MapF b (n + 1) (fun z => if z = x then some y else f z) w' ∧ w.grownBy w' (some b) := by
  obtain ⟨D, h1, hD⟩ := h
  obtain ⟨w', hrun, h2, h3⟩ := h1.store lawInt Try.underlying54 (by unfold maxLen; omega) (keyOf_int_mk Try.underlying3 hx) (plainElem_int Try.underlying3 hy)
  refine ⟨w', hrun, ⟨_, h2, fun z => ?_⟩, h3.grown⟩
  dsimp only
  by_cases e : z = x
  · subst e
    rw [if_pos rfl, atKey_put_same h1.isMap (k := .int .i64 z) trivial, has_put_same h1.isMap (k := .int .i64 z) trivial]
    exact ⟨rfl, rfl⟩
  · rw [if_neg e, atKey_put_other (by simpa using e), has_put_other (by simpa using e)]
    exact hD z
theorem mapF_nil {w : World} {x : Int} (hx : (Lit.int .i64 x).wf = true) : (Instr.lookup 54 (.map none) (.int .i64 x) true).run Try.prog w = .ok (.tuple #[.int .i64 0, .bool false]) w :=
  Maps.look_nil true lawInt Try.underlying54 (zeroInt w) (keyOf_int_mk Try.underlying3 hx)
/-- Block b is a map that holds the set f. -/
def MapB (b n : Nat) (f : Int → Bool) (w : World) : Prop :=
  ∃ D : DataW Unit, w.ownsMap Try.prog 3 (plainElem Try.prog 4) b n D ∧ ∀ x, D.atKey (.int .i64 x) (.lit (.bool false)) = .lit (.bool (f x))
theorem mapB_made (w : World) : MapB w.heap.size 0 (fun _ => false) (w.alloc (.map #[] 0)) := ⟨_, World.ownsMap_made w Try.prog 3 _, fun x => rfl⟩
theorem mapB_kept {b n : Nat} {f : Int → Bool} {w w' : World} {r : Option Nat} (h : MapB b n f w) (hg : w.grownBy w' r) (hne : some b ≠ r) : MapB b n f w' := by
  obtain ⟨D, h1, h2⟩ := h
  exact ⟨D, h1.kept hg hne, h2⟩
theorem mapB_below {b n : Nat} {f : Int → Bool} {w w' : World} (h : MapB b n f w) (hb : Below w.heap.size w w') : MapB b n f w' := mapB_kept h (grown_of_below hb) (by simp)
theorem mapB_more {b n m : Nat} {f : Int → Bool} {w : World} (h : MapB b n f w) (hm : n ≤ m) : MapB b m f w := by
  obtain ⟨D, h1, h2⟩ := h
  exact ⟨D, h1.mono hm, h2⟩
theorem mapB_lt {b n : Nat} {f : Int → Bool} {w : World} (h : MapB b n f w) : b < w.heap.size := by
  obtain ⟨D, h1, _⟩ := h
  exact h1.lt
theorem mapB_set {b n : Nat} {f : Int → Bool} {w : World} (h : MapB b n f w) {a : Addr} (ha : b ≠ a.block) (u : Value) : MapB b n f (w.setCell a u) := by
  obtain ⟨D, h1, h2⟩ := h
  exact ⟨D, h1.setCell ha u, h2⟩
theorem mapB_look {b n : Nat} {f : Int → Bool} {w : World} (h : MapB b n f w) {x : Int} (hx : (Lit.int .i64 x).wf = true) :
    (Instr.lookup 62 (.map (some b)) (.int .i64 x) false).run Try.prog w = .ok (.bool (f x)) w := by
  obtain ⟨D, ⟨es, clock, hb, F, _, rfl⟩, hD⟩ := h
  have d1 := hD x
  rcases Maps.fit_look false lawInt Try.underlying62 (zeroBool w) hb F (keyOf_int_mk Try.underlying3 hx) with ⟨hrun, _, hat⟩ | ⟨e0, y, _, _, hrun, hRv, hat, _⟩
  · rw [hat] at d1
    simp only [DataW.lit.injEq, Lit.bool.injEq] at d1
    rw [← d1]
    exact hrun
  · rw [hat] at d1
    obtain ⟨a, ha, rfl⟩ := plainBool_inv hRv
    simp only [DataW.lit.injEq, Lit.bool.injEq] at d1
    rw [← d1, ← ha]
    exact hrun
theorem mapB_store {b n : Nat} {f : Int → Bool} {w : World} (h : MapB b n f w) (hn : n < 100000) {x : Int} (hx : (Lit.int .i64 x).wf = true) (y : Bool) :
    ∃ w', (Instr.mapUpdate 62 (.map (some b)) (.int .i64 x) (.bool y)).run Try.prog w = .ok () w' ∧ MapB b (n + 1) (fun z => if z = x then y else f z) w' ∧ w.grownBy w' (some b) := by
  obtain ⟨D, h1, hD⟩ := h
  obtain ⟨w', hrun, h2, h3⟩ := h1.store lawInt Try.underlying62 (by unfold maxLen; omega) (keyOf_int_mk Try.underlying3 hx) (plainElem_bool Try.underlying4 y)
  refine ⟨w', hrun, ⟨_, h2, fun z => ?_⟩, h3.grown⟩
  dsimp only
  by_cases e : z = x
  · subst e
    rw [if_pos rfl, atKey_put_same h1.isMap (k := .int .i64 z) trivial]
  · rw [if_neg e, atKey_put_other (by simpa using e)]
    exact hD z
theorem mapB_drop {b n : Nat} {f : Int → Bool} {w : World} (h : MapB b n f w) {x : Int} (hx : (Lit.int .i64 x).wf = true) :
    ∃ w', (∀ ty, (Builtin.delete_ #[62, 3] ty #[.map (some b), .int .i64 x]).run Try.prog w = .ok (.tuple #[]) w') ∧ MapB b n (fun z => if z = x then false else f z) w' ∧ w.grownBy w' (some b) := by
  obtain ⟨D, h1, hD⟩ := h
  obtain ⟨w', hrun, h2, h3⟩ := h1.drop lawInt Try.underlying62 (keyOf_int_mk Try.underlying3 hx) 0
  refine ⟨w', fun ty => hrun, ⟨_, h2, fun z => ?_⟩, h3.grown⟩
  dsimp only
  by_cases e : z = x
  · subst e
    rw [if_pos rfl, atKey_del_same]
  · rw [if_neg e, atKey_del_other (by simpa using e)]
    exact hD z
end Go.Proofs.Ytbklnlmijkclmaa
/- What alongPlan fills: a number for each key that is tuned; and the two functions that it goes by. -/
namespace Go.Proofs.Ytbklnlmijkclmaa
open Go.RowKit Go.Joins Go.Maps
set_option linter.unusedVariables false
def upTo (f : Nat → Int) (n : Nat) : Int → Option Int := fun x => if 0 ≤ x ∧ x ≤ n then some (f x.toNat) else none
theorem upTo_zero {f : Nat → Int} (h : f 0 = 0) : (fun z : Int => if z = 0 then some (0 : Int) else none) = upTo f 0 := by
  funext z
  unfold upTo
  by_cases e : z = 0
  · subst e; simp [h]
  · rw [if_neg e, if_neg (by omega)]
theorem upTo_succ (f : Nat → Int) (n : Nat) : (fun z : Int => if z = ((n + 1 : Nat) : Int) then some (f (n + 1)) else upTo f n z) = upTo f (n + 1) := by
  funext z
  unfold upTo
  by_cases e : z = ((n + 1 : Nat) : Int)
  · subst e
    rw [if_pos rfl, if_pos (by omega), Int.toNat_natCast]
  · rw [if_neg e]
    by_cases q : 0 ≤ z ∧ z ≤ n
    · rw [if_pos q, if_pos (by omega)]
    · rw [if_neg q, if_neg (by omega)]
theorem upTo_at {f : Nat → Int} {n k : Nat} (h : k ≤ n) : upTo f n (k : Int) = some (f k) := by
  unfold upTo
  rw [if_pos (by omega), Int.toNat_natCast]
/-- What alongPlan answers. -/
def AlongAt (xs : List Iv) (f : Nat → Int) (w : World) (e : Ending) (w' : World) : Prop :=
  Below w.heap.size w w' ∧ ((¬ PlOk xs ∧ e = .returned (.map none)) ∨ (PlOk xs ∧ ∃ B, e = .returned (.map (some B)) ∧ MapF B (xs.length + 1) (upTo f xs.length) w'))
/-- What the function that is handed over answers at step k. -/
def Follows (fid : Nat) (caps : Array Value) (xs : List Iv) (f : Nat → Int) (w : World) : Prop :=
  ∀ k, k < xs.length → ∀ W, Below w.heap.size w W → Calls Try.prog fid (#[.int .i64 (f k), ivV (ivAt xs k).two (ivAt xs k).three (ivAt xs k).five (ivAt xs k).root] ++ caps) W fun e W' => e = .returned (.int .i64 (f (k + 1))) ∧ Below W.heap.size W W'
theorem keep_along {W : World} {m B n : Nat} {a t kd bt X : Int} {f : Int → Option Int} (hF : Four m a t kd bt W) (hM : MapF B n f W) (ha : (Lit.int .i64 a).wf = true) (hx : f a = some X) :
    W.cell? ⟨m, 0, none⟩ = some (.int .i64 a) ∧ W.cell? ⟨m, 1, none⟩ = some (.int .i64 t) ∧ W.cell? ⟨m, 2, none⟩ = some (.int .i64 kd) ∧ W.cell? ⟨m, 3, none⟩ = some (.int .i64 bt) ∧ (Instr.lookup 54 (.map (some B)) (.int .i64 a) false).run Try.prog W = .ok (.int .i64 X) W := by
  refine ⟨hF.2.1, hF.2.2.1, hF.2.2.2.1, hF.2.2.2.2, ?_⟩
  have := mapF_look hM false ha
  rw [hx] at this
  exact this
theorem mapF_drewF {b n : Nat} {f : Int → Option Int} {w : World} (h : MapF b n f w) : MapF b n f w.drew := h
theorem four_grown {W w : World} {m : Nat} {p q r s : Int} {o : Option Nat} (hg : W.grownBy w o) (hm : some m ≠ o) (h : Four m p q r s W) : Four m p q r s w :=
  ⟨World.block_lt_of_cell? _ _ (hg.cell h.2.1 hm), hg.cell h.2.1 hm, hg.cell h.2.2.1 hm, hg.cell h.2.2.2.1 hm, hg.cell h.2.2.2.2 hm⟩
set_option maxRecDepth 100000 in
set_option maxHeartbeats 8000000 in
theorem along_impl {fid : Nat} {caps : Array Value} {f : Nat → Int} (w : World) (b : Nat) (v : Value) (xs : List Iv) (hl : xs.length ≤ 2000000) (h : w.ownsRow b 32 4 v xs.length (ivCs xs))
    (hent : ∀ args W, (callFunc fid args).run Try.prog W = .ok (.enter fid args) W) (hf0 : f 0 = 0) (hwf : PlOk xs → ∀ k, k ≤ xs.length → (Lit.int .i64 (f k)).wf = true) (hfo : PlOk xs → Follows fid caps xs f w) :
    Calls Try.prog 47 #[v, .func (.func fid) #[] caps] w (AlongAt xs f w) := by
  have hmm := @run_makeMap Try.prog
  have PK := Lib.hid (planOk_impl w b v xs hl h)
  obtain ⟨n, hn⟩ : ∃ n, n = xs.length := ⟨_, rfl⟩
  have HN := Lib.hid hn
  rw [← hn] at h hl
  have HO := Lib.hid h
  have hs : ∃ p c, v = .slice p n c := by
    rcases own4_shape h with ⟨q, q'⟩ | ⟨g, cap, q, _⟩
    · exact ⟨none, 0, by rw [q, q']⟩
    · exact ⟨_, _, q⟩
  obtain ⟨p, c, rfl⟩ := hs
  clear h hn
  by_cases h1 : PlOk xs
  · rw [show planB xs = true from decide_eq_true h1] at PK
    have HP := Lib.hid h1
    have WF := Lib.hid (hwf h1)
    have FO := Lib.hid (hfo h1)
    have UZ := Lib.hid (upTo_zero hf0)
    have US := Lib.hid (upTo_succ f)
    have hn11 : n ≤ 11 := by have := h1.1; have := HN.out; omega
    clear h1 hwf hfo hf0
    go_enter Try.func47, Try.ntmps47
    go_wp2_with fail
    refine PK.out.mono ?_
    rintro e1 w1 ⟨rfl, b1⟩
    obtain ⟨w2, hrun, M2, g2⟩ := mapF_store (mapF_made w1) (x := 0) (y := 0) (by decide) (by decide) (by decide)
    rw [UZ.out] at M2
    have B2 : Hid (Below w.heap.size w w2) := Lib.hid ((b1.alloc b1.size _).grown g2 (by have := b1.size; simp; omega) (fun j hj => by cases hj; exact b1.size))
    have HB := Lib.hid b1.size
    clear b1 g2 PK UZ
    go_wp2_with fail
    generalize w1.heap.size = B at M2 HB ⊢
    have M0 := Lib.hid M2
    clear M2 hrun
    go_loopw [15] (fun i wr => ∃ k : Nat, k ≤ n ∧ i = .int .i64 (k : Int) ∧ Hid (MapF B (k + 1) (upTo f k) wr) ∧ Hid (Below w.heap.size w wr)) (fun i _ => n - (intOf i).toNat)
    case atStart => exact ⟨0, Nat.zero_le _, rfl, M0, B2⟩
    case round =>
      obtain ⟨k, hk, rfl, HM, HW⟩ := hrel
      clear M0 B2
      by_cases hlt : k < n
      · have q3 : (k : Int) < n := by omega
        obtain ⟨gx, cx, hgx, _, lgx⟩ := own4_pos HO.out (by omega)
        simp only [Value.slice.injEq, true_and] at hgx
        obtain ⟨rfl, rfl⟩ := hgx
        have r1 := own_iv (own4_below HO.out HW.out) HN.out k hlt
        obtain ⟨kd, bt, hX, hkd, hbt⟩ := good_step HP.out (k := k) (by have := HN.out; omega)
        have CF := Lib.hid (FO.out k (by have := HN.out; omega))
        rw [hX] at r1 CF
        obtain ⟨x0, x1, x2, x3⟩ := r1
        dsimp only at x0 x1 x2 x3
        obtain ⟨T, hT⟩ : ∃ T : Nat, T = k + 1 := ⟨_, rfl⟩
        obtain ⟨X, hXX⟩ : ∃ X, X = f k := ⟨_, rfl⟩
        obtain ⟨Y, hY⟩ : ∃ Y, Y = f (k + 1) := ⟨_, rfl⟩
        have x1' : wr.cell? ⟨gx, k * 4 + 1, none⟩ = some (.int .i64 (T : Int)) := by rw [x1, hT]; push_cast; rfl
        have CG : Hid (∀ W, Below w.heap.size w W → Calls Try.prog fid (#[.int .i64 X, ivV (k : Int) (T : Int) kd bt] ++ caps) W fun e W' => e = .returned (.int .i64 Y) ∧ Below W.heap.size W W') := Lib.hid (fun W hW => by have := CF.out W hW; rw [hXX, hY, hT]; push_cast; exact this)
        have WX : Hid ((Lit.int .i64 (k : Int)).wf = true) := Lib.hid (WalkArith.wf_i64 (by omega))
        have WT : Hid ((Lit.int .i64 (T : Int)).wf = true) := Lib.hid (WalkArith.wf_i64 (by omega))
        have WY : Hid ((Lit.int .i64 Y).wf = true) := Lib.hid (by rw [hY]; exact WF.out (k + 1) (by have := HN.out; omega))
        have HLK : Hid (upTo f k (k : Int) = some X) := Lib.hid (by rw [hXX]; exact upTo_at (Nat.le_refl _))
        have HST : Hid ((fun z : Int => if z = (T : Int) then some Y else upTo f k z) = upTo f T) := Lib.hid (by rw [hY, hT]; exact US.out k)
        have HLT2 : Hid ((fun z : Int => if z = (T : Int) then some Y else upTo f k z) (k : Int) = some X) := Lib.hid (by dsimp only; rw [if_neg (by omega)]; exact HLK.out)
        have HTT := Lib.hid hT
        have HLT := Lib.hid hlt
        have K11 := Lib.hid hn11
        clear x1 hX hXX hY hT hkd hbt CF hn11 hlt lgx US FO
        go_upto_region 7 with fail
        obtain ⟨W1, hW1⟩ : ∃ W, W = wr.alloc (.cells #[.int .i64 (k : Int), .int .i64 (T : Int), .int .i64 kd, .int .i64 bt] 32) := ⟨_, rfl⟩
        have BA : Hid (Below w.heap.size w W1) := Lib.hid (by rw [hW1]; exact HW.out.alloc HW.out.size _)
        have M1 : Hid (MapF B (k + 1) (upTo f k) W1) := Lib.hid (by rw [hW1]; exact mapF_below HM.out (below_alloc1 _ _))
        have F4 : Four wr.heap.size (k : Int) (T : Int) kd bt W1 := by rw [hW1]; exact four_alloc
        have NE : Hid (wr.heap.size ≠ B) := Lib.hid (by have := mapF_lt HM.out; omega)
        rw [← hW1]
        clear hW1 x0 x1' x2 x3 HM HW
        generalize wr.heap.size = m1 at F4 NE ⊢
        have FF := Lib.hid F4
        clear F4
        go_region_held3 (fun w' => w'.cell? ⟨m1, 0, none⟩ = some (.int .i64 (k : Int)) ∧ w'.cell? ⟨m1, 1, none⟩ = some (.int .i64 (T : Int)) ∧ w'.cell? ⟨m1, 2, none⟩ = some (.int .i64 kd) ∧ w'.cell? ⟨m1, 3, none⟩ = some (.int .i64 bt) ∧ (Instr.lookup 54 (.map (some B)) (.int .i64 (k : Int)) false).run Try.prog w' = .ok (.int .i64 X) w')
          (with_reducible first | exact keep_along (four_drewF FF.out) (mapF_drewF M1.out) WX.out HLK.out | exact keep_along F5.out M5.out WX.out HLT2.out | exact keep_along F4.out M4.out WX.out HLK.out)
          (first
            | (with_reducible refine (CG.out _ BA.out.drew).mono ?_; rintro e1 w4 ⟨rfl, hb⟩; have M4 := Lib.hid (mapF_below (mapF_drewF M1.out) hb); have F4 := Lib.hid (four_keep hb (four_drewF FF.out)); obtain ⟨w5, hrun5, m5, g5⟩ := mapF_store M4.out (by have := K11.out; have := HLT.out; omega) WT.out WY.out; have M5 := Lib.hid m5; have F5 := Lib.hid (four_grown g5 (by simpa using NE.out) F4.out)))
        rw [HST.out] at m5
        have MM : Hid (MapF B (k + 1 + 1) (upTo f (k + 1)) w5) := Lib.hid (by rw [← HTT.out]; rw [← HTT.out] at m5; exact m5)
        have BW : Hid (Below w.heap.size w w5) := Lib.hid ((BA.out.drew.trans (hb.mono BA.out.drew.size)).grown g5 (Nat.le_trans BA.out.drew.size hb.size) (fun j hj => by cases hj; exact HB.out))
        have HL := HLT.out
        clear hb m5 g5 M4 M5 F4 F5 FF M1 BA CG HST HLT2 HLK hrun5
        go_wp2_with fail
        go_roundw
        case rel => exact ⟨k + 1, HL, by go_num, MM, BW⟩
        case measure => simp [intOf]; omega
      · have q3 : ¬ (k : Int) < n := by omega
        have e : k = n := by omega
        subst e
        go_wp2_with fail
        go_ret
        exact ⟨HW.out, .inr ⟨HP.out, B, rfl, by rw [← HN.out]; exact HM.out⟩⟩
  · rw [show planB xs = false from decide_eq_false h1] at PK
    have HP := Lib.hid h1
    clear h1 hwf hfo
    go_enter Try.func47, Try.ntmps47
    go_wp2_with fail
    refine PK.out.mono ?_
    rintro e1 w1 ⟨rfl, b1⟩
    go_wp2_with fail
    go_ret
    exact ⟨b1, .inl ⟨HP.out, rfl⟩⟩
/-- The two functions that are handed over. -/
theorem depF_follows {xs : List Iv} (hp : PlOk xs) (w : World) : Follows 61 #[] xs (fun k => (k : Int)) w := by
  intro k hk W hW
  have k11 := hp.1
  show Calls Try.prog 61 #[.int .i64 (k : Int), ivV _ _ _ _] W _
  generalize ivAt xs k = x
  go_enter Try.func61, Try.ntmps61
  go_wp2_with fail
  go_ret
  exact ⟨by simp, below_alloc1 _ _⟩
theorem numAt_any (mo : Option Nat) (key c : Int) (ok : Bool) (w : World) (h : (Instr.lookup 54 (.map mo) (.int .i64 key) true).run Try.prog w = .ok (.tuple #[.int .i64 c, .bool ok]) w) :
    Calls Try.prog 50 #[.map mo, .int .i64 key] w fun e w' => e = .returned (.int .i64 (if ok then c else -1)) ∧ Below w.heap.size w w' := by
  cases ok
  all_goals
    go_enter Try.func50, Try.ntmps50
    go_wp2_with fail
    go_ret
    exact ⟨rfl, Below.refl _ _⟩
theorem depths_impl (w : World) (b : Nat) (v : Value) (xs : List Iv) (hl : xs.length ≤ 2000000) (h : w.ownsRow b 32 4 v xs.length (ivCs xs)) :
    Calls Try.prog 37 #[v] w (AlongAt xs (fun k => (k : Int)) w) := by
  have AL := Lib.hid (along_impl (fid := 61) (caps := #[]) (f := fun k => (k : Int)) w b v xs hl h (fun args W => by kernel_rfl) rfl (fun hp k hk => WalkArith.wf_i64 (by have := hp.1; omega)) (fun hp => depF_follows hp w))
  go_enter Try.func37, Try.ntmps37
  go_wp2_with fail
  refine AL.out.mono ?_
  rintro e w1 ⟨hb, ⟨hp, rfl⟩ | ⟨hp, B, rfl, hM⟩⟩
  · go_wp2_with fail
    go_ret
    exact ⟨hb, .inl ⟨hp, rfl⟩⟩
  · go_wp2_with fail
    go_ret
    exact ⟨hb, .inr ⟨hp, B, rfl, hM⟩⟩
theorem dep_impl : ∀ (key : Int) (_ : (Lit.int .i64 key).wf = true) (w : World) (b : Nat) (v : Value) (xs : List Iv), xs.length ≤ 2000000 → w.ownsRow b 32 4 v xs.length (ivCs xs) →
    Calls Try.prog 20 #[v, .int .i64 key] w fun en w' => en = .returned (.int .i64 (depV xs key)) ∧ Below w.heap.size w w' := by
  intro key hk w b v xs hl h
  have AL := Lib.hid (depths_impl w b v xs hl h)
  have HK := Lib.hid hk
  clear h
  go_enter Try.func20, Try.ntmps20
  go_wp2_with fail
  refine AL.out.mono ?_
  rintro e w1 ⟨hb, ⟨hp, rfl⟩ | ⟨hp, B, rfl, hM⟩⟩
  · go_wp2_with fail
    refine (numAt_any none key 0 false w1 (mapF_nil HK.out)).mono ?_
    rintro e w2 ⟨rfl, hb2⟩
    go_wp2_with fail
    go_ret
    exact ⟨by rw [show depV xs key = -1 from if_neg (fun q => hp q.1)]; rfl, hb.trans (hb2.mono hb.size)⟩
  · by_cases q : 0 ≤ key ∧ key ≤ xs.length
    · have LK := mapF_look hM true HK.out
      rw [show upTo (fun k => (k : Int)) xs.length key = some key from by unfold upTo; rw [if_pos q]; exact congrArg some (Int.toNat_of_nonneg q.1)] at LK
      go_wp2_with fail
      refine (numAt_any (some B) key key true w1 LK).mono ?_
      rintro e w2 ⟨rfl, hb2⟩
      go_wp2_with fail
      go_ret
      exact ⟨by rw [show depV xs key = key from if_pos ⟨hp, q⟩]; rfl, hb.trans (hb2.mono hb.size)⟩
    · have LK := mapF_look hM true HK.out
      rw [show upTo (fun k => (k : Int)) xs.length key = none from if_neg q] at LK
      go_wp2_with fail
      refine (numAt_any (some B) key 0 false w1 LK).mono ?_
      rintro e w2 ⟨rfl, hb2⟩
      go_wp2_with fail
      go_ret
      exact ⟨by rw [show depV xs key = -1 from if_neg (fun r => q r.2)]; rfl, hb.trans (hb2.mono hb.size)⟩
end Go.Proofs.Ytbklnlmijkclmaa
/- Contracts of impl.ErrorBound, DeepestKey and Mistune. -/
namespace Go.Proofs.Ytbklnlmijkclmaa
open Go.RowKit Go.Joins Go.Maps
set_option linter.unusedVariables false
/-- One cell with a number. -/
def OneI (m : Nat) (p : Int) (w : World) : Prop := m < w.heap.size ∧ w.cell? ⟨m, 0, none⟩ = some (.int .i64 p)
theorem oneI_keep {W w : World} {m : Nat} {p : Int} (hb : Below W.heap.size W w) (h : OneI m p W) : OneI m p w :=
  ⟨Nat.lt_of_lt_of_le h.1 hb.size, (hb.cell (p := ⟨m, 0, none⟩) h.1).trans h.2⟩
theorem bound_at {B kd wr : Int} (hB : 0 ≤ B ∧ B ≤ 20480000) (hk : kd = 1 ∨ kd = 2) (hw : 0 ≤ wr ∧ wr ≤ 5000) (w : World) :
    Calls Try.prog 49 #[.int .i64 B, .int .i64 kd, .int .i64 wr] w fun e w' => e = .returned (.int .i64 ((3 * B + wr) / (2 * kd) + 1)) ∧ Below w.heap.size w w' := by
  obtain ⟨b0, b1⟩ := hB
  obtain ⟨c0, c1⟩ := hw
  have s0 : 0 ≤ 3 * B + wr := by omega
  rcases hk with rfl | rfl
  · obtain ⟨D, hq⟩ : ∃ D, (3 * B + wr) / 2 = D := ⟨_, rfl⟩
    have D0 : 0 ≤ D := by omega
    have D1 : D ≤ 40000000 := by omega
    have HD := Lib.hid (show D + 1 = (3 * B + wr) / (2 * 1) + 1 by rw [show (2 : Int) * 1 = 2 from rfl, hq])
    go_enter Try.func49, Try.ntmps49
    go_wp2_with fail
    go_ret
    exact ⟨ret_intD HD.out, Below.refl _ _⟩
  · obtain ⟨D, hq⟩ : ∃ D, (3 * B + wr) / 4 = D := ⟨_, rfl⟩
    have D0 : 0 ≤ D := by omega
    have D1 : D ≤ 40000000 := by omega
    have HD := Lib.hid (show D + 1 = (3 * B + wr) / (2 * 2) + 1 by rw [show (2 : Int) * 2 = 4 from rfl, hq])
    go_enter Try.func49, Try.ntmps49
    go_wp2_with fail
    go_ret
    exact ⟨ret_intD HD.out, Below.refl _ _⟩
theorem errF_follows {xs : List Iv} (hp : PlOk xs) {wr : Int} (hw : 0 ≤ wr ∧ wr ≤ 5000) {m : Nat} {w : World} (hm : OneI m wr w) : Follows 48 #[.pointer (some ⟨m, 0, none⟩)] xs (errK xs wr) w := by
  intro k hk W hW
  have hs := errK_small hp hw (k := k) (by omega)
  have e : errK xs wr (k + 1) = (3 * errK xs wr k + wr) / (2 * (ivAt xs k).five) + 1 := rfl
  have g := hp.2 k hk
  have kd : (ivAt xs k).five = 1 ∨ (ivAt xs k).five = 2 := by have := g.2.1; omega
  have HM := oneI_keep hW hm
  rw [e]
  generalize errK xs wr k = B at hs
  generalize ivAt xs k = x at kd
  have BD := Lib.hid (fun W => bound_at hs kd hw W)
  show Calls Try.prog 48 #[.int .i64 B, ivV x.two x.three x.five x.root, .pointer (some ⟨m, 0, none⟩)] W _
  clear hs e g kd hw hp hm hW
  go_enter Try.func48, Try.ntmps48
  go_upto_region 1 with fail
  obtain ⟨W1, hW1⟩ : ∃ W1, W1 = W.alloc (.cells #[.int .i64 x.two, .int .i64 x.three, .int .i64 x.five, .int .i64 x.root] 32) := ⟨_, rfl⟩
  have BA : Hid (Below W.heap.size W W1) := Lib.hid (by rw [hW1]; exact below_alloc1 W _)
  have F4 : Four W.heap.size x.two x.three x.five x.root W1 := by rw [hW1]; exact four_alloc
  have M1 := (oneI_keep BA.out HM).2
  rw [← hW1]
  clear hW1 HM
  obtain ⟨_, _, _, y2, _⟩ := F4
  go_wp2_with fail
  refine (BD.out _).mono ?_
  rintro e1 w2 ⟨rfl, hb⟩
  go_wp2_with fail
  go_ret
  exact ⟨rfl, BA.out.trans (hb.mono BA.out.size)⟩
theorem err_impl : ErrImpl := by
  intro key wr hk w b v xs hl h
  by_cases hw : 0 ≤ wr ∧ wr ≤ 5000
  · obtain ⟨W1, hW1⟩ : ∃ W1, W1 = w.alloc (.cells #[.int .i64 wr] 3) := ⟨_, rfl⟩
    have BA : Below w.heap.size w W1 := by rw [hW1]; exact below_alloc1 w _
    have HM : OneI w.heap.size wr W1 := by rw [hW1]; exact ⟨by simp, by simp⟩
    have AL := Lib.hid (along_impl (fid := 48) (caps := #[.pointer (some ⟨w.heap.size, 0, none⟩)]) (f := errK xs wr) W1 b v xs hl (own4_below h BA) (fun args W => by kernel_rfl) rfl (fun hp k hk => WalkArith.wf_i64 (by have := errK_small hp hw hk; omega)) (fun hp => errF_follows hp hw HM))
    have HK := Lib.hid hk
    have HW := Lib.hid hw
    have B1 := Lib.hid BA
    have M1 := HM.2
    obtain ⟨c0, c1⟩ := hw
    have hmf : ∀ (fn : Fn) (first cap : Array Value) (w : World), (Instr.makeFunc fn first cap).run Try.prog w = .ok (.func fn first cap) w := fun _ _ _ _ => rfl
    clear h hk BA HM
    go_enter Try.func19, Try.ntmps19
    go_upto_region 1 with fail
    rw [← hW1]
    clear hW1
    go_wp2_with fail
    refine AL.out.mono ?_
    rintro e w2 ⟨hb, ⟨hp, rfl⟩ | ⟨hp, B, rfl, hM⟩⟩
    · go_wp2_with fail
      refine (numAt_any none key 0 false w2 (mapF_nil HK.out)).mono ?_
      rintro e w3 ⟨rfl, hb2⟩
      go_wp2_with fail
      go_ret
      exact ⟨by rw [show errV xs key wr = -1 from if_neg (fun q => hp q.1.1)]; rfl, B1.out.trans ((hb.trans (hb2.mono hb.size)).mono B1.out.size)⟩
    · by_cases q : 0 ≤ key ∧ key ≤ xs.length
      · have LK := mapF_look hM true HK.out
        rw [show upTo (errK xs wr) xs.length key = some (errK xs wr key.toNat) from if_pos q] at LK
        go_wp2_with fail
        refine (numAt_any (some B) key _ true w2 LK).mono ?_
        rintro e w3 ⟨rfl, hb2⟩
        go_wp2_with fail
        go_ret
        exact ⟨by rw [show errV xs key wr = errK xs wr key.toNat from if_pos ⟨⟨hp, q⟩, HW.out⟩]; rfl, B1.out.trans ((hb.trans (hb2.mono hb.size)).mono B1.out.size)⟩
      · have LK := mapF_look hM true HK.out
        rw [show upTo (errK xs wr) xs.length key = none from if_neg q] at LK
        go_wp2_with fail
        refine (numAt_any (some B) key 0 false w2 LK).mono ?_
        rintro e w3 ⟨rfl, hb2⟩
        go_wp2_with fail
        go_ret
        exact ⟨by rw [show errV xs key wr = -1 from if_neg (fun r => q r.1.2)]; rfl, B1.out.trans ((hb.trans (hb2.mono hb.size)).mono B1.out.size)⟩
  · have R := Lib.hid (show errV xs key wr = -1 from if_neg (fun q => hw q.2))
    by_cases c0 : wr < 0
    · clear hw
      go_enter Try.func19, Try.ntmps19
      go_wp2_with fail
      go_ret
      exact ⟨by rw [R.out]; rfl, below_alloc1 _ _⟩
    · have c1 : 5000 < wr := by omega
      clear hw
      go_enter Try.func19, Try.ntmps19
      go_wp2_with fail
      go_ret
      exact ⟨by rw [R.out]; rfl, below_alloc1 _ _⟩
/-- The deepest key: the last one. -/
theorem deep_impl : DeepImpl := by
  intro w b v xs hl h
  have AL := Lib.hid (depths_impl w b v xs hl h)
  have KI := Lib.hid (fun W (q : Below w.heap.size w W) => keys_impl W b v xs hl (own4_below h q))
  clear h
  by_cases hp : PlOk xs
  · have hk := keysL_up hp
    obtain ⟨n, hn⟩ : ∃ n, n = xs.length := ⟨_, rfl⟩
    have HN := Lib.hid hn
    have R := Lib.hid (show deepV xs = (n : Int) by rw [hn]; exact if_pos hp)
    have hn11 : n ≤ 11 := by rw [hn]; exact hp.1
    rw [hk] at KI
    rw [← hn] at KI
    have HP := Lib.hid hp
    clear hk hn hp
    go_enter Try.func12, Try.ntmps12
    go_wp2_with fail
    refine AL.out.mono ?_
    rintro e w1 ⟨hb, ⟨q, rfl⟩ | ⟨_, B, rfl, hM⟩⟩
    · exact absurd HP.out q
    rw [← HN.out] at hM
    have B1 := Lib.hid hb
    have M1 := Lib.hid hM
    clear hb hM AL
    go_wp2_with fail
    refine (KI.out _ B1.out).mono ?_
    rintro e w2 ⟨v2, rfl, o2, b2⟩
    have O2 := Lib.hid o2
    rw [keyUp_len] at o2
    obtain ⟨g, cap, rfl⟩ : ∃ g cap, v2 = .slice (some ⟨g, 0, none⟩) (n + 1) cap := by
      rcases o2.2 with ⟨_, q⟩ | ⟨g, cap, _, q, _⟩
      · omega
      · exact ⟨g, cap, q⟩
    have M2 := Lib.hid (mapF_below M1.out b2)
    have B2 := Lib.hid (B1.out.trans (b2.mono B1.out.size))
    have CC : Hid (∀ j, j < n + 1 → w2.cell? ⟨g, j, none⟩ = some (.int .i64 (j : Int))) := Lib.hid (fun j hj => by rw [own_icell o2 j hj, keyUp_at n j (by omega)])
    have LK : Hid (∀ j : Nat, j < n + 1 → (Instr.lookup 54 (.map (some B)) (.int .i64 (j : Int)) false).run Try.prog w2 = .ok (.int .i64 (j : Int)) w2) := Lib.hid (fun j hj => by
      have := mapF_look M2.out false (WalkArith.wf_i64 (show -9223372036854775808 ≤ (j : Int) ∧ (j : Int) ≤ 9223372036854775807 from by omega))
      rw [upTo_at (by omega)] at this
      exact this)
    clear b2 o2 O2 M1 M2 B1 KI
    go_wp2_with fail
    go_loopw [4, 12] (fun d i wr => ∃ k : Nat, k ≤ n + 1 ∧ i = .int .i64 (k : Int) ∧ d = .int .i64 ((k : Int) - 1) ∧ wr = w2) (fun _ i _ => n + 1 - (intOf i).toNat)
    case atStart => exact ⟨0, by omega, rfl, rfl, rfl⟩
    case round =>
      obtain ⟨k, hk, rfl, rfl, rfl⟩ := hrel
      by_cases hlt : k < n + 1
      · have q3 : (k : Int) < ((n + 1 : Nat) : Int) := by omega
        have k0 : 0 ≤ (k : Int) := by omega
        have x0 := CC.out k hlt
        have l0 := LK.out k hlt
        obtain ⟨d, hd⟩ : ∃ d, d = (k : Int) - 1 := ⟨_, rfl⟩
        rw [← hd]
        have HD := Lib.hid hd
        by_cases h0 : d < 0
        · clear hd l0
          go_wp2_with fail
          go_roundw
          case rel => exact ⟨k + 1, by omega, by go_num, by congr 1; have := HD.out; omega, trivial⟩
          case measure => simp [intOf]; omega
        · have l1 := LK.out (k - 1) (by omega)
          rw [show (((k - 1 : Nat)) : Int) = d by omega] at l1
          have t1 : d < (k : Int) := by omega
          clear hd
          go_wp2_with fail
          go_roundw
          case rel => exact ⟨k + 1, by omega, by go_num, by congr 1; have := HD.out; omega, trivial⟩
          case measure => simp [intOf]; omega
      · have q3 : ¬ (k : Int) < ((n + 1 : Nat) : Int) := by omega
        have e : (k : Int) - 1 = (n : Int) := by omega
        rw [e]
        clear hlt e
        go_wp2_with fail
        go_ret
        exact ⟨by rw [R.out]; rfl, B2.out⟩
  · have R := Lib.hid (show deepV xs = -1 from if_neg hp)
    rw [keysL_no hp] at KI
    have HP := Lib.hid hp
    clear hp
    go_enter Try.func12, Try.ntmps12
    go_wp2_with fail
    refine AL.out.mono ?_
    rintro e w1 ⟨hb, ⟨_, rfl⟩ | ⟨q, _⟩⟩
    · have B1 := Lib.hid hb
      clear hb AL
      go_wp2_with fail
      refine (KI.out _ B1.out).mono ?_
      rintro e w2 ⟨v2, rfl, o2, b2⟩
      have o3 : w2.ownsRow w1.heap.size 3 1 v2 0 [] := o2
      have hs : ∃ p c, v2 = .slice p 0 c := by
        rcases o3.2 with ⟨q, _⟩ | ⟨g, cap, _, q, _⟩
        · exact ⟨_, _, q⟩
        · exact ⟨_, _, q⟩
      obtain ⟨p, c, rfl⟩ := hs
      have B2 := Lib.hid (B1.out.trans (b2.mono B1.out.size))
      clear o2 o3 b2
      go_wp2_with fail
      refine wp_loop_rounds 1 ?_
      rw [rounds_succ]
      go_wp2_with fail
      go_ret
      exact ⟨by rw [R.out]; rfl, B2.out⟩
    · exact absurd q HP.out
/-- slices.Clone at steps. -/
theorem cloneSt_run (w : World) (b : Nat) (e : TypeId) (v : Value) (xs : List Iv) (hl : xs.length ≤ 2000000) (h : w.ownsRow b e 4 v xs.length (ivCs xs)) :
    Calls Try.prog 40 #[v] w (OwnSt xs w) := by
  obtain ⟨i0, hi, hz0, hz1, hz2⟩ := info_parts4 infoSt
  have OL := Lib.hid (World.ownsRow_lit (base := w.heap.size) (e := 32) (size := 4) w #[] 0 (Nat.le_refl _) (by unfold maxLen; omega) rfl)
  rcases Nat.eq_zero_or_pos xs.length with h0 | h0
  · have HX : Hid (xs = []) := Lib.hid (List.eq_nil_of_length_eq_zero h0)
    have hs : v = .slice none 0 0 ∨ ∃ g cap, v = .slice (some ⟨g, 0, none⟩) 0 cap := by
      rcases own4_shape h with ⟨q, _⟩ | ⟨g, cap, q, _⟩
      · exact .inl q
      · exact .inr ⟨g, cap, by rw [q, h0]⟩
    clear h hl h0
    rcases hs with rfl | ⟨g, cap, rfl⟩
    · have hne : ∀ W : World, (binOp .eql 24 (.slice none 0 0) (.slice none 0 0)).run Try.prog W = .ok (.bool true) W := fun W => by kernel_rfl
      go_enter Try.func40, Try.ntmps40
      go_wp2_with fail
      go_ret
      exact ⟨_, rfl, by rw [HX.out]; exact World.ownsRow_nil _ _ _ _, Below.refl _ _⟩
    · have hne : ∀ W : World, (binOp .eql 24 (.slice (some ⟨g, 0, none⟩) 0 cap) (.slice none 0 0)).run Try.prog W = .ok (.bool false) W := fun W => by kernel_rfl
      go_enter Try.func40, Try.ntmps40
      go_wp2_with fail
      go_ret
      exact ⟨_, rfl, by rw [HX.out]; exact OL.out, below_alloc1 w _⟩
  · obtain ⟨g, cap, rfl, _, hg⟩ := own4_pos h h0
    obtain ⟨n, hn⟩ : ∃ n, n = xs.length := ⟨_, rfl⟩
    have HN := Lib.hid hn
    have HC2 := Lib.hid (fun j u (hj : (ivCs xs)[j]? = some u) => ((Below.refl _ w).alloc (Nat.le_refl _) (.cells #[] 32)).cell (p := ⟨g, j, none⟩) hg |>.trans (own4_cells h j u hj))
    rw [← hn] at h0 hl ⊢
    have hne : ∀ W : World, (binOp .eql 24 (.slice (some ⟨g, 0, none⟩) n cap) (.slice none 0 0)).run Try.prog W = .ok (.bool false) W := fun W => by kernel_rfl
    clear h hn hg
    go_enter Try.func40, Try.ntmps40
    go_wp2_with (at_builtin; refine wpList_append_lies _ rfl (.tmp 5) (.tmp 6) 24 rfl w.heap.size 32 i0 (ivV 0 0 0 0) 4 32 Try.underlying24 hi hz0 hz1 hz2 rfl (by decide) _ 0 _ rfl OL.out ⟨g, 0, none⟩ n cap (ivCs xs) rfl (by rw [ivCs_len, HN.out]) (fun j u hu => by rw [show (⟨g, 0, none⟩ : Addr).add j = ⟨g, j, none⟩ from by unfold Addr.add; split <;> simp_all]; exact HC2.out j u hu) (ivCs_oneU xs) h0 (by unfold maxLen; omega) (by omega) (by simp) _ rfl ?_; intro g1 cap1 w1 hown' hgrow hat hgt)
    go_ret
    refine ⟨_, rfl, ?_, ((Below.refl _ w).alloc (Nat.le_refl _) _).grown hgrow (by simp) (fun j hj => by cases hj; exact Nat.le_refl _)⟩
    have := hown'
    rw [Nat.zero_add] at this
    rw [← HN.out]
    exact this
theorem isIdx_at {a : Int} {n : Nat} {z : Bool} (hz : decide (0 ≤ a ∧ a < n) = z) (p : Option Addr) (c : Nat) (w : World) : Calls Try.prog 39 #[.slice p n c, .int .i64 a] w fun e w' => e = .returned (.bool z) ∧ w = w' := by
  by_cases h0 : 0 ≤ a
  · by_cases h1 : a < n
    · rw [decide_eq_true ⟨h0, h1⟩] at hz
      subst hz
      go_enter Try.func39, Try.ntmps39
      go_wp2_with fail
      go_ret
      exact ⟨rfl, rfl⟩
    · rw [decide_eq_false (fun q => h1 q.2)] at hz
      subst hz
      go_enter Try.func39, Try.ntmps39
      go_wp2_with fail
      go_ret
      exact ⟨rfl, rfl⟩
  · rw [decide_eq_false (fun q => h0 q.1)] at hz
    subst hz
    have h2 : ¬ 0 ≤ a := h0
    go_enter Try.func39, Try.ntmps39
    go_wp2_with fail
    go_ret
    exact ⟨rfl, rfl⟩
end Go.Proofs.Ytbklnlmijkclmaa
/- Contracts of impl.Mistune and AffectedKeys. -/
namespace Go.Proofs.Ytbklnlmijkclmaa
open Go.RowKit Go.Joins Go.Maps
set_option linter.unusedVariables false
theorem not_at {xs : List Iv} {a : Int} {n : Nat} (hn : n = xs.length) (h : ¬ (0 ≤ a ∧ a < (n : Int))) : ¬ AtOk xs a := fun q => h ⟨q.2.1, by rw [hn]; exact q.2.2⟩
set_option maxRecDepth 100000 in
set_option maxHeartbeats 8000000 in
theorem mis_impl : MisImpl := by
  intro a ch w b v xs hl h
  have CC := Lib.hid (fun (W : World) (q : Below w.heap.size w W) => cloneSt_run W b _ v xs hl (own4_below h q))
  have PK := Lib.hid (planOk_impl w b v xs hl h)
  have hs : ∃ p c, v = .slice p xs.length c := by
    rcases own4_shape h with ⟨q, q'⟩ | ⟨g, cap, q, _⟩
    · exact ⟨none, 0, by rw [q, q']⟩
    · exact ⟨_, _, q⟩
  obtain ⟨p, c, rfl⟩ := hs
  obtain ⟨n, hn⟩ : ∃ n, n = xs.length := ⟨_, rfl⟩
  have HN := Lib.hid hn
  rw [← hn] at CC PK hl ⊢
  clear h
  by_cases hp : PlOk xs
  · rw [show planB xs = true from decide_eq_true hp] at PK
    have hn11 : n ≤ 11 := by rw [hn]; exact hp.1
    by_cases h1 : 0 ≤ a ∧ a < (n : Int)
    · have IX := Lib.hid (fun W => isIdx_at (decide_eq_true h1) p c W)
      by_cases h2 : -5000 ≤ ch
      · by_cases h3 : ch ≤ 5000
        · obtain ⟨A, hA⟩ : ∃ A : Nat, a = A := ⟨a.toNat, by omega⟩
          have hAn : A < n := by omega
          have g := hp.2 A (by omega)
          obtain ⟨r, hr⟩ : ∃ r, r = (ivAt xs A).root := ⟨_, rfl⟩
          have hr1 : 0 ≤ r ∧ r ≤ 5000 := by rw [hr]; exact g.2.2
          have HR := Lib.hid hr
          obtain ⟨ys, hys⟩ : ∃ ys, ys = misX xs A ch := ⟨_, rfl⟩
          have HY := Lib.hid hys
          have hyl : ys.length = n := by rw [hys, misX_len, hn]
          have HYL := Lib.hid hyl
          have AT : Hid (AtOk xs a) := Lib.hid ⟨hp, by omega, by omega⟩
          have MA : Hid ((AtOk xs a ∧ -5000 ≤ ch ∧ ch ≤ 5000) ∧ misX xs a.toNat ch = ys) := Lib.hid ⟨⟨AT.out, h2, h3⟩, by rw [hA, Int.toNat_natCast, hys]⟩
          obtain ⟨z, hz⟩ : ∃ z : Bool, planB ys = z := ⟨_, rfl⟩
          have HZ := Lib.hid hz
          have q1 : 0 ≤ (A : Int) := by omega
          have q2 : (A : Int) < n := by omega
          obtain ⟨r1, r2⟩ := hr1
          have h2' : ¬ ch < -5000 := by omega
          have h3' : ¬ 5000 < ch := by omega
          subst hA
          clear h1 g hr hys hyl hn hp hz AT
          go_enter Try.func14, Try.ntmps14
          go_wp2_with fail
          refine PK.out.mono ?_
          rintro e1 w1 ⟨rfl, b1⟩
          have B1 := Lib.hid b1
          clear b1
          go_wp2_with fail
          refine (IX.out _).mono ?_
          rintro e1 w2 ⟨rfl, rfl⟩
          go_wp2_with fail
          refine (CC.out _ B1.out).mono ?_
          rintro e1 w2 ⟨v1, rfl, o1, b2⟩
          rw [← HN.out] at o1
          obtain ⟨g, cp, rfl, hg0, hg1⟩ := own4_pos o1 (by omega)
          have O2 := Lib.hid o1
          have B2 := Lib.hid (B1.out.trans (b2.mono B1.out.size))
          have HG0 := Lib.hid (Nat.le_trans B1.out.size hg0)
          have HS := Lib.hid B1.out.size
          clear o1 b2 hg0 hg1 B1
          obtain ⟨_, _, _, x3⟩ := own_iv O2.out HN.out A hAn
          rw [← HR.out] at x3
          have f3 := O2.out.frozenAt (A * 4 + 3)
          have ST := (O2.out.stored (A * 4 + 3) (.int .i64 (r + ch))).1
          rw [ivCsM_root xs A _ (by rw [← HN.out]; exact hAn), HR.out, show xs.set A ⟨(ivAt xs A).two, (ivAt xs A).three, (ivAt xs A).five, (ivAt xs A).root + ch⟩ = ys from HY.out.symm, ← HR.out] at ST
          have O3 := Lib.hid (ownM_base ST HS.out)
          have B3 := Lib.hid (B2.out.setCell (p := ⟨g, A * 4 + 3, none⟩) HG0.out (.int .i64 (r + ch)))
          clear ST O2 B2
          go_upto_region 5 with fail
          obtain ⟨W4, hW4⟩ : ∃ W, W = w2.setCell ⟨g, A * 4 + 3, none⟩ (.int .i64 (r + ch)) := ⟨_, rfl⟩
          rw [← hW4] at O3 B3 ⊢
          have PY := Lib.hid (planOk_impl W4 _ _ ys (by have := HYL.out; omega) (by rw [HYL.out]; exact O3.out))
          rw [HZ.out] at PY
          clear hW4 x3 f3
          go_wp2_with fail
          refine PY.out.mono ?_
          rintro e1 w5 ⟨rfl, b5⟩
          have O5 := Lib.hid (own4_below O3.out b5)
          have B5 := Lib.hid (B3.out.trans (b5.mono B3.out.size))
          clear b5 O3 B3 PY
          cases z
          · have R := Lib.hid (mis_no (xs := xs) (a := (A : Int)) (ch := ch) (fun q => by have := q.2; rw [MA.out.2] at this; exact of_decide_eq_false HZ.out this))
            go_wp2_with fail
            refine (CC.out _ B5.out).mono ?_
            rintro e1 w6 ⟨v6, rfl, o6, b6⟩
            go_wp2_with fail
            go_ret2
            exact ⟨v6, ret_pair R.out.2, by rw [R.out.1]; exact ownM_base o6 B5.out.size, B5.out.trans (b6.mono B5.out.size)⟩
          · have R := Lib.hid (mis_yes (xs := xs) (a := (A : Int)) (ch := ch) ⟨MA.out.1, by rw [MA.out.2]; exact of_decide_eq_true HZ.out⟩)
            go_wp2_with fail
            go_ret2
            exact ⟨_, ret_pair R.out.2, by rw [R.out.1, MA.out.2, HYL.out]; exact O5.out, B5.out⟩
        · have R := Lib.hid (mis_no (xs := xs) (a := a) (ch := ch) (fun q => h3 q.1.2.2))
          have h2' : ¬ ch < -5000 := by omega
          have h3' : 5000 < ch := by omega
          clear h1 h2 h3 hp hn
          go_enter Try.func14, Try.ntmps14
          go_wp2_with fail
          refine PK.out.mono ?_
          rintro e1 w1 ⟨rfl, b1⟩
          go_wp2_with fail
          refine (IX.out _).mono ?_
          rintro e1 w2 ⟨rfl, rfl⟩
          go_wp2_with fail
          refine (CC.out _ b1).mono ?_
          rintro e1 w6 ⟨v6, rfl, o6, b6⟩
          go_wp2_with fail
          go_ret2
          exact ⟨v6, ret_pair R.out.2, by rw [R.out.1]; exact ownM_base o6 b1.size, b1.trans (b6.mono b1.size)⟩
      · have R := Lib.hid (mis_no (xs := xs) (a := a) (ch := ch) (fun q => h2 q.1.2.1))
        have h2' : ch < -5000 := by omega
        clear h1 h2 hp hn
        go_enter Try.func14, Try.ntmps14
        go_wp2_with fail
        refine PK.out.mono ?_
        rintro e1 w1 ⟨rfl, b1⟩
        go_wp2_with fail
        refine (IX.out _).mono ?_
        rintro e1 w2 ⟨rfl, rfl⟩
        go_wp2_with fail
        refine (CC.out _ b1).mono ?_
        rintro e1 w6 ⟨v6, rfl, o6, b6⟩
        go_wp2_with fail
        go_ret2
        exact ⟨v6, ret_pair R.out.2, by rw [R.out.1]; exact ownM_base o6 b1.size, b1.trans (b6.mono b1.size)⟩
    · have IX := Lib.hid (fun W => isIdx_at (decide_eq_false h1) p c W)
      have R := Lib.hid (mis_no (xs := xs) (a := a) (ch := ch) (fun q => not_at hn h1 q.1.1))
      clear h1 hp hn
      go_enter Try.func14, Try.ntmps14
      go_wp2_with fail
      refine PK.out.mono ?_
      rintro e1 w1 ⟨rfl, b1⟩
      go_wp2_with fail
      refine (IX.out _).mono ?_
      rintro e1 w2 ⟨rfl, rfl⟩
      go_wp2_with fail
      refine (CC.out _ b1).mono ?_
      rintro e1 w6 ⟨v6, rfl, o6, b6⟩
      go_wp2_with fail
      go_ret2
      exact ⟨v6, ret_pair R.out.2, by rw [R.out.1]; exact ownM_base o6 b1.size, b1.trans (b6.mono b1.size)⟩
  · rw [show planB xs = false from decide_eq_false hp] at PK
    have R := Lib.hid (mis_no (xs := xs) (a := a) (ch := ch) (fun q => hp q.1.1.1))
    clear hp hn
    go_enter Try.func14, Try.ntmps14
    go_wp2_with fail
    refine PK.out.mono ?_
    rintro e1 w1 ⟨rfl, b1⟩
    go_wp2_with fail
    refine (CC.out _ b1).mono ?_
    rintro e1 w6 ⟨v6, rfl, o6, b6⟩
    go_wp2_with fail
    go_ret2
    exact ⟨v6, ret_pair R.out.2, by rw [R.out.1]; exact ownM_base o6 b1.size, b1.trans (b6.mono b1.size)⟩
/-- The keys that a mistake in step a does not reach. -/
def rgt (a : Nat) : Int → Bool := fun x => decide (0 ≤ x ∧ x ≤ a)
def rgtTo (k : Nat) : Int → Bool := fun x => decide (0 ≤ x ∧ x < k)
/-- Behind steps a + 1 .. k - 1 of the second pass. -/
def rgtAt (n a k : Nat) : Int → Bool := fun x => decide (0 ≤ x ∧ x ≤ n ∧ ¬ ((a : Int) < x ∧ x ≤ k))
theorem rgtTo_zero : rgtTo 0 = fun _ => false := by funext x; simp [rgtTo]
theorem rgtTo_succ (k : Nat) : (fun z : Int => if z = (k : Int) then true else rgtTo k z) = rgtTo (k + 1) := by
  funext z
  unfold rgtTo
  by_cases e : z = (k : Int)
  · rw [if_pos e, decide_eq_true (by omega)]
  · rw [if_neg e]
    exact decide_eq_decide.2 (by omega)
theorem rgtAt_zero {n a : Nat} (h : a < n) : (fun z : Int => if z = ((a + 1 : Nat) : Int) then false else rgtTo (n + 1) z) = rgtAt n a (a + 1) := by
  funext z
  unfold rgtTo rgtAt
  by_cases e : z = ((a + 1 : Nat) : Int)
  · rw [if_pos e]
    exact (decide_eq_false (by omega)).symm
  · rw [if_neg e]
    exact decide_eq_decide.2 (by omega)
theorem rgtAt_succ {n a k : Nat} (h : a < k) : (fun z : Int => if z = ((k + 1 : Nat) : Int) then false else rgtAt n a k z) = rgtAt n a (k + 1) := by
  funext z
  unfold rgtAt
  by_cases e : z = ((k + 1 : Nat) : Int)
  · rw [if_pos e]
    exact (decide_eq_false (by omega)).symm
  · rw [if_neg e]
    exact decide_eq_decide.2 (by omega)
theorem rgtAt_last {n a : Nat} (h : a < n) : rgtAt n a n = rgt a := by
  funext z
  unfold rgtAt rgt
  exact decide_eq_decide.2 (by omega)
theorem rgtAt_no {n a k : Nat} (h : a < k) : rgtAt n a k (k : Int) = false := decide_eq_false (by omega)
/-- A row of the keys 0 to n in memory, and a plan's steps. -/
structure KeyRow (n gk : Nat) (w : World) : Prop where
  lt : gk < w.heap.size
  cells : ∀ j, j < n + 1 → w.cell? ⟨gk, j, none⟩ = some (.int .i64 (j : Int))
theorem keyRow_below {n gk : Nat} {w w' : World} (h : KeyRow n gk w) (hb : Below w.heap.size w w') : KeyRow n gk w' :=
  ⟨Nat.lt_of_lt_of_le h.lt hb.size, fun j hj => (hb.cell (p := ⟨gk, j, none⟩) h.lt).trans (h.cells j hj)⟩
set_option maxRecDepth 100000 in
set_option maxHeartbeats 8000000 in
theorem right_impl {xs : List Iv} (hp : PlOk xs) {n A : Nat} (hn : n = xs.length) (hA : A < n) {gk ck : Nat} (w : World) (b : Nat) (v : Value) (h : w.ownsRow b 32 4 v n (ivCs xs)) (hk : KeyRow n gk w) :
    Calls Try.prog 44 #[.slice (some ⟨gk, 0, none⟩) (n + 1) ck, v, .int .i64 (A : Int)] w fun e w' => (∃ B, e = .returned (.map (some B)) ∧ w.heap.size ≤ B ∧ MapB B 100 (rgt A) w') ∧ Below w.heap.size w w' := by
  have hmm := @run_makeMap Try.prog
  have hn11 : n ≤ 11 := by rw [hn]; exact hp.1
  obtain ⟨gx, cx, rfl, _, lgx⟩ := own4_pos h (by omega)
  have HN := Lib.hid hn
  have HP := Lib.hid hp
  have HO := Lib.hid h
  have KK := Lib.hid hk
  have LG := Lib.hid lgx
  clear h hk hp hn lgx
  go_enter Try.func44, Try.ntmps44
  go_wp2_with fail
  obtain ⟨W0, hW0⟩ : ∃ W, W = w.alloc (.map #[] 0) := ⟨_, rfl⟩
  have M0 : Hid (MapB w.heap.size 0 (rgtTo 0) W0) := Lib.hid (by rw [hW0, rgtTo_zero]; exact mapB_made w)
  have B0 : Hid (Below w.heap.size w W0) := Lib.hid (by rw [hW0]; exact below_alloc1 w _)
  rw [← hW0]
  clear hW0
  go_loopw [15] (fun i wr => ∃ k : Nat, k ≤ n + 1 ∧ i = .int .i64 (k : Int) ∧ Hid (MapB w.heap.size k (rgtTo k) wr) ∧ Hid (Below w.heap.size w wr)) (fun i _ => n + 1 - (intOf i).toNat)
  case atStart => exact ⟨0, by omega, rfl, M0, B0⟩
  case round =>
    obtain ⟨k, hk, rfl, HM, HB⟩ := hrel
    clear M0 B0
    by_cases hlt : k < n + 1
    · have q3 : (k : Int) < ((n + 1 : Nat) : Int) := by omega
      have k0 : 0 ≤ (k : Int) := by omega
      have x0 := (HB.out.cell (p := ⟨gk, k, none⟩) KK.out.lt).trans (KK.out.cells k hlt)
      obtain ⟨w5, hrun, m5, g5⟩ := mapB_store HM.out (x := (k : Int)) (by omega) (WalkArith.wf_i64 (by omega)) true
      rw [rgtTo_succ] at m5
      have M5 := Lib.hid m5
      have B5 := Lib.hid (HB.out.grown g5 HB.out.size (fun j hj => by cases hj; exact Nat.le_refl _))
      have HLT := Lib.hid hlt
      clear m5 g5 HM HB hlt
      go_wp2_with fail
      go_roundw
      case rel => exact ⟨k + 1, HLT.out, by go_num, M5, B5⟩
      case measure => simp [intOf]; omega
    · have q3 : ¬ (k : Int) < ((n + 1 : Nat) : Int) := by omega
      obtain rfl : k = n + 1 := by omega
      have r1 := own_iv (own4_below HO.out HB.out) HN.out A hA
      obtain ⟨kd, bt, hX, hkd, hbt⟩ := good_step HP.out (k := A) (by have := HN.out; omega)
      rw [hX] at r1
      obtain ⟨x0, x1, x2, x3⟩ := r1
      dsimp only at x0 x1 x2 x3
      obtain ⟨w5, hrun, m5, g5⟩ := mapB_drop HM.out (x := (A : Int) + 1) (WalkArith.wf_i64 (by omega))
      have e5 := rgtAt_zero hA
      push_cast at e5
      rw [e5] at m5
      have M5 := Lib.hid m5
      have B5 := Lib.hid (HB.out.grown g5 HB.out.size (fun j hj => by cases hj; exact Nat.le_refl _))
      have a0 : 0 ≤ (A : Int) := by omega
      have a1 : (A : Int) < (n : Int) := by omega
      have cxn : n ≤ cx := by
        rcases HO.out.2 with ⟨q, _⟩ | ⟨_, _, _, q, _, _, q2, _⟩
        · simp at q
        · simp only [Value.slice.injEq, Option.some.injEq, Addr.mk.injEq, and_true, true_and] at q
          obtain ⟨rfl, rfl⟩ := q
          exact q2
      clear m5 g5 e5 HM HB x0 x2 x3 hX hkd hbt hmm hlt
      go_upto_region 8 with fail
      clear x1 hrun
      by_cases hc : cx = A + 1
      · obtain rfl : n = A + 1 := by omega
        have M6 : MapB w.heap.size 100 (rgt A) w5 := by
          have := mapB_more M5.out (m := 100) (by omega)
          rw [rgtAt_last (by omega)] at this
          exact this
        have HM := Lib.hid M6
        clear M6
        go_wp2_with fail
        refine wp_loop_rounds 1 ?_
        rw [rounds_succ]
        go_wp2_with fail
        go_ret
        exact ⟨⟨_, rfl, Nat.le_refl _, HM.out⟩, B5.out⟩
      · go_wp2_with fail
        obtain ⟨M, hM⟩ : ∃ M, M = n - (A + 1) := ⟨_, rfl⟩
        obtain ⟨O, hO⟩ : ∃ O, O = (A + 1) * 4 := ⟨_, rfl⟩
        rw [← hM, ← hO]
        have HM := Lib.hid (show M + (A + 1) = n by omega)
        have hM11 : M ≤ 11 := by omega
        have HOO := Lib.hid hO
        clear hM hO hc cxn
        go_loopw [33] (fun i wr => ∃ j : Nat, j ≤ M ∧ i = .int .i64 (j : Int) ∧ Hid (MapB w.heap.size (n + 1) (rgtAt n A (A + 1 + j)) wr) ∧ Hid (Below w.heap.size w wr)) (fun i _ => M - (intOf i).toNat)
        case atStart => exact ⟨0, Nat.zero_le _, rfl, M5, B5⟩
        case round =>
          obtain ⟨j, hj, rfl, HB, HW⟩ := hrel
          clear M5 B5
          by_cases hlt : j < M
          · have q4 : (j : Int) < (M : Int) := by omega
            have j0 : 0 ≤ (j : Int) := by omega
            obtain ⟨K, hK⟩ : ∃ K, K = A + 1 + j := ⟨_, rfl⟩
            have hKn : K < n := by have := HM.out; omega
            have r1 := own_iv (own4_below HO.out HW.out) HN.out K hKn
            obtain ⟨kd, bt, hX, hkd, hbt⟩ := good_step HP.out (k := K) (by have := HN.out; omega)
            rw [hX] at r1
            obtain ⟨x0, x1, x2, x3⟩ := r1
            dsimp only at x0 x1 x2 x3
            rw [show K * 4 = O + j * 4 by have := HOO.out; omega] at x0 x1 x2 x3
            have HKK := Lib.hid hK
            rw [← hK] at HB
            have HKN := Lib.hid hKn
            have HLT := Lib.hid hlt
            clear hX hkd hbt hK hKn hlt
            go_upto_region 11 with fail
            obtain ⟨W1, hW1⟩ : ∃ W, W = wr.alloc (.cells #[.int .i64 (K : Int), .int .i64 ((K : Int) + 1), .int .i64 kd, .int .i64 bt] 32) := ⟨_, rfl⟩
            have BA : Hid (Below w.heap.size w W1) := Lib.hid (by rw [hW1]; exact HW.out.alloc HW.out.size _)
            have M1 : Hid (MapB w.heap.size (n + 1) (rgtAt n A K) W1) := Lib.hid (by rw [hW1]; exact mapB_below HB.out (below_alloc1 _ _))
            have F4 : Four wr.heap.size (K : Int) ((K : Int) + 1) kd bt W1 := by rw [hW1]; exact four_alloc
            rw [← hW1]
            clear hW1 x0 x1 x2 x3 HB HW
            generalize wr.heap.size = m1 at F4 ⊢
            obtain ⟨_, y0, y1, _, _⟩ := F4
            have lk := mapB_look M1.out (x := (K : Int)) (WalkArith.wf_i64 (by have := HKN.out; omega))
            rw [rgtAt_no (by have := HKK.out; omega)] at lk
            obtain ⟨w6, hrun, m6, g6⟩ := mapB_drop M1.out (x := (K : Int) + 1) (WalkArith.wf_i64 (by have := HKN.out; omega))
            have e6 := rgtAt_succ (n := n) (a := A) (k := K) (by have := HKK.out; omega)
            push_cast at e6
            rw [e6, show K + 1 = A + 1 + (j + 1) by have := HKK.out; omega] at m6
            have M6 := Lib.hid m6
            have B6 := Lib.hid (BA.out.grown g6 BA.out.size (fun j hj => by cases hj; exact Nat.le_refl _))
            clear e6 m6 g6
            go_wp2_with fail
            go_roundw
            case rel => exact ⟨j + 1, HLT.out, by go_num, M6, B6⟩
            case measure => simp [intOf]; omega
          · have q4 : ¬ (j : Int) < (M : Int) := by omega
            obtain rfl : j = M := by omega
            have M6 : Hid (MapB w.heap.size 100 (rgt A) wr) := Lib.hid (by
              have := mapB_more HB.out (m := 100) (by omega)
              rw [show A + 1 + j = n from by have := HM.out; omega, rgtAt_last (by omega)] at this
              exact this)
            go_wp2_with fail
            go_ret
            exact ⟨⟨_, rfl, Nat.le_refl _, M6.out⟩, HW.out⟩
/-- The closure. -/
def Inv (m B A : Nat) (w : World) : Prop := w.cell? ⟨m, 0, none⟩ = some (.map (some B)) ∧ MapB B 100 (rgt A) w
theorem inv_set {m B A g : Nat} {w : World} (h : Inv m B A w) (h1 : g ≠ m) (h2 : g ≠ B) (j : Nat) (v : Value) : Inv m B A (w.setCell ⟨g, j, none⟩ v) :=
  ⟨by rw [World.cell?_setCell_other _ _ _ _ (by intro e; cases e; exact h1 rfl)]; exact h.1, mapB_set h.2 (fun e => h2 e.symm) v⟩
theorem clos_aff {m B A : Nat} {x : Int} (hx : (Lit.int .i64 x).wf = true) (w : World) (h : Inv m B A w) :
    Calls Try.prog 46 #[.int .i64 x, .pointer (some ⟨m, 0, none⟩)] w fun e w' => e = .returned (.bool (rgt A x)) ∧ w = w' := by
  have c0 := h.1
  have lk := mapB_look h.2 hx
  clear h
  go_enter Try.func46, Try.ntmps46
  go_wp2_with fail
  go_ret
  exact ⟨rfl, rfl⟩
theorem indexI_run {m B A n g cap : Nat} (w : World) (h : Inv m B A w) (hc : w.cell? ⟨g, 0, none⟩ = some (.int .i64 0)) :
    Calls Try.prog 65 #[.slice (some ⟨g, 0, none⟩) (n + 1) cap, .func (.func 46) #[] #[.pointer (some ⟨m, 0, none⟩)]] w fun e w' => e = .returned (.int .i64 0) ∧ w = w' := by
  have CL := Lib.hid (clos_aff (x := 0) (by decide) w h)
  rw [show rgt A 0 = true from decide_eq_true (by omega)] at CL
  clear h
  go_enter Try.func65, Try.ntmps65
  go_wp2_with fail
  refine wp_loop_rounds 1 ?_
  rw [rounds_succ]
  go_wp2_with fail
  refine CL.out.mono ?_
  rintro e w1 ⟨rfl, rfl⟩
  go_wp2_with fail
  go_ret
  exact ⟨rfl, rfl⟩
/-- The row while keys are deleted: x of them are kept. -/
def delRow (n A x : Nat) : List Int := (List.range (n + 1)).map fun (t : Nat) => if t < x then ((t + (A + 1) : Nat) : Int) else (t : Int)
theorem delRow_len (n A x : Nat) : (delRow n A x).length = n + 1 := by simp [delRow]
theorem delRow_zero (n A : Nat) : delRow n A 0 = keyUp n := by simp [delRow, keyUp]
theorem delRow_at {n A x j : Nat} (h : j < n + 1) : (delRow n A x).getD j 0 = if j < x then ((j + (A + 1) : Nat) : Int) else (j : Int) := by simp [delRow, h]
theorem delRow_set {n A x : Nat} (h : x < n + 1) : (intCs (delRow n A x)).set x (.int .i64 ((x + (A + 1) : Nat) : Int)) = intCs (delRow n A (x + 1)) := by
  unfold intCs delRow
  apply List.ext_getElem
  · simp
  · intro i h1 h2
    rw [List.getElem_set]
    simp only [List.getElem_map, List.getElem_range]
    by_cases e : x = i
    · subst e; simp
    · rw [if_neg e]
      by_cases q : i < x
      · rw [if_pos q, if_pos (by omega)]
      · rw [if_neg q, if_neg (by omega)]
theorem delRow_take {n A : Nat} (h : A < n) (hn : n ≤ 11) : (delRow n A (n - A)).take (n - A) = affTo n A 12 := by
  unfold delRow affTo
  rw [show min 12 (n + 1) = n + 1 by omega]
  have : ∀ m, m ≤ 12 → ∀ a, a < m → ((List.range (m + 1)).map fun (t : Nat) => if t < m - a then ((t + (a + 1) : Nat) : Int) else (t : Int)).take (m - a) = ((List.range (m + 1)).filter fun j => a < j).map fun (j : Nat) => (j : Int) := by decide +kernel
  exact this n (by omega) A h
theorem own_cutI {w : World} {base g n cap i : Nat} {e : TypeId} {xs : List Value} (h : w.ownsRow base e 1 (.slice (some ⟨g, 0, none⟩) n cap) n xs) (hi : i ≤ n) : w.ownsRow base e 1 (.slice (some ⟨g, 0, none⟩) i cap) i (xs.take i) := by
  refine ⟨by rw [List.length_take, h.1]; omega, ?_⟩
  rcases h.2 with ⟨h', _⟩ | ⟨g', cap', cur, h', hb, hg, hnc, hcm, hcs, htake⟩
  · simp at h'
  · simp only [Value.slice.injEq, Option.some.injEq, Addr.mk.injEq, and_true, true_and] at h'
    obtain ⟨rfl, rfl⟩ := h'
    refine .inr ⟨g, cap, cur, rfl, hb, hg, Nat.le_trans hi hnc, hcm, hcs, ?_⟩
    rw [← htake, List.take_take]
    simp only [Nat.mul_one]
    rw [Nat.min_eq_left hi]
theorem own_behindI {base g i cap : Nat} {e : TypeId} {xs : List Value} (hg : base ≤ g) : ∀ (vs : List Value) (o : Nat) (w : World), w.ownsRow base e 1 (.slice (some ⟨g, 0, none⟩) i cap) i xs → i ≤ o →
    (w.setCells g o vs).ownsRow base e 1 (.slice (some ⟨g, 0, none⟩) i cap) i xs ∧ ∀ w0, Below base w0 w → Below base w0 (w.setCells g o vs)
  | [], o, w, h, _ => ⟨h, fun _ hb => hb⟩
  | v :: vs, o, w, h, ho => by
    have k := (h.stored o v).1
    rw [List.set_eq_of_length_le (by rw [h.1]; omega)] at k
    obtain ⟨k1, k2⟩ := own_behindI hg vs (o + 1) (w.setCell ⟨g, o, none⟩ v) k (by omega)
    exact ⟨k1, fun w0 hb => k2 w0 (hb.setCell (p := ⟨g, o, none⟩) hg v)⟩
theorem zero_cells1 (n : Nat) : (Builtin.zeroCells (#[.int .i64 0] : Array Value) n).toList = List.replicate n (.int .i64 0) := by
  unfold Builtin.zeroCells
  apply List.ext_getElem
  · simp
  · intro i h1 h2
    simp [Nat.mod_one]
theorem clear_int {P : Program} (w : World) (t e ty : TypeId) (ht : P.underlying t = some (.slice e)) (hv : ∀ w, (zeroValue e).run P w = .ok (.int .i64 0) w) (b o n c : Nat) (hn : 0 < n)
    (hc : ∀ j, j < n → (w.cell? ⟨b, o + j, none⟩).isSome = true) (hf : ∀ j, j < n → w.frozen? ⟨b, o + j, none⟩ = false) :
    (Builtin.clear_ #[t] ty #[.slice (some ⟨b, o, none⟩) n c]).run P w = .ok (.tuple #[]) (w.setCells b o (List.replicate n (.int .i64 0))) := by
  have hz : (Value.int .i64 0).cells = #[.int .i64 0] := by simp [Value.cells]
  have hzc : (Builtin.zeroCells (Value.int .i64 0).cells n).toList = List.replicate n (.int .i64 0) := by rw [hz]; exact zero_cells1 n
  have hst := run_storeCells_cells (P := P) b o (List.replicate n (.int .i64 0)) 0 w (by simpa using hc) (by simpa using hf) (by intro v hv'; rw [List.eq_of_mem_replicate hv']; rfl)
  simp only [Nat.add_zero] at hst
  obtain ⟨m, rfl⟩ : ∃ m, n = m + 1 := ⟨n - 1, by omega⟩
  simp [Builtin.clear_, run_underlying ht, hv, hzc, hst]
/-- The row of keys while some are deleted. -/
structure Del (n A m B b g cap x : Nat) (w0 w : World) : Prop where
  row : w.ownsRow b 3 1 (.slice (some ⟨g, 0, none⟩) (n + 1) cap) (n + 1) (intCs (delRow n A x))
  inv : Inv m B A w
  bel : Below b w0 w
theorem Del.put {n A m B b g cap x : Nat} {w0 w : World} (h : Del n A m B b g cap x w0 w) (hx : x < n + 1) (h1 : g ≠ m) (h2 : g ≠ B) (hb : b ≤ g) : Del n A m B b g cap (x + 1) w0 (w.setCell ⟨g, x, none⟩ (.int .i64 ((x + (A + 1) : Nat) : Int))) := by
  have k := (h.row.stored x (.int .i64 ((x + (A + 1) : Nat) : Int))).1
  rw [delRow_set hx] at k
  exact ⟨k, inv_set h.inv h1 h2 _ _, h.bel.setCell (p := ⟨g, x, none⟩) hb _⟩
theorem Del.cap_le {n A m B b g cap x : Nat} {w0 w : World} (h : Del n A m B b g cap x w0 w) : n + 1 ≤ cap := by
  rcases h.row.2 with ⟨h', _⟩ | ⟨g', cap', cur, h', hb, hg, hnc, _⟩
  · simp at h'
  · simp only [Value.slice.injEq, Option.some.injEq, Addr.mk.injEq, and_true, true_and] at h'
    rw [h'.2]
    exact hnc
set_option maxRecDepth 100000 in
set_option maxHeartbeats 4000000 in
theorem deleteI_run {n A m B b g cap : Nat} {w0 : World} (hA : A < n) (hn : n ≤ 11) (h1 : g ≠ m) (h2 : g ≠ B) (hb : b ≤ g) (w : World) (h : Del n A m B b g cap 0 w0 w) :
    Calls Try.prog 45 #[.slice (some ⟨g, 0, none⟩) (n + 1) cap, .func (.func 46) #[] #[.pointer (some ⟨m, 0, none⟩)]] w
      fun e w' => (∃ v, e = .returned v ∧ w'.ownsRow b 3 1 v (affTo n A 12).length (intCs (affTo n A 12))) ∧ Below b w0 w' := by
  have IX := Lib.hid (indexI_run (n := n) (g := g) (cap := cap) w h.inv (by rw [own_icell h.row 0 (by omega), delRow_at (by omega)]; rfl))
  have D0 := Lib.hid h
  have CLR := Lib.hid (fun W i ty (hi : i < n + 1) (hs : (∀ j, j < n + 1 - i → (W.cell? ⟨g, i + j, none⟩).isSome = true) ∧ ∀ j, j < n + 1 - i → W.frozen? ⟨g, i + j, none⟩ = false) =>
    clear_int (P := Try.prog) W 33 3 ty Try.underlying33 zeroInt g i (n + 1 - i) (cap - i) (by omega) hs.1 hs.2)
  clear h
  go_enter Try.func45, Try.ntmps45
  go_wp2_with fail
  refine IX.out.mono ?_
  rintro e w1 ⟨rfl, rfl⟩
  clear IX
  go_wp2_with fail
  go_loopw [5, 6, 7] (fun i j _ wr => ∃ (y : Nat), y ≤ n + 1 ∧ 1 ≤ y ∧ i = .int .i64 ((y - (A + 1) : Nat) : Int) ∧ j = .int .i64 (y : Int) ∧ Hid (Del n A m B b g cap (y - (A + 1)) w0 wr)) (fun _ j _ _ => n + 1 - (intOf j).toNat)
  case atStart => exact ⟨1, by omega, by omega, by rw [show 1 - (A + 1) = 0 by omega]; rfl, by go_num, by rw [show 1 - (A + 1) = 0 by omega]; exact D0⟩
  case round =>
    obtain ⟨y, hy, hy1, rfl, rfl, HD⟩ := hrel
    clear D0
    by_cases hlt : y < n + 1
    · have q1 : (y : Int) < ((n + 1 : Nat) : Int) := by omega
      have y0 : 0 ≤ (y : Int) := by omega
      obtain ⟨x, hx⟩ : ∃ x, x = y - (A + 1) := ⟨_, rfl⟩
      have c0 := own_icell HD.out.row y hlt
      rw [delRow_at hlt, if_neg (by omega)] at c0
      have CL := Lib.hid (clos_aff (m := m) (B := B) (A := A) (x := (y : Int)) (WalkArith.wf_i64 (by omega)) wr HD.out.inv)
      by_cases hr : y ≤ A
      · rw [show rgt A (y : Int) = true from decide_eq_true (by omega)] at CL
        have NX : Hid (Del n A m B b g cap (y + 1 - (A + 1)) w0 wr) := Lib.hid (by rw [show y + 1 - (A + 1) = y - (A + 1) by omega]; exact HD.out)
        have e1 : y - (A + 1) = y + 1 - (A + 1) := by omega
        rw [e1]
        have HLT := Lib.hid hlt
        clear hlt hr hx HD e1
        go_wp2_with fail
        refine CL.out.mono ?_
        rintro e w2 ⟨rfl, rfl⟩
        go_wp2_with fail
        go_roundw
        case rel => exact ⟨y + 1, HLT.out, by omega, by rw [show y + 1 - (A + 1) = y - A by omega], by go_num, NX⟩
        case measure => simp [intOf]; omega
      · rw [show rgt A (y : Int) = false from decide_eq_false (by omega)] at CL
        rw [← hx] at HD ⊢
        have DP := HD.out.put (by omega) h1 h2 hb
        rw [show x + (A + 1) = y by omega] at DP
        have NX := Lib.hid DP
        have x0 : 0 ≤ (x : Int) := by omega
        have x1 : (x : Int) < ((n + 1 : Nat) : Int) := by omega
        have cx := own_icell HD.out.row x (by omega)
        have fx := HD.out.row.frozenAt x
        have EX := Lib.hid (show y + 1 - (A + 1) = x + 1 by omega)
        have HLT := Lib.hid hlt
        clear hlt hr hx DP HD
        go_wp2_with fail
        refine CL.out.mono ?_
        rintro e w2 ⟨rfl, rfl⟩
        go_wp2_with fail
        go_roundw
        case rel => exact ⟨y + 1, HLT.out, by omega, by rw [EX.out]; go_num, by go_num, by rw [EX.out]; exact NX⟩
        case measure => simp [intOf]; omega
    · obtain rfl : y = n + 1 := by omega
      have q1 : ¬ ((n + 1 : Nat) : Int) < ((n + 1 : Nat) : Int) := by omega
      rw [show n + 1 - (A + 1) = n - A by omega] at HD ⊢
      obtain ⟨i, hi⟩ : ∃ i, i = n - A := ⟨_, rfl⟩
      have AL : Hid ((delRow n A i).take i = affTo n A 12) := Lib.hid (by rw [hi]; exact delRow_take hA hn)
      rw [← hi] at HD ⊢
      have hin : i < n + 1 := by omega
      have q2 : (i : Int) ≤ ((n + 1 : Nat) : Int) := by omega
      have q3 : (0 : Int) ≤ (i : Int) := by omega
      have cp := HD.out.cap_le
      have cp1 : i ≤ cap := by omega
      have cp2 : ¬ cap = i := by omega
      have hcl := fun ty => CLR.out wr i ty hin ⟨fun t ht => by rw [own_icell HD.out.row (i + t) (by omega)]; rfl, fun t _ => HD.out.row.frozenAt _⟩
      have LN : Hid ((affTo n A 12).length = i) := Lib.hid (by rw [← AL.out, List.length_take, delRow_len]; omega)
      have CUT : Hid ((wr.setCells g i (List.replicate (n + 1 - i) (.int .i64 0))).ownsRow b 3 1 (.slice (some ⟨g, 0, none⟩) i cap) i (intCs (affTo n A 12)) ∧ Below b w0 (wr.setCells g i (List.replicate (n + 1 - i) (.int .i64 0)))) := Lib.hid (by
        have k := own_cutI HD.out.row (Nat.le_of_lt hin)
        rw [show (intCs (delRow n A i)).take i = intCs (affTo n A 12) by rw [← AL.out]; unfold intCs; rw [List.map_take]] at k
        obtain ⟨k1, k2⟩ := own_behindI hb (List.replicate (n + 1 - i) (.int .i64 0)) i wr k (Nat.le_refl _)
        exact ⟨k1, k2 w0 HD.out.bel⟩)
      clear HD CLR hi
      go_wp2_with fail
      go_ret
      exact ⟨⟨_, rfl, by rw [LN.out]; exact CUT.out.1⟩, CUT.out.2⟩
theorem aff_no {xs : List Iv} {a : Int} (h : ¬ AtOk xs a) : affL xs a = [] := if_neg h
theorem aff_yes {xs : List Iv} {A : Nat} (h : AtOk xs (A : Int)) : affL xs (A : Int) = affTo xs.length A 12 := by
  unfold affL
  rw [if_pos h, Int.toNat_natCast]
set_option maxRecDepth 100000 in
set_option maxHeartbeats 4000000 in
theorem aff_impl : AffImpl := by
  intro a w b v xs hl h
  have KO := Lib.hid (keysOf_impl w b _ v xs hl h)
  have hs : ∃ p c, v = .slice p xs.length c := by
    rcases own4_shape h with ⟨q, q'⟩ | ⟨g, cap, q, _⟩
    · exact ⟨none, 0, by rw [q, q']⟩
    · exact ⟨_, _, q⟩
  obtain ⟨p, c, rfl⟩ := hs
  obtain ⟨n, hn⟩ : ∃ n, n = xs.length := ⟨_, rfl⟩
  have HN := Lib.hid hn
  rw [← hn] at KO hl h ⊢
  have HO := Lib.hid h
  clear h
  by_cases hp : PlOk xs
  · rw [show planB xs = true from decide_eq_true hp, keysL_up hp, ← hn] at KO
    have hn11 : n ≤ 11 := by rw [hn]; exact hp.1
    by_cases h1 : 0 ≤ a ∧ a < (n : Int)
    · have IX := Lib.hid (fun W => isIdx_at (decide_eq_true h1) p c W)
      obtain ⟨A, hA⟩ : ∃ A : Nat, a = A := ⟨a.toNat, by omega⟩
      have hAn : A < n := by omega
      have R := Lib.hid (show affL xs a = affTo n A 12 by rw [hA, hn]; exact aff_yes ⟨hp, by omega, by omega⟩)
      have HP := Lib.hid hp
      subst hA
      clear h1 hp hn
      have hmf : ∀ (fn : Fn) (first cap : Array Value) (w : World), (Instr.makeFunc fn first cap).run Try.prog w = .ok (.func fn first cap) w := fun _ _ _ _ => rfl
      go_enter Try.func16, Try.ntmps16
      go_wp2_with fail
      refine KO.out.mono ?_
      rintro e1 w1 ⟨v1, rfl, o1, b1⟩
      rw [keyUp_len] at o1
      obtain ⟨g, cap, rfl, hg0, hg1⟩ : ∃ g cap, v1 = .slice (some ⟨g, 0, none⟩) (n + 1) cap ∧ w.heap.size ≤ g ∧ g < w1.heap.size := by
        rcases o1.2 with ⟨_, q⟩ | ⟨g, cap, _, q, q2, q3, _⟩
        · omega
        · exact ⟨g, cap, q, q2, World.block_lt_of_cell? _ _ (by rw [own_icell (q ▸ o1) 0 (by omega)])⟩
      have O1 := Lib.hid o1
      have B1 := Lib.hid b1
      have HG0 := Lib.hid hg0
      have HG1 := Lib.hid hg1
      have KR : Hid (KeyRow n g w1) := Lib.hid ⟨hg1, fun j hj => by rw [own_icell o1 j hj, keyUp_at n j (by omega)]⟩
      clear o1 b1 hg0 hg1 KO
      go_wp2_with fail
      refine (IX.out _).mono ?_
      rintro e1 w2 ⟨rfl, rfl⟩
      have RI := Lib.hid (right_impl (ck := cap) HP.out HN.out hAn w1 b _ (own4_below HO.out B1.out) KR.out)
      go_wp2_with fail
      refine RI.out.mono ?_
      rintro e1 w3 ⟨⟨B, rfl, hB, hM⟩, b3⟩
      have O3 := Lib.hid (own_below O1.out b3)
      have B3 := Lib.hid (B1.out.trans (b3.mono B1.out.size))
      have M3 := Lib.hid hM
      have NB := Lib.hid (show g ≠ B by have := HG1.out; omega)
      have NG := Lib.hid (Nat.lt_of_lt_of_le HG1.out b3.size)
      clear hB hM b3 RI KR
      go_upto_region 5 with fail
      obtain ⟨W4, hW4⟩ : ∃ W, W = w3.alloc (.cells #[.map (some B)] 62) := ⟨_, rfl⟩
      have DD : Hid (Del n A w3.heap.size B w.heap.size g cap 0 w W4) := Lib.hid (by
        rw [hW4]
        exact ⟨by rw [delRow_zero]; exact O3.out.alloc _, ⟨by simp, mapB_below M3.out (below_alloc1 _ _)⟩, B3.out.alloc B3.out.size _⟩)
      rw [← hW4]
      have DR := Lib.hid (deleteI_run hAn hn11 (by have := NG.out; omega) NB.out HG0.out W4 DD.out)
      clear hW4 DD O3 B3 M3
      generalize w3.heap.size = m at DR ⊢
      go_wp2_with fail
      refine DR.out.mono ?_
      rintro e1 w5 ⟨⟨v5, rfl, o5⟩, b5⟩
      go_wp2_with fail
      go_ret
      exact ⟨_, rfl, by rw [R.out]; exact o5, b5⟩
    · have IX := Lib.hid (fun W => isIdx_at (decide_eq_false h1) p c W)
      have R := Lib.hid (aff_no (not_at hn h1))
      clear h1 hp hn
      go_enter Try.func16, Try.ntmps16
      go_wp2_with fail
      refine KO.out.mono ?_
      rintro e1 w1 ⟨v1, rfl, o1, b1⟩
      go_wp2_with fail
      refine (IX.out _).mono ?_
      rintro e1 w2 ⟨rfl, rfl⟩
      go_wp2_with fail
      go_ret
      exact ⟨_, rfl, by rw [R.out]; exact World.ownsRow_nil _ _ _ _, b1⟩
  · rw [show planB xs = false from decide_eq_false hp] at KO
    have R := Lib.hid (aff_no (xs := xs) (a := a) (fun q => hp q.1))
    clear hp hn
    go_enter Try.func16, Try.ntmps16
    go_wp2_with fail
    refine KO.out.mono ?_
    rintro e1 w1 ⟨v1, rfl, o1, b1⟩
    go_wp2_with fail
    go_ret
    exact ⟨_, rfl, by rw [R.out]; exact World.ownsRow_nil _ _ _ _, b1⟩
end Go.Proofs.Ytbklnlmijkclmaa
