/- The keys of a circle sorted in place: contracts of cmp.Compare at ints, the order's closure, slices.insertionSortCmpFunc, stableCmpFunc, SortStableFunc, Clone and sortedBy at twelve ints. -/
import Derived.Test.YtjfeeppbbckneabBestMath
import Derived.Test.YtjfeeppbbckneabThirdParts
import Derived.Test.YtjfeeppbbckneabMarkOwn
import Derived.Deep.RegionHeld3
import Derived.BigRegion
import Derived.Deep.RegionWith
import Derived.Deep.AppendLies
namespace Go.Proofs.Ytjfeeppbbckneab
open Go.RowKit Go.Joins
set_option linter.unusedVariables false
theorem nanInt (x : Int) (w : World) : Calls Try.prog 67 #[.int .i64 x] w fun e w' => e = .returned (.bool false) ∧ w = w' := by
  have t : (x != x) = false := by simp
  go_enter Try.func67, Try.ntmps67
  go_wp2_with fail
  go_ret
  exact ⟨rfl, rfl⟩
/-- The comparison of two ints. -/
def cmpZ (x y : Int) : Int := if x < y then -1 else if y < x then 1 else 0
theorem cmpZ_neg (x y : Int) : cmpZ x y < 0 ↔ x < y := by
  unfold cmpZ
  split
  · simp; assumption
  · split <;> omega
theorem compareInt (x y : Int) (w : World) : Calls Try.prog 44 #[.int .i64 x, .int .i64 y] w fun e w' => e = .returned (.int .i64 (cmpZ x y)) ∧ w = w' := by
  by_cases h1 : x < y
  · have e : cmpZ x y = -1 := by unfold cmpZ; rw [if_pos h1]
    rw [e]
    clear e
    go_enter Try.func44, Try.ntmps44
    go_wp2_with fail
    refine (nanInt _ _).mono ?_
    rintro e1 w1 ⟨rfl, rfl⟩
    go_wp2_with fail
    refine (nanInt _ _).mono ?_
    rintro e1 w1 ⟨rfl, rfl⟩
    go_wp2_with fail
    go_ret
    exact ⟨rfl, rfl⟩
  · by_cases h2 : y < x
    · have e : cmpZ x y = 1 := by unfold cmpZ; rw [if_neg h1, if_pos h2]
      rw [e]
      clear e
      go_enter Try.func44, Try.ntmps44
      go_wp2_with fail
      refine (nanInt _ _).mono ?_
      rintro e1 w1 ⟨rfl, rfl⟩
      go_wp2_with fail
      refine (nanInt _ _).mono ?_
      rintro e1 w1 ⟨rfl, rfl⟩
      go_wp2_with fail
      go_ret
      exact ⟨rfl, rfl⟩
    · have e : cmpZ x y = 0 := by unfold cmpZ; rw [if_neg h1, if_neg h2]
      rw [e]
      clear e
      go_enter Try.func44, Try.ntmps44
      go_wp2_with fail
      refine (nanInt _ _).mono ?_
      rintro e1 w1 ⟨rfl, rfl⟩
      go_wp2_with fail
      refine (nanInt _ _).mono ?_
      rintro e1 w1 ⟨rfl, rfl⟩
      go_wp2_with fail
      go_ret
      exact ⟨rfl, rfl⟩
theorem compare_from {W w : World} (x y : Int) (h : Below W.heap.size W w) : Calls Try.prog 44 #[.int .i64 x, .int .i64 y] w fun e w' => e = .returned (.int .i64 (cmpZ x y)) ∧ Below W.heap.size W w' :=
  (compareInt x y w).mono fun _ _ ⟨he, hw⟩ => ⟨he, hw ▸ h⟩
theorem partsFrom_key {xs : List Int} (hc : CirOk xs) (a : Nat) (ha : a < 12) (w : World) (q c : Nat) (hq : q < w.heap.size) (hcl : ∀ j, j < 12 → w.cell? ⟨q, j, none⟩ = some (.int .i64 (xs.getD j 0))) :
    Calls Try.prog 45 #[cirV (.slice (some ⟨q, 0, none⟩) 12 c), .int .i64 (a : Int), .int .i64 4] w fun e w' => e = .returned (.int .i64 (keyC xs (a : Int))) ∧ Below w.heap.size w w' := by
  have k := partsFrom_any hc a 4 ha (by omega) w q c hq hcl
  rw [keyC_nat]
  exact k
/-- partsFrom at one key, told without a look inside. -/
def PfSay (w : World) (q c : Nat) (a A : Int) : Prop := ∀ X, Below w.heap.size w X → Calls Try.prog 45 #[cirV (.slice (some ⟨q, 0, none⟩) 12 c), .int .i64 a, .int .i64 4] X fun e w' => e = .returned (.int .i64 A) ∧ Below X.heap.size X w'
theorem pf_run {w : World} {q c : Nat} {a A : Int} (h : PfSay w q c a A) (X : World) (hX : Below w.heap.size w X) : Calls Try.prog 45 #[cirV (.slice (some ⟨q, 0, none⟩) 12 c), .int .i64 a, .int .i64 4] X fun e w' => e = .returned (.int .i64 A) ∧ Below X.heap.size X w' := h X hX
theorem pfSay_at {xs : List Int} (hc : CirOk xs) {m q c a : Nat} (ha : a < 12) {w : World} (h : CirBox xs m q c w) : PfSay w q c a (keyC xs a) :=
  fun X hX => partsFrom_key hc a ha X q c (cirBox_keep h hX).1.2 (cirBox_keep h hX).2.2
set_option maxRecDepth 100000 in
set_option maxHeartbeats 2000000 in
/-- The closure, at two numbers whose sums are told. -/
theorem order_run {xs : List Int} {m q c : Nat} {a b A B : Int} (w : World) (h : CirBox xs m q c w) (PA : PfSay w q c a A) (PB : PfSay w q c b B) :
    Calls Try.prog 43 #[.int .i64 a, .int .i64 b, .pointer (some ⟨m, 0, none⟩)] w fun e w' => e = .returned (.int .i64 (cmpZ B A)) ∧ Below w.heap.size w w' := by
  have HX := Lib.hid h
  clear h
  go_enter Try.func43, Try.ntmps43
  go_upto_region 1 with fail
  go_region_held3 (fun w' => w'.cell? ⟨m, 0, none⟩ = some (.slice (some ⟨q, 0, none⟩) 12 c)) (with_reducible first | exact cirBox_cell (cirBox_keep HX.out (Below.refl _ _).drew) | exact cirBox_cell (cirBox_keep HX.out (by assumption)))
    (first
      | (go_at_call 45; refine (calls_fromF (W := w) (by with_reducible first | assumption | exact (Below.refl _ _).drew) (pf_run (by with_reducible assumption) _ (by with_reducible first | assumption | exact (Below.refl _ _).drew))).mono ?_; rintro e1 w1 ⟨rfl, hb⟩)
      | (go_at_call 44; refine (compare_from (W := w) _ _ (by with_reducible first | assumption | exact (Below.refl _ _).drew)).mono ?_; rintro e1 w1 ⟨rfl, hb⟩))
  all_goals
    go_wp2_with fail
    go_ret
    exact ⟨rfl, hb⟩
theorem order_impl {xs : List Int} (hc : CirOk xs) {m q c : Nat} {a b : Nat} (ha : a < 12) (hb : b < 12) (w : World) (h : CirBox xs m q c w) :
    Calls Try.prog 43 #[.int .i64 a, .int .i64 b, .pointer (some ⟨m, 0, none⟩)] w fun e w' => e = .returned (.int .i64 (cmpZ (keyC xs b) (keyC xs a))) ∧ Below w.heap.size w w' :=
  order_run w h (pfSay_at hc ha h) (pfSay_at hc hb h)
/-- A row of twelve numbers in a block of the call's own. -/
def KeyRow (w0 : World) (B g cap : Nat) (f : Nat → Int) (W : World) : Prop :=
  W.ownsRow B 3 1 (.slice (some ⟨g, 0, none⟩) 12 cap) 12 (intCs (rowI 12 f)) ∧ Below B w0 W ∧ B ≤ w0.heap.size
section
variable {w0 W : World} {B g cap : Nat} {f : Nat → Int}
theorem KeyRow.base (h : KeyRow w0 B g cap f W) : B ≤ g ∧ g < W.heap.size := by
  obtain ⟨g', cap', h1, h2, h3⟩ := own_pos h.1 (by omega)
  simp only [Value.slice.injEq, Option.some.injEq, Addr.mk.injEq, and_true] at h1
  obtain ⟨rfl, -⟩ := h1
  exact ⟨h2, h3⟩
theorem KeyRow.drew (h : KeyRow w0 B g cap f W) : KeyRow w0 B g cap f W.drew := ⟨own_below h.1 (Below.refl _ _).drew, h.2.1.drew, h.2.2⟩
theorem KeyRow.below {w' : World} (h : KeyRow w0 B g cap f W) (hb : Below W.heap.size W w') : KeyRow w0 B g cap f w' :=
  ⟨own_below h.1 hb, h.2.1.trans (hb.mono (Nat.le_trans h.2.2 h.2.1.size)), h.2.2⟩
theorem KeyRow.congr {f' : Nat → Int} (h : KeyRow w0 B g cap f W) (e : ∀ t, t < 12 → f t = f' t) : KeyRow w0 B g cap f' W := by
  have := rowI_congr e
  unfold KeyRow at h ⊢
  rw [← this]
  exact h
theorem KeyRow.cell (h : KeyRow w0 B g cap f W) {i : Nat} (hi : i < 12) : W.cell? ⟨g, i, none⟩ = some (.int .i64 (f i)) := by
  have k := own_icell h.1 i hi
  rw [rowI_get f hi] at k
  exact k
theorem KeyRow.free (h : KeyRow w0 B g cap f W) (o : Nat) : W.frozen? ⟨g, o, none⟩ = false := h.1.frozenAt o
theorem KeyRow.put (h : KeyRow w0 B g cap f W) {i : Nat} (hi : i < 12) (x : Int) : KeyRow w0 B g cap (fun t => if t = i then x else f t) (W.setCell ⟨g, i, none⟩ (.int .i64 x)) := by
  have s := (h.1.stored i (.int .i64 x)).1
  rw [rowI_set f x hi] at s
  exact ⟨s, h.2.1.setCell (p := ⟨g, i, none⟩) h.base.1 _, h.2.2⟩
/-- The exchange's two stores. -/
theorem keySwap {x : Int} {L : Nat → Int} {i p : Nat} (h : KeyRow w0 B g cap (insF L x i (p + 1)) W) (hp : p + 1 ≤ i) (hi : i < 12) :
    ∃ X, X = ((W.setCell ⟨g, p + 1, none⟩ (.int .i64 (L p))).setCell ⟨g, p, none⟩ (.int .i64 x)).drew ∧ KeyRow w0 B g cap (insF L x i p) X := by
  refine ⟨_, rfl, (((h.put (i := p + 1) (by omega) (L p)).put (i := p) (by omega) x).congr fun t _ => ?_).drew⟩
  exact insF_step L x hp t
/-- Two numbers of the row and the circle. -/
def KeyTwo (xs : List Int) (m q c g p : Nat) (x y : Int) (w : World) : Prop := CirBox xs m q c w ∧ g < w.heap.size ∧ w.cell? ⟨g, p + 1, none⟩ = some (.int .i64 x) ∧ w.cell? ⟨g, p, none⟩ = some (.int .i64 y)
theorem keyTwo_keep {xs : List Int} {m q c g p : Nat} {x y : Int} {w w' : World} (hb : Below w.heap.size w w') (h : KeyTwo xs m q c g p x y w) : KeyTwo xs m q c g p x y w' :=
  ⟨cirBox_keep h.1 hb, Nat.lt_of_lt_of_le h.2.1 hb.size, (hb.cell (p := ⟨g, p + 1, none⟩) h.2.1).trans h.2.2.1, (hb.cell (p := ⟨g, p, none⟩) h.2.1).trans h.2.2.2⟩
theorem keyTwo_cells {xs : List Int} {m q c g p : Nat} {x y : Int} {w : World} (h : KeyTwo xs m q c g p x y w) : w.cell? ⟨g, p + 1, none⟩ = some (.int .i64 x) ∧ w.cell? ⟨g, p, none⟩ = some (.int .i64 y) := h.2.2
end
set_option maxRecDepth 100000 in
set_option maxHeartbeats 8000000 in
theorem insert_run {xs : List Int} (hc : CirOk xs) {m q c : Nat} {w0 : World} {B g cap : Nat} (hx : CirBox xs m q c w0) (hB : m < B ∧ q < B) (W : World) (h : KeyRow w0 B g cap (fun t => (t : Int)) W) :
    Calls Try.prog 88 #[.slice (some ⟨g, 0, none⟩) 12 cap, .int .i64 0, .int .i64 12, .func (.func 43) #[] #[.pointer (some ⟨m, 0, none⟩)]] W fun e w' => e = .returned (.tuple #[]) ∧ KeyRow w0 B g cap (bestF (keyC xs) 12) w' := by
  have HS : Hid (KeyRow w0 B g cap (bestF (keyC xs) 1) W) := Lib.hid (h.congr fun t _ => by
    show (t : Int) = insF _ _ 0 0 t
    unfold insF
    by_cases ht : t = 0
    · rw [if_neg (by omega), if_pos ht, ht]
    · rw [if_neg (by omega), if_neg ht, if_neg (by omega)]
      exact (bestF_out (keyC xs) 0 t (Nat.zero_le _)).symm)
  have HC := Lib.hid hc
  have HX := Lib.hid hx
  have HB := Lib.hid hB
  clear h hc hx hB
  go_enter Try.func88, Try.ntmps88
  go_wp2_with fail
  go_loopw [8] (fun x wr => ∃ (i : Nat), x = .int .i64 (i : Int) ∧ 1 ≤ i ∧ i ≤ 12 ∧ Hid (KeyRow w0 B g cap (bestF (keyC xs) i) wr)) (fun x _ => 13 - (intOf x).toNat)
  case atStart => exact ⟨1, by go_num, by omega, by omega, HS⟩
  case round =>
    clear HS
    obtain ⟨i, rfl, hi1, hi12, HR⟩ := hrel
    by_cases hlt : i < 12
    · have k1 : (i : Int) < 12 := by omega
      have ST : Hid (KeyRow w0 B g cap (insF (bestF (keyC xs) i) i i i) wr) := Lib.hid (HR.out.congr fun t _ => (insF_start (keyC xs) i t).symm)
      have HN : Hid (bestF (keyC xs) (i + 1) = insF (bestF (keyC xs) i) i i (insAt (keyC xs) (bestF (keyC xs) i) i i)) := Lib.hid rfl
      have HK : Hid (∀ t, t < 12 → ∃ u : Nat, bestF (keyC xs) i t = (u : Int) ∧ u < 12) := Lib.hid (fun t ht => bestF_key (keyC xs) (by omega) ht)
      clear HR
      go_wp2_with fail
      go_loopw [9] (fun y wr => ∃ (j : Nat), y = .int .i64 (j : Int) ∧ j ≤ i ∧ Hid (insAt (keyC xs) (bestF (keyC xs) i) i j = insAt (keyC xs) (bestF (keyC xs) i) i i) ∧ Hid (KeyRow w0 B g cap (insF (bestF (keyC xs) i) i i j) wr)) (fun y _ => (intOf y).toNat)
      case atStart => exact ⟨i, rfl, Nat.le_refl _, Lib.hid rfl, ST⟩
      case round =>
        clear ST
        obtain ⟨j, rfl, hji, HI, HJ⟩ := hrel
        by_cases hj0 : 0 < j
        · obtain ⟨p, rfl⟩ : ∃ p, j = p + 1 := ⟨j - 1, by omega⟩
          obtain ⟨u, hu, hu12⟩ := HK.out p (by omega)
          have c1 := HJ.out.cell (i := p + 1) (by omega)
          have c2 := HJ.out.cell (i := p) (by omega)
          rw [insF_at] at c1
          rw [insF_ahead, hu] at c2
          have CB := cirBox_below HX.out HB.out HJ.out.2.1 HJ.out.2.2
          have K2 : Hid (KeyTwo xs m q c g p i u wr) := Lib.hid ⟨CB, HJ.out.base.2, c1, c2⟩
          have PO : Hid (∀ X, Below wr.heap.size wr X → Calls Try.prog 43 #[.int .i64 i, .int .i64 u, .pointer (some ⟨m, 0, none⟩)] X fun e w' => e = .returned (.int .i64 (cmpZ (keyC xs u) (keyC xs i))) ∧ Below X.heap.size X w') := Lib.hid (fun X hX => order_impl HC.out hlt hu12 X (cirBox_keep CB hX))
          obtain ⟨C, hC⟩ : ∃ C, C = cmpZ (keyC xs u) (keyC xs i) := ⟨_, rfl⟩
          have hneg := cmpZ_neg (keyC xs u) (keyC xs i)
          rw [← hC] at PO hneg
          have HU := Lib.hid hu
          have NEG := Lib.hid hneg
          have t1 : (0 : Int) < (p : Int) + 1 := by omega
          have t7 : (0 : Int) ≤ (p : Int) + 1 := by omega
          have t0 : ((p : Int) + 1).toNat = p + 1 := by omega
          have t4 : IntKind.i64.wrap (p : Int) = (p : Int) := IntWalk.i64_in _ (by omega)
          have t5 : (p : Int) + 1 < 12 := by omega
          have t6 : (p : Int) < 12 := by omega
          clear c1 c2 CB hu hC hneg
          by_cases hc : C < 0
          · have hlt' : keyC xs (bestF (keyC xs) i p) < keyC xs i := by rw [HU.out]; exact NEG.out.1 hc
            have HI2 := Lib.hid ((insAt_yes hlt').symm.trans HI.out)
            clear hlt'
            go_wp2_with fail
            go_region_held3 (fun w' => w'.cell? ⟨g, p + 1, none⟩ = some (.int .i64 i) ∧ w'.cell? ⟨g, p, none⟩ = some (.int .i64 u)) (with_reducible first | exact keyTwo_cells (keyTwo_keep (Below.refl _ _).drew K2.out) | exact keyTwo_cells (keyTwo_keep (by assumption) K2.out) | exact keyTwo_cells K2.out)
              (first
                | (go_at_call 43; refine (calls_fromF (W := wr) (by with_reducible first | assumption | exact (Below.refl _ _).drew) (PO.out _ (by with_reducible first | assumption | exact (Below.refl _ _).drew))).mono ?_; rintro e9 w1 ⟨rfl, hb1⟩))
            have S1 := Lib.hid (HJ.out.below hb1)
            have K3 := Lib.hid (keyTwo_keep hb1 K2.out)
            clear hb1 K2 PO HJ
            obtain ⟨x4, y4⟩ := keyTwo_cells K3.out
            obtain ⟨x0, y0⟩ := keyTwo_cells (keyTwo_keep (Below.refl _ _).drew K3.out)
            have fz := S1.out.free
            go_wp2_with fail
            go_region
            obtain ⟨Z, hZ, hS⟩ := keySwap S1.out (by omega) hlt
            rw [HU.out] at hZ
            rw [← hZ]
            have HZ := Lib.hid hS
            clear hZ hS x0 x4 y0 y4 fz
            go_wp2_with fail
            go_roundw
            case rel => exact ⟨p, by go_num, by omega, HI2, HZ⟩
            case measure => simp [intOf]
          · have hlt' : ¬ keyC xs (bestF (keyC xs) i p) < keyC xs i := by rw [HU.out]; exact fun q => hc (NEG.out.2 q)
            have HI2 := Lib.hid ((insAt_no hlt').symm.trans HI.out)
            clear hlt'
            go_wp2_with fail
            go_region_held3 (fun w' => w'.cell? ⟨g, p + 1, none⟩ = some (.int .i64 i) ∧ w'.cell? ⟨g, p, none⟩ = some (.int .i64 u)) (with_reducible first | exact keyTwo_cells (keyTwo_keep (Below.refl _ _).drew K2.out) | exact keyTwo_cells (keyTwo_keep (by assumption) K2.out) | exact keyTwo_cells K2.out)
              (first
                | (go_at_call 43; refine (calls_fromF (W := wr) (by with_reducible first | assumption | exact (Below.refl _ _).drew) (PO.out _ (by with_reducible first | assumption | exact (Below.refl _ _).drew))).mono ?_; rintro e9 w1 ⟨rfl, hb1⟩))
            have S1 := Lib.hid (HJ.out.below hb1)
            clear hb1 K2 PO HJ
            go_wp2_with fail
            go_roundw
            case rel => exact ⟨i + 1, by go_num, by omega, hlt, Lib.hid (by rw [HN.out, ← HI2.out]; exact S1.out)⟩
            case measure => simp [intOf]; omega
        · obtain rfl : j = 0 := by omega
          have t5 : ¬ (0 : Int) < ((0 : Nat) : Int) := by omega
          have t6 : decide (((0 : Nat) : Int) > (0 : Int)) = false := decide_eq_false (by omega)
          have S1 := Lib.hid HJ.out.drew
          go_wp2_with fail
          go_region
          go_wp2_with fail
          go_roundw
          case rel => exact ⟨i + 1, by go_num, by omega, hlt, Lib.hid (by rw [HN.out, ← HI.out]; exact S1.out)⟩
          case measure => simp [intOf]; omega
    · obtain rfl : i = 12 := by omega
      have k1 : ¬ ((12 : Nat) : Int) < 12 := by omega
      go_wp2_with fail
      go_end0
      exact ⟨rfl, HR.out⟩
end Go.Proofs.Ytjfeeppbbckneab
