/- The walk of laws.FnBestKeys. -/
import Derived.Test.YtjfeeppbbckneabBestKeys
import Derived.Test.YtjfeeppbbckneabDrawCir
import Derived.Test.YtjfeeppbbckneabAtWalks
import Derived.Deep.RegionHeld3
import Derived.BigQuiet
namespace Go.Proofs.Ytjfeeppbbckneab
open Go.RowKit Go.Joins
set_option linter.unusedVariables false
/-- ThirdParts at one key, told without a look inside. -/
def TpSay (W : World) (v : Value) (i y : Int) : Prop := ∀ X, Below W.heap.size W X → Calls Try.prog 14 #[cirV v, .int .i64 i] X fun e w' => e = .returned (.int .i64 y) ∧ Below X.heap.size X w'
theorem tp_run {W : World} {v : Value} {i y : Int} (h : TpSay W v i y) (X : World) (hX : Below W.heap.size W X) : Calls Try.prog 14 #[cirV v, .int .i64 i] X fun e w' => e = .returned (.int .i64 y) ∧ Below X.heap.size X w' := h X hX
theorem tpSay_of {xs : List Int} (hc : CirOk xs) {W : World} {B : Nat} {e : TypeId} {v : Value} (h : W.ownsRow B e 1 v 12 (intCs xs)) {u : Nat} (hu : u < 12) : TpSay W v u (keyC xs u) := fun X hX => by
  have hl : xs.length = 12 := hc.1
  have f : CycAt 4 xs (u : Int) (keyC xs u) := .inl ⟨⟨hc, by omega, by omega⟩, rfl⟩
  exact parts_impl f X _ _ v (by omega) (own_eq (own_below h hX) (rfl : xs = xs) hl.symm)
theorem tpSay_more {W W' : World} {v : Value} {i y : Int} (h : TpSay W v i y) (hb : Below W.heap.size W W') : TpSay W' v i y := fun X hX => h X (hb.trans (hX.mono hb.size))
theorem below_drewK (w : World) (d : Nat) : Below w.heap.size w (w.drewN d) := ⟨rfl, rfl, rfl, Nat.le_refl _, fun _ _ => rfl⟩
/-- The circle's box and one number of a row. -/
def BoxEl (m g p : Nat) (v : Value) (x : Int) (w : World) : Prop := m < w.heap.size ∧ g < w.heap.size ∧ w.cell? ⟨m, 0, none⟩ = some v ∧ w.cell? ⟨g, p, none⟩ = some (.int .i64 x)
theorem boxEl_keep {m g p : Nat} {v : Value} {x : Int} {w w' : World} (hb : Below w.heap.size w w') (h : BoxEl m g p v x w) : BoxEl m g p v x w' :=
  ⟨Nat.lt_of_lt_of_le h.1 hb.size, Nat.lt_of_lt_of_le h.2.1 hb.size, (hb.cell (p := ⟨m, 0, none⟩) h.1).trans h.2.2.1, (hb.cell (p := ⟨g, p, none⟩) h.2.1).trans h.2.2.2⟩
theorem boxEl_cells {m g p : Nat} {v : Value} {x : Int} {w : World} (h : BoxEl m g p v x w) : w.cell? ⟨m, 0, none⟩ = some v ∧ w.cell? ⟨g, p, none⟩ = some (.int .i64 x) := h.2.2
set_option maxRecDepth 100000 in
set_option maxHeartbeats 8000000 in
theorem walk_FnBestKeys (a0 : Option Addr) (len0 cap0 : Nat) (z0 : List Int) (w : World) (hr : IsRow .u8 w a0 len0 cap0 z0) :
    Calls Try.prog 3 #[.slice a0 len0 cap0] w fun e w' => e = .returned (.bool true) ∧ Below w.heap.size w w' := by
  have hlen := (row_len hr).2
  by_cases hbig : 1048576 < len0
  · have t0 : decide (1048576 < (len0 : Int)) = true := by simp; omega
    go_enter Try.func3, Try.ntmps3
    go_wp2_with fail
    refine (bigW_any _ _ _ _ hlen).mono ?_
    rintro e w' ⟨rfl, rfl⟩
    go_wp2_with fail
    go_ret
    exact ⟨rfl, Below.refl _ _⟩
  · have t0 : decide (1048576 < (len0 : Int)) = false := by simp; omega
    have HR := Lib.hid hr
    have HLEN := Lib.hid hlen
    clear hr hbig hlen
    go_enter Try.func3, Try.ntmps3
    go_wp2_with fail
    refine (bigW_any _ _ _ _ HLEN.out).mono ?_
    rintro e w' ⟨rfl, rfl⟩
    rw [t0]
    go_wp2_with fail
    clear t0
    refine (drawCircle_any HR.out).mono ?_
    rintro e w1 ⟨xs, p, cc, ok, rfl, o1, b1⟩
    have OK := Lib.hid ok
    have X1 := Lib.hid (one_alloc (w := w1) (v := .slice p 12 cc) (t := 26))
    have O1 := Lib.hid (own_below o1 (below_alloc1 w1 (.cells #[.slice p 12 cc] 26)))
    have B1 := Lib.hid (b1.alloc b1.size (.cells #[.slice p 12 cc] 26))
    clear ok o1 b1 HR HLEN
    go_upto_region 4 with fail
    obtain ⟨W1, hW⟩ : ∃ W, W = w1.alloc (.cells #[.slice p 12 cc] 26) := ⟨_, rfl⟩
    obtain ⟨mc, hm⟩ : ∃ m, m = w1.heap.size := ⟨_, rfl⟩
    rw [← hW] at X1 O1 B1 ⊢
    rw [← hm] at X1 ⊢
    clear hW hm
    obtain ⟨_, c0, _⟩ := X1.out
    have BI := Lib.hid (best_impl13 (.inl ⟨OK.out, rfl⟩ : BkAt xs (rowI 12 (bestF (keyC xs) 12))) W1 _ _ (.slice p 12 cc) (by rw [OK.out.1]; omega) (own_eq O1.out (rfl : xs = xs) OK.out.1.symm))
    go_wp2_with fail
    refine BI.out.mono ?_
    rintro e w2 ⟨v2, rfl, o2, b2⟩
    have X2 := Lib.hid (one_keep b2 X1.out)
    have O2 := Lib.hid (own_below O1.out b2)
    have B2 := Lib.hid (B1.out.trans (b2.mono B1.out.size))
    rw [rowI_len] at o2
    obtain ⟨g, cap, rfl, _, hg⟩ := own_pos o2 (by omega)
    have R2 := Lib.hid o2
    have HG := Lib.hid hg
    clear c0 o2 b2 X1 O1 B1 BI hg
    go_wp2_with fail
    go_loopw [5] (fun x wr => ∃ (k : Nat), 1 ≤ k ∧ k ≤ 12 ∧ x = .int .i64 (k : Int) ∧ Hid (Below w2.heap.size w2 wr)) (fun x _ => 13 - (intOf x).toNat)
    case atStart => exact ⟨1, by omega, by omega, by go_num, Lib.hid (Below.refl _ _)⟩
    case round =>
      obtain ⟨k, hk1, hk, rfl, HB⟩ := hrel
      by_cases hlt : k < 12
      · obtain ⟨j, rfl⟩ : ∃ j, k = j + 1 := ⟨k - 1, by omega⟩
        obtain ⟨u, hu, hu12⟩ := bestF_in (keyC xs) 12 j (by omega)
        obtain ⟨v, hv, hv12⟩ := bestF_in (keyC xs) 12 (j + 1) (by omega)
        have ho := bestF_ord (keyC xs) 12 j (j + 1) (by omega) hlt
        rw [hu, hv] at ho
        have cu := own_icell R2.out j (by omega)
        have cv := own_icell R2.out (j + 1) hlt
        rw [rowI_get _ (by omega), hu] at cu
        rw [rowI_get _ hlt, hv] at cv
        have TU := tpSay_more (tpSay_of OK.out O2.out hu12) HB.out
        have TV := tpSay_more (tpSay_of OK.out O2.out hv12) HB.out
        have EU : Hid (BoxEl mc g j (.slice p 12 cc) u wr) := Lib.hid (boxEl_keep HB.out ⟨X2.out.1, HG.out, X2.out.2.1, cu⟩)
        have EV : Hid (BoxEl mc g (j + 1) (.slice p 12 cc) v wr) := Lib.hid (boxEl_keep HB.out ⟨X2.out.1, HG.out, X2.out.2.1, cv⟩)
        obtain ⟨A, hA⟩ : ∃ A, A = keyC xs (u : Int) := ⟨_, rfl⟩
        obtain ⟨B, hB⟩ : ∃ B, B = keyC xs (v : Int) := ⟨_, rfl⟩
        rw [← hA] at TU ho
        rw [← hB] at TV ho
        have hO : Hid (B < A ∨ (B = A ∧ u < v)) := Lib.hid (by rcases ho with h | ⟨h1, h2⟩ <;> omega)
        have q3 : (j : Int) + 1 < 12 := by omega
        have t6 : (j : Int) < 12 := by omega
        have t7 : (0 : Int) ≤ (j : Int) + 1 := by omega
        have t0 : ((j : Int) + 1).toNat = j + 1 := by omega
        have t4 : IntKind.i64.wrap (j : Int) = (j : Int) := IntWalk.i64_in _ (by omega)
        have HLT := Lib.hid hlt
        clear hu hv ho cu cv hA hB hu12 hv12
        go_upto_region 10 with fail
        go_region_held3 (fun w' => w'.cell? ⟨mc, 0, none⟩ = some (.slice p 12 cc) ∧ w'.cell? ⟨g, j, none⟩ = some (.int .i64 u)) (with_reducible first | exact boxEl_cells (boxEl_keep (Below.refl _ _).drew EU.out) | exact boxEl_cells (boxEl_keep (by assumption) EU.out) | exact boxEl_cells EU.out)
          (first
            | (go_at_call 14; refine (calls_fromF (W := wr) (by with_reducible first | assumption | exact (Below.refl _ _).drew) (tp_run (by with_reducible assumption) _ (by with_reducible first | assumption | exact (Below.refl _ _).drew))).mono ?_; rintro e9 w3 ⟨rfl, hb1⟩))
        all_goals
          obtain ⟨W3, hW⟩ : ∃ W, W = w3 := ⟨_, rfl⟩
          rw [← hW] at hb1 ⊢
          clear hW
          have EU3 := Lib.hid (boxEl_keep hb1 EU.out)
          have EV3 := Lib.hid (boxEl_keep hb1 EV.out)
          have TV3 := tpSay_more TV hb1
          have B3 := Lib.hid (HB.out.trans (hb1.mono HB.out.size))
          clear TU TV EU EV HB hb1
          go_upto_region 11 with fail
          go_region_held3 (fun w' => w'.cell? ⟨mc, 0, none⟩ = some (.slice p 12 cc) ∧ w'.cell? ⟨g, j + 1, none⟩ = some (.int .i64 v)) (with_reducible first | exact boxEl_cells (boxEl_keep (Below.refl _ _).drew EV3.out) | exact boxEl_cells (boxEl_keep (by assumption) EV3.out) | exact boxEl_cells EV3.out)
            (first
              | (go_at_call 14; refine (calls_fromF (W := W3) (by with_reducible first | assumption | exact (Below.refl _ _).drew) (tp_run (by with_reducible assumption) _ (by with_reducible first | assumption | exact (Below.refl _ _).drew))).mono ?_; rintro e9 w4 ⟨rfl, hb1⟩))
          all_goals
            have EU4 := boxEl_keep hb1 EU3.out
            have EV4 := boxEl_keep hb1 EV3.out
            have B4 := Lib.hid (B3.out.trans (hb1.mono B3.out.size))
            obtain ⟨_, _, _, x1⟩ := EU4
            obtain ⟨_, _, _, x2⟩ := EV4
            clear EU3 EV3 TV3 B3 hb1
            have g1 : decide (A < B) = false := decide_eq_false (by have := hO.out; omega)
            rcases hO.out with h | ⟨h, h'⟩
            · have g2 : (A == B) = false := by simp; omega
              go_upto_region 12 with fail
              go_quiet (fail)
              go_wp2_with fail
              go_roundw
              case rel => exact ⟨j + 1 + 1, by omega, HLT.out, by go_num, Lib.hid (B4.out.trans ((below_drewK w4 _).mono B4.out.size))⟩
              case measure => simp [intOf]; omega
            · have g2 : (A == B) = true := by simp; omega
              have g3 : decide ((u : Int) ≥ (v : Int)) = false := decide_eq_false (by omega)
              have g4 : ¬ (v : Int) ≤ (u : Int) := by omega
              go_upto_region 12 with fail
              go_quiet (fail)
              go_wp2_with fail
              go_roundw
              case rel => exact ⟨j + 1 + 1, by omega, HLT.out, by go_num, Lib.hid (B4.out.trans ((below_drewK w4 _).mono B4.out.size))⟩
              case measure => simp [intOf]; omega
      · obtain rfl : k = 12 := by omega
        have q3 : ¬ ((12 : Nat) : Int) < 12 := by omega
        go_wp2_with fail
        go_ret
        exact ⟨rfl, B2.out.trans (HB.out.mono B2.out.size)⟩
end Go.Proofs.Ytjfeeppbbckneab
