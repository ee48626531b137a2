/- Contract of spec.ChainOf. -/
import Derived.Test.YtdnlebijmiaclabDoorChain
import Derived.Test.YtdnlebijmiaclabDoorSGreatest
import Derived.BigRegion
import Derived.Deep.RegionWith
import Derived.Deep.DeepCutAuto
namespace Go.Proofs.YtdnlebijmiaclabDoor
open Go.RowKit Go.Joins
set_option linter.unusedVariables false
/-- The row while the last element's place is looked for: the elements from j on have moved up by one. -/
def holeF (j k : Nat) (f : Nat → Iv) : Nat → Iv := fun t => if j < t ∧ t ≤ k then f (t - 1) else f t
theorem hole_start (k : Nat) (f : Nat → Iv) : holeF k k f = f := by
  funext t; unfold holeF; rw [if_neg (by omega)]
theorem hole_at {j k : Nat} (f : Nat → Iv) {p : Nat} (h : p < j) : holeF j k f p = f p := by
  unfold holeF; rw [if_neg (by omega)]
theorem hole_step {p k : Nat} (f : Nat → Iv) (h : p + 1 ≤ k) : (fun t => if t = p + 1 then f p else holeF (p + 1) k f t) = holeF p k f := by
  funext t; unfold holeF
  by_cases e : t = p + 1
  · subst e; rw [if_pos rfl, if_pos (by omega)]; rfl
  · rw [if_neg e]
    by_cases e2 : p < t ∧ t ≤ k
    · rw [if_pos e2, if_pos (by omega)]
    · rw [if_neg e2, if_neg (by omega)]
theorem hole_put {j k : Nat} (f : Nat → Iv) (h : j ≤ k) : (fun t => if t = j then f k else holeF j k f t) = rotF j k (k + 1) f := by
  funext t; unfold holeF rotF
  by_cases e : t = j
  · subst e
    rw [if_pos rfl, if_pos (by omega)]
    congr 1; omega
  · rw [if_neg e]
    by_cases e2 : j < t ∧ t ≤ k
    · rw [if_pos e2, if_neg (by omega), if_pos (by omega)]
      congr 1; omega
    · rw [if_neg e2, if_neg (by omega), if_neg (by omega)]
theorem four_set1 {w : World} {m g o : Nat} {p q r s : Int} {v : Value} (hn : m ≠ g) (h : Four m p q r s w) : Four m p q r s (w.setCell ⟨g, o, none⟩ v) := by
  obtain ⟨hm, z0, z1, z2, z3⟩ := h
  have k : ∀ i : Nat, (⟨g, o, none⟩ : Addr) ≠ ⟨m, i, none⟩ := fun i e => hn (by injection e with e1; exact e1.symm)
  have c : ∀ i, (w.setCell ⟨g, o, none⟩ v).cell? ⟨m, i, none⟩ = w.cell? ⟨m, i, none⟩ := fun i => World.cell?_setCell_other _ _ _ _ (k i)
  exact ⟨by simpa using hm, (c 0).trans z0, (c 1).trans z1, (c 2).trans z2, (c 3).trans z3⟩
theorem put_named {w0 W : World} {B g cap n m : Nat} {f : Nat → Iv} {p q r s : Int} (h : Srt w0 B g cap n f W) (hm : m ≠ g) (h4 : Four m p q r s W) {i : Nat} (hi : i < n) (x : Iv) :
    ∃ X, X = ((((W.setCell ⟨g, i * 4, none⟩ (.int .i64 x.two)).setCell ⟨g, i * 4 + 1, none⟩ (.int .i64 x.three)).setCell ⟨g, i * 4 + 2, none⟩ (.int .i64 x.five)).setCell ⟨g, i * 4 + 3, none⟩ (.int .i64 x.root)) ∧ Srt w0 B g cap n (fun t => if t = i then x else f t) X ∧ Four m p q r s X :=
  ⟨_, rfl, h.put hi x, four_set1 hm (four_set1 hm (four_set1 hm (four_set1 hm h4)))⟩
theorem len_own {w : World} {b : Nat} {e : TypeId} {v : Value} {n : Nat} {xs : List Value} (h : w.ownsRow b e 4 v n xs) (W : World) : (Builtin.len_ #[34] 3 #[v]).run Tryd.prog W = .ok (.int .i64 (n : Int)) W := by
  rcases own4_shape h with ⟨rfl, rfl⟩ | ⟨g, cap, rfl, _, _⟩
  · kernel_rfl
  · kernel_rfl
theorem four_far {w w' : World} {row : Option Nat} {m : Nat} {p q r s : Int} (h : Four m p q r s w) (hg : w.grownBy w' row) (hn : some m ≠ row) : Four m p q r s w' := by
  obtain ⟨hm, z0, z1, z2, z3⟩ := h
  have c : ∀ i, w'.cell? ⟨m, i, none⟩ = w.cell? ⟨m, i, none⟩ := fun i => by
    unfold World.cell?
    rw [hg.block m hm hn]
  exact ⟨Nat.lt_of_lt_of_le hm hg.size, (c 0).trans z0, (c 1).trans z1, (c 2).trans z2, (c 3).trans z3⟩
theorem cmpV_flip {X Y : Iv} {kx ky : Int} (h : cmpV X Y < 0 ↔ kx < ky) : 0 < cmpV Y X ↔ kx < ky := by
  rw [← h, cmpV_swap X Y]; omega
set_option maxRecDepth 100000 in
set_option maxHeartbeats 8000000 in
theorem chain_spec (low high : Int) (w : World) :
    Calls Tryd.prog 43 #[.int .i64 low, .int .i64 high] w (ChainAt low high w) := by
  by_cases hv : -30 ≤ low ∧ low ≤ high ∧ high ≤ 30
  · have HV := Lib.hid hv
    obtain ⟨v1, v2, v3⟩ := hv
    obtain ⟨n, hn⟩ : ∃ n : Nat, (n : Int) = high - low + 1 := ⟨(high - low + 1).toNat, by omega⟩
    have D := Lib.hid (decide_eq_true (And.intro v1 v2))
    have c3 : ¬ 30 < high := by omega
    have HN := Lib.hid hn
    obtain ⟨i0, hi, hz0, hz1, hz2⟩ := info_parts4 infoIv
    clear hn
    go_enter Tryd.func43, Tryd.ntmps43
    go_wp2_with fail
    obtain ⟨Wa, hWa⟩ : ∃ y, y = w.alloc (.cells #[] 25) := ⟨_, rfl⟩
    have BA := Lib.hid (show Below w.heap.size w Wa from by rw [hWa]; exact (Below.refl _ w).alloc (Nat.le_refl _) _)
    have OL := Lib.hid (show Wa.ownsRow w.heap.size 25 4 (.slice (some ⟨w.heap.size, 0, none⟩) 0 0) 0 (ivCs (rowL 0 (chainF low))) from by rw [hWa]; exact World.ownsRow_lit (base := w.heap.size) (e := 25) (size := 4) w #[] 0 (Nat.le_refl _) (by unfold maxLen; omega) rfl)
    rw [← hWa]
    obtain ⟨vL, hvL⟩ : ∃ v, v = (Value.slice (some ⟨w.heap.size, 0, none⟩) 0 0) := ⟨_, rfl⟩
    rw [← hvL] at OL
    rw [← hvL]
    clear hWa hvL
    refine (in_any _ _ _ _).mono ?_
    rintro en wi ⟨rfl, rfl⟩
    rw [D.out]
    go_wp2_with fail
    go_loopw [5, 6] (fun v i wr => ∃ (k : Nat) (f : Nat → Iv), k ≤ n ∧ i = .int .i64 (low + (k : Int)) ∧ Hid (MV 0 k (chainF low) f) ∧ Hid (AscF keyV 0 k f) ∧ Hid (wr.ownsRow w.heap.size 25 4 v k (ivCs (rowL k f))) ∧ Hid (Below w.heap.size w wr)) (fun _ i _ => (high + 1 - intOf i).toNat)
    case atStart => exact ⟨0, chainF low, Nat.zero_le _, by go_num, MV.refl _ _ _, AscF.one _ _ _ _ (by omega), OL, BA⟩
    case round =>
      obtain ⟨k, f, hk, rfl, VM, VA, HO, HB⟩ := hrel
      clear OL BA
      by_cases hlt : low + (k : Int) ≤ high
      · have hkn : k < n := by have := HN.out; omega
        obtain ⟨X, hX⟩ : ∃ X, X = fifV (low + (k : Int)) := ⟨_, rfl⟩
        have FA : FifAt (low + (k : Int)) X.two X.three X.five X.root true := by rw [hX]; exact fif_at (by omega)
        have HX := Lib.hid (show f k = X from by rw [VM.out.out (Or.inr (Nat.le_refl _))]; exact hX.symm)
        have VM1 := Lib.hid (VM.out.mono (Nat.le_refl _) (Nat.le_succ k))
        have KD := Lib.hid ((chain_keyd (low := low) (n := k + 1) v1 (by have := HN.out; omega)).mv VM1.out (Nat.le_refl _))
        clear hX
        go_wp2_with fail
        refine (fifths_spec FA _).mono ?_
        rintro en w2 ⟨rfl, hb2⟩
        have B2 := Lib.hid (HB.out.trans (hb2.mono HB.out.size))
        have O2 := Lib.hid (own4_below HO.out hb2)
        have OLD := Lib.hid (fun j hj => (O2.out.lt j hj).2)
        clear hb2 HO HB FA
        go_upto_region 8 with fail
        obtain ⟨W3, hW3⟩ : ∃ y, y = w2.alloc (.cells #[.int .i64 X.two, .int .i64 X.three, .int .i64 X.five, .int .i64 X.root] 25) := ⟨_, rfl⟩
        have g3 : Four w2.heap.size X.two X.three X.five X.root W3 := by rw [hW3]; exact four_alloc
        have b3 : Below w2.heap.size w2 W3 := by rw [hW3]; exact below_alloc1 w2 _
        have O3 := Lib.hid (own4_below O2.out b3)
        have B3 := Lib.hid (B2.out.trans (b3.mono B2.out.size))
        rw [← hW3]
        obtain ⟨m, hm⟩ : ∃ m, m = w2.heap.size := ⟨_, rfl⟩
        rw [← hm] at g3 ⊢
        have G3 := Lib.hid g3
        have HM := Lib.hid (show ∀ j, _ = some j → j < m from fun j hj => by rw [hm]; exact OLD.out j hj)
        obtain ⟨_, x0, x1, x2, x3⟩ := g3
        have hbs := B3.out.size
        have hl : ∀ W : World, (Builtin.len_ #[34] 3 #[u5]).run Tryd.prog W = .ok (.int .i64 (k : Int)) W := len_own O3.out
        clear hW3 b3 hm O2 B2 OLD
        go_wp2_with (at_builtin; refine wpList_append_lies _ rfl (.tmp 33) (.tmp 35) 34 rfl w.heap.size 25 i0 (ivV 0 0 0 0) 4 32 Tryd.underlying34 hi hz0 hz1 hz2 rfl (by decide) _ k _ rfl (O3.out.alloc _) ⟨W3.heap.size, 0, none⟩ 1 1 [.int .i64 X.two, .int .i64 X.three, .int .i64 X.five, .int .i64 X.root] rfl rfl (World.news_of_block (heap_alloc_new W3 _)) (by simp [Value.oneCell']) (by decide) (by unfold maxLen; omega) (by omega) (by simp; omega) _ rfl ?_; intro g1 cap1 w4 hown' hgrow hat hgt)
        have R4 := (B3.out.alloc hbs _).grown hgrow (by simp; omega) (fun j hj => (O3.out.lt j hj).1)
        have hne1 : ∀ j, u5.ownBlock = some j → j ≠ m := fun j hj => by have := HM.out j hj; omega
        have hme : m ≠ g1 := by
          rcases hat with h | h
          · exact fun e => hne1 g1 h e.symm
          · have := G3.out.1
            simp at h
            omega
        have G4 := Lib.hid (four_far (four_alF (o := .cells #[.int .i64 X.two, .int .i64 X.three, .int .i64 X.five, .int .i64 X.root] 25) G3.out) hgrow (fun e => hne1 m e.symm rfl))
        rw [← HX.out] at hown'
        have S4 := Lib.hid (show Srt w w.heap.size g1 cap1 (k + 1) (holeF k k f) w4 from by rw [hole_start]; exact ⟨row_snoc (f := f) hown', R4, Nat.le_refl _⟩)
        have HME := Lib.hid hme
        clear hown' hgrow hat hgt O3 B3 x0 x1 x2 x3 hbs hl R4 hne1 hme G3 HM
        go_loopw [9] (fun a wr => ∃ j : Nat, a = .int .i64 (j : Int) ∧ j ≤ k ∧ Hid (j = k ∨ keyV X ≤ keyV (f j)) ∧ Hid (Srt w w.heap.size g1 cap1 (k + 1) (holeF j k f) wr) ∧ Hid (Four m X.two X.three X.five X.root wr)) (fun a _ => (intOf a).toNat)
        case atStart => exact ⟨k, rfl, Nat.le_refl _, Or.inl rfl, S4, G4⟩
        case round =>
          obtain ⟨j, rfl, hjk, C1, S5, G5⟩ := hrel
          clear S4 G4
          by_cases hj : 0 < j
          · obtain ⟨p, rfl⟩ : ∃ p, j = p + 1 := ⟨j - 1, by omega⟩
            have e1 : (0 : Int) < (p : Int) + 1 := by omega
            have e2 : IntKind.i64.wrap (p : Int) = (p : Int) := IntWalk.i64_in _ (by omega)
            have e3 : (p : Int) < (k : Int) + 1 := by omega
            have e4 : (p : Int) + 1 < (k : Int) + 1 := by omega
            have e5 : (0 : Int) ≤ (p : Int) + 1 := by omega
            have e6 : ((p : Int) + 1).toNat = p + 1 := by omega
            have e7 : (p : Int) < k := by omega
            obtain ⟨Y, hY⟩ : ∃ Y, Y = f p := ⟨_, rfl⟩
            have r1 := S5.out.cells (i := p) (by omega)
            rw [hole_at f (Nat.lt_succ_self p), ← hY] at r1
            have TB : Hid (Both m g1 (p * 4) X.two X.three X.five X.root Y.two Y.three Y.five Y.root wr) := Lib.hid ⟨G5.out, S5.out.base.2, r1.1, r1.2.1, r1.2.2.1, r1.2.2.2⟩
            obtain ⟨C, hC⟩ : ∃ C, C = cmpV Y X := ⟨_, rfl⟩
            have PK : SCmpPick Y.two Y.three Y.five Y.root X.two X.three X.five X.root C := by rw [hC]; exact fun w => scompareTone _ _ _ _ _ _ _ _ w
            have KY := Lib.hid (cmpV_flip (KD.out k p (by omega) (by omega)))
            rw [HX.out, ← hY, ← hC] at KY
            have HY := Lib.hid hY
            clear hC hY r1
            by_cases hc : 0 < C
            · go_upto_region 10 with fail
              go_region_held3 (fun w' => w'.cell? ⟨m, 0, none⟩ = some (.int .i64 X.two) ∧ w'.cell? ⟨m, 1, none⟩ = some (.int .i64 X.three) ∧ w'.cell? ⟨m, 2, none⟩ = some (.int .i64 X.five) ∧ w'.cell? ⟨m, 3, none⟩ = some (.int .i64 X.root) ∧ w'.cell? ⟨g1, p * 4, none⟩ = some (.int .i64 Y.two) ∧ w'.cell? ⟨g1, p * 4 + 1, none⟩ = some (.int .i64 Y.three) ∧ w'.cell? ⟨g1, p * 4 + 2, none⟩ = some (.int .i64 Y.five) ∧ w'.cell? ⟨g1, p * 4 + 3, none⟩ = some (.int .i64 Y.root)) (with_reducible first | exact both_cells (both_drew TB.out) | exact both_cells (both_keep (by assumption) TB.out) | exact both_cells TB.out)
                (first
                  | (go_at_call 25; refine (calls_fromS (W := wr) (by with_reducible first | assumption | exact (Below.refl _ _).drew) (scmp_pick (by with_reducible assumption) _)).mono ?_; rintro e9 w5 ⟨rfl, hb5⟩))
              have S6 := Lib.hid (S5.out.below hb5)
              have G6 := Lib.hid (four_keep hb5 G5.out)
              have T6 := Lib.hid (both_keep hb5 TB.out)
              clear hb5 S5 G5 TB
              obtain ⟨_, _, y0, y1, y2, y3⟩ := T6.out
              have fz := S6.out.free
              obtain ⟨z4, z5, z6, z7⟩ := S6.out.cells (i := p + 1) (by omega)
              go_upto_region 12 with fail
              obtain ⟨Z, hZ, hS, hF⟩ := put_named S6.out HME.out G6.out (i := p + 1) (by omega) Y
              rw [← hZ]
              have S7 := Lib.hid (show Srt w w.heap.size g1 cap1 (k + 1) (holeF p k f) Z from by rw [← hole_step f hjk, ← HY.out]; exact hS)
              have G7 := Lib.hid hF
              clear hZ hS hF y0 y1 y2 y3 fz z4 z5 z6 z7
              go_wp2_with fail
              go_roundw
              case rel => exact ⟨p, by go_num, by omega, Or.inr (by rw [← HY.out]; exact Int.le_of_lt (KY.out.1 hc)), S7, G7⟩
              case measure => simp [intOf]
            · have hc2 : decide (0 < C) = false := decide_eq_false hc
              have A2 := Lib.hid (asc_down VA.out (i := p + 1) (Nat.zero_le _) hjk (Or.inr (by rw [Nat.add_sub_cancel, ← HY.out, HX.out]; have := KY.out; omega)) (C1.out.imp id (fun h => by rw [HX.out]; exact h)))
              go_upto_region 10 with fail
              go_region_held3 (fun w' => w'.cell? ⟨m, 0, none⟩ = some (.int .i64 X.two) ∧ w'.cell? ⟨m, 1, none⟩ = some (.int .i64 X.three) ∧ w'.cell? ⟨m, 2, none⟩ = some (.int .i64 X.five) ∧ w'.cell? ⟨m, 3, none⟩ = some (.int .i64 X.root) ∧ w'.cell? ⟨g1, p * 4, none⟩ = some (.int .i64 Y.two) ∧ w'.cell? ⟨g1, p * 4 + 1, none⟩ = some (.int .i64 Y.three) ∧ w'.cell? ⟨g1, p * 4 + 2, none⟩ = some (.int .i64 Y.five) ∧ w'.cell? ⟨g1, p * 4 + 3, none⟩ = some (.int .i64 Y.root)) (with_reducible first | exact both_cells (both_drew TB.out) | exact both_cells (both_keep (by assumption) TB.out) | exact both_cells TB.out)
                (first
                  | (go_at_call 25; refine (calls_fromS (W := wr) (by with_reducible first | assumption | exact (Below.refl _ _).drew) (scmp_pick (by with_reducible assumption) _)).mono ?_; rintro e9 w5 ⟨rfl, hb5⟩))
              have S6 := Lib.hid (S5.out.below hb5)
              have G6 := Lib.hid (four_keep hb5 G5.out)
              clear hb5 S5 G5 TB
              obtain ⟨z4, z5, z6, z7⟩ := S6.out.cells (i := p + 1) (by omega)
              have fz := S6.out.free
              obtain ⟨_, x0, x1, x2, x3⟩ := G6.out
              go_upto_region 6 with fail
              obtain ⟨Z, hZ, hS, hF⟩ := put_named S6.out HME.out G6.out (i := p + 1) (by omega) X
              rw [← hZ]
              have S7 := Lib.hid (show Srt w w.heap.size g1 cap1 (k + 1) (rotF (p + 1) k (k + 1) f) Z from by rw [← hole_put f hjk, HX.out]; exact hS)
              clear hZ hS hF fz z4 z5 z6 z7 x0 x1 x2 x3
              have MM := Lib.hid (VM1.out.trans ((mv_rot f hjk (Nat.le_succ k)).mono (Nat.zero_le _) (Nat.le_refl _)))
              go_wp2_with fail
              go_roundw
              case rel => exact ⟨k + 1, rotF (p + 1) k (k + 1) f, by omega, by go_num, MM, A2, S7.out.1, S7.out.2.1⟩
              case measure => simp [intOf]; omega
          · have t5 : ¬ (0 : Int) < (j : Int) := by omega
            have t6 : decide ((j : Int) > 0) = false := decide_eq_false (by omega)
            have t7 : (j : Int) < (k : Int) + 1 := by omega
            have t8 : (0 : Int) ≤ (j : Int) := by omega
            have S6 := Lib.hid S5.out.drew
            have G6 := Lib.hid (four_drewF G5.out)
            have A2 := Lib.hid (asc_down VA.out (i := j) (Nat.zero_le _) hjk (Or.inl (by omega)) (C1.out.imp id (fun h => by rw [HX.out]; exact h)))
            obtain ⟨Wd, hWd⟩ : ∃ y, y = wr.drew := ⟨_, rfl⟩
            go_wp2_with fail
            go_region
            rw [← hWd] at S6 G6 ⊢
            clear hWd S5 G5
            obtain ⟨z4, z5, z6, z7⟩ := S6.out.cells (i := j) (by omega)
            have fz := S6.out.free
            obtain ⟨_, x0, x1, x2, x3⟩ := G6.out
            go_upto_region 6 with fail
            obtain ⟨Z, hZ, hS, hF⟩ := put_named S6.out HME.out G6.out (i := j) (by omega) X
            rw [← hZ]
            have S7 := Lib.hid (show Srt w w.heap.size g1 cap1 (k + 1) (rotF (j) k (k + 1) f) Z from by rw [← hole_put f hjk, HX.out]; exact hS)
            clear hZ hS hF fz z4 z5 z6 z7 x0 x1 x2 x3
            have MM := Lib.hid (VM1.out.trans ((mv_rot f hjk (Nat.le_succ k)).mono (Nat.zero_le _) (Nat.le_refl _)))
            go_wp2_with fail
            go_roundw
            case rel => exact ⟨k + 1, rotF (j) k (k + 1) f, by omega, by go_num, MM, A2, S7.out.1, S7.out.2.1⟩
            case measure => simp [intOf]; omega
      · have hkn : k = n := by have := HN.out; omega
        subst hkn
        go_wp2_with fail
        go_ret
        exact ⟨⟨_, rfl, Or.inr ⟨HV.out, k, f, HN.out, VM.out, VA.out, HO.out⟩⟩, HB.out⟩
  · have NV := Lib.hid hv
    have OL := Lib.hid (World.ownsRow_lit (base := w.heap.size) (e := 25) (size := 4) w #[] 0 (Nat.le_refl _) (by unfold maxLen; omega) rfl)
    by_cases d1 : -30 ≤ low ∧ low ≤ high
    · have D := Lib.hid (decide_eq_true d1)
      have d3 : 30 < high := by omega
      clear hv d1
      go_enter Tryd.func43, Tryd.ntmps43
      go_wp2_with fail
      refine (in_any _ _ _ _).mono ?_
      rintro en wi ⟨rfl, rfl⟩
      rw [D.out]
      go_wp2_with fail
      go_ret
      exact ⟨⟨_, rfl, Or.inl ⟨NV.out, OL.out⟩⟩, (Below.refl _ w).alloc (Nat.le_refl _) _⟩
    · have D := Lib.hid (decide_eq_false d1)
      clear hv d1
      go_enter Tryd.func43, Tryd.ntmps43
      go_wp2_with fail
      refine (in_any _ _ _ _).mono ?_
      rintro en wi ⟨rfl, rfl⟩
      rw [D.out]
      go_wp2_with fail
      go_ret
      exact ⟨⟨_, rfl, Or.inl ⟨NV.out, OL.out⟩⟩, (Below.refl _ w).alloc (Nat.le_refl _) _⟩
end Go.Proofs.YtdnlebijmiaclabDoor
