/- Contracts of impl.ModeOf, SameMode, CountModes, BrightestMode, ReverseScale and IsMirror. -/
import Derived.Test.YtppbcjpabmllnaaModeRows
import Derived.Test.YtppbcjpabmllnaaModeOffs
import Derived.Test.YtppbcjpabmllnaaScaleCode
import Derived.Deep.RegionHeld3
namespace Go.Proofs.Ytppbcjpabmllnaa
open Go.RowKit Go.Joins
set_option linter.unusedVariables false
theorem smTo_first {xs ys : List Int} {k : Nat} (hk : modL xs k = ys) (hb : ∀ a, a < k → ¬ modL xs a = ys) : ∀ m, k < m → smTo xs ys m = k
  | 0, h => by omega
  | m + 1, h => by
    show (if 0 ≤ smTo xs ys m then smTo xs ys m else if modL xs m = ys then (m : Int) else -1) = k
    rcases (show k < m ∨ k = m from by omega) with q | q
    · rw [smTo_first hk hb m q, if_pos (by omega)]
    · subst q
      rw [smTo_no k hb, if_neg (by omega), if_pos hk]
theorem smTo_ge (xs ys : List Int) : ∀ m, -1 ≤ smTo xs ys m
  | 0 => by show (-1 : Int) ≤ -1; omega
  | m + 1 => by
    show -1 ≤ (if 0 ≤ smTo xs ys m then smTo xs ys m else if modL xs m = ys then (m : Int) else -1)
    have := smTo_ge xs ys m
    split
    · omega
    · split <;> omega
theorem smF_ge (xs ys : List Int) : -1 ≤ smF xs ys := by
  unfold smF
  split
  · exact smTo_ge _ _ _
  · omega
theorem sm_new {xs : List Int} (hs : ScOk xs) {k : Nat} (hk : k < xs.length) : (smF xs (modL xs k) == (k : Int)) = decide (NewM xs k) := by
  unfold smF
  rw [if_pos hs]
  by_cases hn : NewM xs k
  · rw [smTo_first rfl hn _ hk, decide_eq_true hn]; simp
  · rw [decide_eq_false hn]
    obtain ⟨i, hi, e⟩ : ∃ i, i < k ∧ modL xs i = modL xs k := Classical.byContradiction fun q => hn fun i hi e => q ⟨i, hi, e⟩
    have := smTo_has xs.length i (Nat.lt_trans hi hk) e
    simp
    omega
/-- A part of a row is a row. -/
theorem off_sub {w : World} {B g N cap k n c : Nat} {e : TypeId} {L xs : List Int} (h : w.ownsRow B e 1 (.slice (some ⟨g, 0, none⟩) N cap) N (intCs L)) (hg : g < w.heap.size) (hb : B ≤ g) (hkn : k + n ≤ N) (hl : xs.length = n) (hx : ∀ j, j < n → xs.getD j 0 = L.getD (k + j) 0) : OffI w B (.slice (some ⟨g, k, none⟩) n c) n xs :=
  ⟨hl, .inr ⟨g, k, c, rfl, ⟨hb, hg⟩, fun j hj => by rw [own_icell h (k + j) (by omega), hx j hj], fun j => h.frozenAt j⟩⟩
theorem off_nil (w : World) (B : Nat) : OffI w B (.slice none 0 0) 0 [] := ⟨rfl, .inl ⟨rfl, rfl⟩⟩
set_option maxRecDepth 100000 in
set_option maxHeartbeats 4000000 in
theorem mode_off : ModeOff := by
  intro xs i ys hy w b v hl h
  have CO := Lib.hid (fun X (hX : Below w.heap.size w X) => scOk_off xs (scB xs) rfl X b v hl (off_below h hX))
  obtain ⟨n, hn⟩ : ∃ n, n = xs.length := ⟨_, rfl⟩
  rw [← hn] at h hl
  have HY := Lib.hid hy
  have HN := Lib.hid hn
  have HH := Lib.hid h
  clear hy hn
  obtain ⟨q, hq⟩ : ∃ q, q = w.heap.size := ⟨_, rfl⟩
  obtain ⟨p, c, rfl⟩ := off_slice h
  obtain ⟨W0, hW⟩ : ∃ W, W = (w.alloc (.cells #[.slice p n c] 26)).alloc (.cells #[.slice none 0 0] 26) := ⟨_, rfl⟩
  have B0 : Hid (Below w.heap.size w W0) := Lib.hid (by rw [hW]; exact below_alloc2 w _ _)
  have C0 : Hid (One q (.slice p n c) W0) := Lib.hid (by rw [hW, hq]; exact one_al one_alloc)
  have Z0 : Hid (One (q + 1) (.slice none 0 0) W0) := Lib.hid (by rw [hW, hq]; simpa using one_alloc (w := w.alloc (.cells #[.slice p n c] 26)) (v := .slice none 0 0) (t := 26))
  have HQ := Lib.hid hq
  have CK := Lib.hid (CO.out W0 B0.out)
  obtain ⟨zi, hzi⟩ : ∃ z, decide (0 ≤ i ∧ i < (n : Int)) = z := ⟨_, rfl⟩
  have SA := Lib.hid (fun X => size_at hzi p c X)
  have HZI := Lib.hid hzi
  clear h CO hzi
  by_cases hs : ScOk xs
  · rw [show scB xs = true from decide_eq_true hs] at CK
    have h12 : 1 ≤ n ∧ n ≤ 12 := by rw [HN.out]; exact hs.1
    have HS := Lib.hid hs
    clear hs
    cases zi
    · have R : Hid (ys = []) := Lib.hid (by rw [HY.out]; exact mod_no (fun u => of_decide_eq_false HZI.out (by have := u.2; have := HN.out; omega)))
      obtain ⟨_, c0, _⟩ := C0.out
      go_enter Try.func35, Try.ntmps35
      go_upto_region 1 with fail
      rw [← hW, ← hq]
      clear hW hq
      go_wp2_with fail
      refine CK.out.mono ?_
      rintro e1 w1 ⟨rfl, b1⟩
      obtain ⟨_, c1, _⟩ := one_keep b1 C0.out
      have Z1 := Lib.hid (one_keep b1 Z0.out)
      have B1 := Lib.hid (B0.out.trans (b1.mono B0.out.size))
      clear b1 c0 CK
      go_wp2_with fail
      refine (SA.out _).mono ?_
      rintro e1 w2 ⟨rfl, b2⟩
      have Z2 := Lib.hid (one_keep b2 Z1.out)
      have B2 := Lib.hid (B1.out.trans (b2.mono B1.out.size))
      obtain ⟨_, z2, f2⟩ := Z2.out
      obtain ⟨_, x1, _⟩ := one_set (u := .slice none 0 0) Z2.out
      clear b2 c1
      go_wp2_with fail
      refine bodyPost_ret (v := cirV (.slice none 0 0)) (by simp [results, Try.results35, go_sem, x1]) rfl ⟨_, rfl, by rw [R.out]; exact off_nil _ _, B2.out.setCell (by rw [← HQ.out]; simp) _⟩
    · have hi := of_decide_eq_true HZI.out
      obtain ⟨k, rfl⟩ : ∃ k : Nat, i = (k : Int) := ⟨i.toNat, by omega⟩
      have hk : k < n := by omega
      have R : Hid (ys = modL xs k) := Lib.hid (by rw [HY.out]; exact mod_yes HS.out (by rw [← HN.out]; exact hk))
      obtain ⟨g, o, c', hv, _, _⟩ := off_pos HH.out (by omega)
      simp only [Value.slice.injEq, true_and] at hv
      obtain ⟨rfl, rfl⟩ := hv
      obtain ⟨N, hN⟩ : ∃ N, N = 2 * n := ⟨_, rfl⟩
      have HNN := Lib.hid hN
      have hkN : k + n ≤ N := by omega
      have t1 : (k : Int) + n ≤ N := by omega
      have t2 : (0 : Int) ≤ (k : Int) + n := by omega
      have t3 : (k : Int) ≤ (k : Int) + n := by omega
      have t4 : ((k : Int) + n).toNat = k + n := by omega
      have t5 : k + n - k = n := by omega
      obtain ⟨_, c0, _⟩ := C0.out
      clear hi hN
      go_enter Try.func35, Try.ntmps35
      go_upto_region 1 with fail
      rw [← hW, ← hq]
      clear hW hq
      go_wp2_with fail
      refine CK.out.mono ?_
      rintro e1 w1 ⟨rfl, b1⟩
      have C1 := Lib.hid (one_keep b1 C0.out)
      obtain ⟨_, c1, _⟩ := C1.out
      have Z1 := Lib.hid (one_keep b1 Z0.out)
      have B1 := Lib.hid (B0.out.trans (b1.mono B0.out.size))
      clear b1 c0 CK
      go_wp2_with fail
      refine (SA.out _).mono ?_
      rintro e1 w2 ⟨rfl, b2⟩
      obtain ⟨_, c2, _⟩ := one_keep b2 C1.out
      have Z2 := Lib.hid (one_keep b2 Z1.out)
      have B2 := Lib.hid (B1.out.trans (b2.mono B1.out.size))
      have H2 := off_get (off_below HH.out B2.out)
      have RP := Lib.hid (repeat_2 h12 HN.out.symm HNN.out w2 g o c H2.1.2 H2.2.1)
      clear b2 c1 H2
      go_wp2_with fail
      refine RP.out.mono ?_
      rintro e1 w3 ⟨rfl, hg3, b3⟩
      have Z3 := Lib.hid (one_keep b3 Z2.out)
      have B3 := Lib.hid (B2.out.trans (b3.mono B2.out.size))
      obtain ⟨G, hG⟩ : ∃ G, G = w2.heap.size := ⟨_, rfl⟩
      rw [← hG] at hg3 ⊢
      have O3 : Hid (w3.ownsRow G 3 1 (.slice (some ⟨G, 0, none⟩) N N) N (intCs (xs ++ xs))) := Lib.hid (own_of_heap hg3 (Nat.le_refl _) (by have := HN.out; have := HNN.out; rw [List.length_append]; omega) (by unfold maxLen; have := HNN.out; omega))
      have HGW : Hid (w.heap.size ≤ G ∧ q + 1 < G) := Lib.hid ⟨by rw [hG]; exact B2.out.size, by rw [hG]; exact Z2.out.1⟩
      clear hg3 b3 c2 hG RP
      obtain ⟨_, z3, f3⟩ := Z3.out
      obtain ⟨_, x1, _⟩ := one_set (u := .slice (some ⟨G, k, none⟩) n n) Z3.out
      go_wp2_with fail
      refine bodyPost_ret (v := cirV (.slice (some ⟨G, k, none⟩) n n)) (by simp [results, Try.results35, go_sem, x1]) rfl ⟨_, rfl, ?_, B3.out.setCell (by rw [← HQ.out]; simp) _⟩
      have O4 := ownsRow_setCell_below O3.out (a := ⟨q + 1, 0, none⟩) HGW.out.2 (.slice (some ⟨G, k, none⟩) n n)
      obtain ⟨g', cap', e1, _, e2⟩ := own_pos O4 (by omega)
      simp only [Value.slice.injEq, Option.some.injEq, Addr.mk.injEq, and_true, true_and] at e1
      obtain ⟨rfl, _⟩ := e1
      have O5 : OffI _ G (.slice (some ⟨G, k, none⟩) n n) n ys := off_sub O4 e2 (Nat.le_refl _) hkN (by rw [R.out, modL_len]; exact HN.out.symm) (fun j hj => by
        rw [R.out, modL_get xs k j (by rw [← HN.out]; exact hj), twice_get (by have := HN.out; omega)]
        rfl)
      exact off_base (off_eq O5 rfl (by rw [R.out, modL_len]; exact HN.out)) HGW.out.1
  · rw [show scB xs = false from decide_eq_false hs] at CK
    have R : Hid (ys = []) := Lib.hid (by rw [HY.out]; exact mod_no (fun u => hs u.1))
    obtain ⟨_, c0, _⟩ := C0.out
    clear hs
    go_enter Try.func35, Try.ntmps35
    go_upto_region 1 with fail
    rw [← hW, ← hq]
    clear hW hq
    go_wp2_with fail
    refine CK.out.mono ?_
    rintro e1 w1 ⟨rfl, b1⟩
    have Z1 := Lib.hid (one_keep b1 Z0.out)
    have B1 := Lib.hid (B0.out.trans (b1.mono B0.out.size))
    obtain ⟨_, z1, f1⟩ := Z1.out
    obtain ⟨_, x1, _⟩ := one_set (u := .slice none 0 0) Z1.out
    clear b1 c0 CK
    go_wp2_with fail
    refine bodyPost_ret (v := cirV (.slice none 0 0)) (by simp [results, Try.results35, go_sem, x1]) rfl ⟨_, rfl, by rw [R.out]; exact off_nil _ _, B1.out.setCell (by rw [← HQ.out]; simp) _⟩
theorem one_at {m : Nat} {v : Value} {W X : World} (h : One m v W) (hb : Below W.heap.size W X) : X.cell? ⟨m, 0, none⟩ = some v := (one_keep hb h).2.1
/-- Two boxes. -/
def Bp2 (q1 q2 : Nat) (v1 v2 : Value) (W : World) : Prop := One q1 v1 W ∧ One q2 v2 W
theorem bp2_cells {q1 q2 : Nat} {v1 v2 : Value} {W X : World} (h : Bp2 q1 q2 v1 v2 W) (hb : Below W.heap.size W X) : X.cell? ⟨q1, 0, none⟩ = some v1 ∧ X.cell? ⟨q2, 0, none⟩ = some v2 := ⟨(one_keep hb h.1).2.1, (one_keep hb h.2).2.1⟩
theorem bp2_keep {q1 q2 : Nat} {v1 v2 : Value} {W X : World} (hb : Below W.heap.size W X) (h : Bp2 q1 q2 v1 v2 W) : Bp2 q1 q2 v1 v2 X := ⟨one_keep hb h.1, one_keep hb h.2⟩
set_option maxRecDepth 100000 in
set_option maxHeartbeats 8000000 in
theorem sm_off : SmOff := by
  intro xs ys y hy w b b' v v' hl hl' h h'
  have CO := Lib.hid (fun X (hX : Below w.heap.size w X) => scOk_off xs (scB xs) rfl X b v hl (off_below h hX))
  have MD := Lib.hid (fun X k (hX : Below w.heap.size w X) (hs : ScOk xs) (hk : k < xs.length) => md2_mk mode_off (f := 34) (i := (k : Int)) (z := decide (modL xs k = ys)) hl (off_below h hX) (off_below h' hX) (fun Y b1 b2 u1 u2 g1 g2 => by
    rw [mod_yes hs hk] at g1
    exact equal_off Y b1 b2 u1 u2 _ _ (by rw [modL_len]; exact hl) hl' g1 g2))
  obtain ⟨n, hn⟩ : ∃ n, n = xs.length := ⟨_, rfl⟩
  have HY := Lib.hid hy
  have HN := Lib.hid hn
  have FLD := fun (u : Value) (X : World) => scFld u X
  obtain ⟨p, c, hv⟩ := off_slice h
  rw [← hn] at hv
  subst hv
  obtain ⟨q, hq⟩ : ∃ q, q = w.heap.size := ⟨_, rfl⟩
  obtain ⟨W0, hW⟩ : ∃ W, W = (w.alloc (.cells #[.slice p n c] 26)).alloc (.cells #[v'] 26) := ⟨_, rfl⟩
  have B0 : Hid (Below w.heap.size w W0) := Lib.hid (by rw [hW]; exact below_alloc2 w _ _)
  have X0 : Hid (Bp2 q (q + 1) (.slice p n c) v' W0) := Lib.hid ⟨by rw [hW, hq]; exact one_al one_alloc, by rw [hW, hq]; simpa using one_alloc (w := w.alloc (.cells #[.slice p n c] 26)) (v := v') (t := 26)⟩
  have HQ := Lib.hid hq
  have CK := Lib.hid (CO.out W0 B0.out)
  obtain ⟨p', c', hv'⟩ := off_slice h'
  have HV := Lib.hid hv'
  clear h h' CO hn hy hv'
  obtain ⟨c0, d0⟩ := bp2_cells X0.out (Below.refl _ _)
  by_cases hs : ScOk xs
  · rw [show scB xs = true from decide_eq_true hs] at CK
    have h12 : 1 ≤ n ∧ n ≤ 12 := by rw [HN.out]; exact hs.1
    have HS := Lib.hid hs
    clear hs
    go_enter Try.func14, Try.ntmps14
    go_upto_region 1 with fail
    rw [← hW, ← hq]
    clear hW hq
    go_wp2_with fail
    refine CK.out.mono ?_
    rintro e1 w1 ⟨rfl, b1⟩
    have X1 := Lib.hid (bp2_keep b1 X0.out)
    have B1 := Lib.hid (B0.out.trans (b1.mono B0.out.size))
    clear b1 c0 d0 CK X0
    obtain ⟨c1, d1⟩ := bp2_cells X1.out (Below.refl _ _)
    go_wp2_with fail
    go_loopw [12] (fun x wr => ∃ k : Nat, k ≤ n ∧ x = .int .i64 (k : Int) ∧ Hid (∀ a, a < k → ¬ modL xs a = ys) ∧ Hid (Below w1.heap.size w1 wr)) (fun x _ => n - (intOf x).toNat)
    case atStart => exact ⟨0, Nat.zero_le _, by go_num, Lib.hid (fun j hj => by omega), Lib.hid (Below.refl _ _)⟩
    case round =>
      clear c1 d1
      obtain ⟨k, hk, rfl, HA, HB⟩ := hrel
      by_cases hlt : k < n
      · have q3 : (k : Int) < n := by omega
        have X2 := Lib.hid (bp2_keep HB.out X1.out)
        obtain ⟨c2, d2⟩ := bp2_cells X2.out (Below.refl _ _)
        obtain ⟨c3, d3⟩ := bp2_cells X2.out (Below.refl _ _).drew
        have BW := Lib.hid (B1.out.trans (HB.out.mono B1.out.size))
        obtain ⟨z, hz⟩ : ∃ z, decide (modL xs k = ys) = z := ⟨_, rfl⟩
        have M0 := MD.out wr k BW.out HS.out (by rw [← HN.out]; exact hlt)
        rw [hz] at M0
        have M1 := Lib.hid M0
        have HZ := Lib.hid hz
        have HK := Lib.hid hlt
        clear hlt hz M0
        go_wp2_with fail
        go_region_held3 (fun w' => w'.cell? ⟨q, 0, none⟩ = some (.slice p n c) ∧ w'.cell? ⟨q + 1, 0, none⟩ = some v') (with_reducible first | exact bp2_cells X2.out (Below.refl _ _).drew | exact bp2_cells X2.out (by assumption) | exact bp2_cells X2.out (Below.refl _ _))
          (first
            | (go_at_call 35; refine (md2_run M1.out _ (by with_reducible first | assumption | exact (Below.refl _ _).drew | exact (Below.refl _ _))).mono ?_; rintro e2 w2 ⟨u, rfl, hm, hb⟩)
            | (go_at_call 34; refine (fn2_run hm _ (by with_reducible first | assumption | exact (Below.refl _ _).drew | exact (Below.refl _ _))).mono ?_; rintro e3 w3 ⟨rfl, hb3⟩))
        have B3 := Lib.hid (HB.out.trans (hb3.mono HB.out.size))
        clear hb hb3 hm M1 c2 c3 d2 d3
        cases z
        · go_wp2_with fail
          go_roundw
          case rel => exact ⟨k + 1, HK.out, by go_num, Lib.hid (fun j hj => (show j < k ∨ j = k from by omega).elim (HA.out j) (fun e => by rw [e]; exact of_decide_eq_false HZ.out)), B3⟩
          case measure => have := HK.out; simp [intOf]; omega
        · have R := Lib.hid (show y = (k : Int) from by rw [HY.out]; unfold smF; rw [if_pos HS.out, smTo_first (of_decide_eq_true HZ.out) HA.out _ (by rw [← HN.out]; exact HK.out)])
          have B4 := Lib.hid (B1.out.trans (B3.out.mono B1.out.size))
          go_wp2_with fail
          go_ret
          exact ⟨ret_int R.out.symm, B4.out⟩
      · have q3 : ¬ (k : Int) < n := by omega
        obtain rfl : k = n := by omega
        have R := Lib.hid (show y = -1 from by rw [HY.out]; unfold smF; rw [if_pos HS.out, smTo_no _ (fun a ha => HA.out a (by rw [HN.out]; exact ha))])
        have B4 := Lib.hid (B1.out.trans (HB.out.mono B1.out.size))
        go_wp2_with fail
        go_ret
        exact ⟨ret_int R.out.symm, B4.out⟩
  · rw [show scB xs = false from decide_eq_false hs] at CK
    have R : Hid (y = -1) := Lib.hid (by rw [HY.out]; exact if_neg hs)
    clear hs
    go_enter Try.func14, Try.ntmps14
    go_upto_region 1 with fail
    rw [← hW, ← hq]
    clear hW hq
    go_wp2_with fail
    refine CK.out.mono ?_
    rintro e1 w1 ⟨rfl, b1⟩
    have B1 := Lib.hid (B0.out.trans (b1.mono B0.out.size))
    clear b1
    go_wp2_with fail
    go_ret
    exact ⟨ret_int R.out.symm, B1.out⟩
/-- A mode and SameMode of it. -/
def SmS (v u : Value) (y : Int) (W2 W : World) : Prop := ∀ X, Below W2.heap.size W2 X → Calls Try.prog 14 #[cirV v, cirV u] X fun e w' => e = .returned (.int .i64 y) ∧ Below W.heap.size W w'
theorem smS_run {v u : Value} {y : Int} {W2 W : World} (h : SmS v u y W2 W) (X : World) (hX : Below W2.heap.size W2 X) : Calls Try.prog 14 #[cirV v, cirV u] X fun e w' => e = .returned (.int .i64 y) ∧ Below W.heap.size W w' := h X hX
def MoS (v : Value) (i : Int) (y : Int) (W : World) : Prop := ∀ X, Below W.heap.size W X → Calls Try.prog 35 #[cirV v, .int .i64 i] X fun e w' => ∃ u, e = .returned (cirV u) ∧ SmS v u y w' W ∧ Below W.heap.size W w'
theorem moS_run {v : Value} {i y : Int} {W : World} (h : MoS v i y W) (X : World) (hX : Below W.heap.size W X) : Calls Try.prog 35 #[cirV v, .int .i64 i] X fun e w' => ∃ u, e = .returned (cirV u) ∧ SmS v u y w' W ∧ Below W.heap.size W w' := h X hX
theorem moS_mk {xs : List Int} {W : World} {b : Nat} {v : Value} {i : Int} (hl : xs.length ≤ 2000000) (h : OffI W b v xs.length xs) : MoS v i (smF xs (modF xs i)) W := fun X hX =>
  (mode_off xs i _ rfl X b v hl (off_below h hX)).mono fun e2 w2 ⟨u, he, ou, bu⟩ =>
    have h3 : Below W.heap.size W w2 := hX.trans (bu.mono hX.size)
    ⟨u, he, fun Z hZ => (sm_off xs (modF xs i) _ rfl Z b _ v u hl (by have := modF_len xs i; omega) (off_below h (h3.trans (hZ.mono h3.size))) (off_below ou hZ)).mono fun _ _ ⟨h5, h6⟩ => ⟨h5, h3.trans ((hZ.trans (h6.mono hZ.size)).mono h3.size)⟩, h3⟩
theorem gt_self (a : List Int) : gtL a a = false := gt_end rfl fun _ _ => rfl
theorem brTo_next (xs : List Int) (k : Nat) : brTo xs (k + 1) = if gtL (modL xs k) (modL xs (brTo xs k)) = true then k else brTo xs k := by
  show (if k = 0 then 0 else if gtL (modL xs k) (modL xs (brTo xs k)) = true then k else brTo xs k) = _
  by_cases h : k = 0
  · subst h
    rw [if_pos rfl, show brTo xs 0 = 0 from rfl, gt_self]
    rfl
  · rw [if_neg h]
theorem brTo_below (xs : List Int) {n k : Nat} (hn : 0 < n) (hk : k ≤ n) : brTo xs k < n := by
  cases k with
  | zero => exact hn
  | succ k => have := brTo_lt xs k; omega
/-- A scale backwards and SameMode of it. -/
def SmR (u v : Value) (y : Int) (W2 W : World) : Prop := ∀ X, Below W2.heap.size W2 X → Calls Try.prog 14 #[cirV u, cirV v] X fun e w' => e = .returned (.int .i64 y) ∧ Below W.heap.size W w'
theorem smR_run {u v : Value} {y : Int} {W2 W : World} (h : SmR u v y W2 W) (X : World) (hX : Below W2.heap.size W2 X) : Calls Try.prog 14 #[cirV u, cirV v] X fun e w' => e = .returned (.int .i64 y) ∧ Below W.heap.size W w' := h X hX
end Go.Proofs.Ytppbcjpabmllnaa
