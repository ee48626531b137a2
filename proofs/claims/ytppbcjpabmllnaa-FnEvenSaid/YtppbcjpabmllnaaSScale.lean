/- Contracts of spec.ScaleOk, spec.ScaleSum, spec.SpanAt, spec.SpansOf, spec.HasTwoSizes and spec.MajorScale. -/
import Derived.Test.YtppbcjpabmllnaaScMath
import Derived.Test.YtppbcjpabmllnaaScRows
import Derived.Test.YtppbcjpabmllnaaBigWalks
import Derived.Deep.RegionHeld3
namespace Go.Proofs.Ytppbcjpabmllnaa
open Go.RowKit Go.Joins
set_option linter.unusedVariables false
set_option maxHeartbeats 1000000 in
theorem scOk_spec {xs : List Int} {y : Bool} (hf : ScAt xs y) (w : World) (b : Nat) (e : TypeId) (v : Value) (hl : xs.length ≤ 2000000) (h : w.ownsRow b e 1 v xs.length (intCs xs)) :
    Calls Try.prog 38 #[cirV v] w fun en w' => en = .returned (.bool y) ∧ Below w.heap.size w w' := by
  obtain ⟨n, hn⟩ : ∃ n, n = xs.length := ⟨_, rfl⟩
  rw [← hn] at h hl
  obtain ⟨p, cap, rfl⟩ := own_slice h
  have HC := Lib.hid (fun j (hj : j < n) => show ∃ g, p = some ⟨g, 0, none⟩ ∧ (w.alloc (.cells #[.slice p n cap] 26)).cell? ⟨g, j, none⟩ = some (.int .i64 (xs.getD j 0)) from by
    obtain ⟨g, cap', e1, _, hg⟩ := own_pos h (by omega)
    simp only [Value.slice.injEq] at e1
    obtain ⟨rfl, _, rfl⟩ := e1
    exact ⟨g, rfl, ((below_alloc1 w (.cells #[.slice (some ⟨g, 0, none⟩) n cap] 26)).cell (p := ⟨g, j, none⟩) hg).trans (own_icell h j hj)⟩)
  obtain ⟨_, c0, _⟩ := one_alloc (w := w) (v := .slice p n cap) (t := 26)
  have B0 := Lib.hid (below_alloc1 w (.cells #[.slice p n cap] 26))
  have HN := Lib.hid hn
  have HF := Lib.hid hf
  clear h hn hf
  go_enter Try.func38, Try.ntmps38
  go_upto_region 1 with fail
  obtain ⟨W0, hW⟩ : ∃ W, W = w.alloc (.cells #[.slice p n cap] 26) := ⟨_, rfl⟩
  rw [← hW] at HC c0 B0 ⊢
  clear hW
  go_wp2_with fail
  go_loopw [3, 4] (fun s i wr => ∃ (k : Nat) (S : Int), k ≤ n ∧ Hid (∀ j, j < k → 1 ≤ xs.getD j 0 ∧ xs.getD j 0 ≤ 20) ∧ S = sumTo xs k ∧ s = .int .i64 S ∧ i = .int .i64 k ∧ wr = W0) (fun _ i _ => n - (intOf i).toNat)
  case atStart => exact ⟨0, 0, Nat.zero_le _, Lib.hid (fun j hj => by omega), rfl, rfl, rfl, rfl⟩
  case round =>
    obtain ⟨k, S, hk, HA, hS, rfl, rfl, rfl⟩ := hrel
    have hb := sum_bd20 HA.out k (Nat.le_refl _)
    rw [← hS] at hb
    have HS := Lib.hid hS
    clear hS
    by_cases hlt : k < n
    · obtain ⟨g, hp, q1⟩ := HC.out k hlt
      subst hp
      have q3 : (k : Int) < n := by omega
      obtain ⟨x, hxk⟩ : ∃ x, x = xs.getD k 0 := ⟨_, rfl⟩
      rw [← hxk] at q1
      have HX := Lib.hid hxk
      clear hxk
      have C := inT_any x 1 20
      by_cases hx : 1 ≤ x ∧ x ≤ 20
      · rw [decide_eq_true hx] at C
        have HXB := Lib.hid hx
        go_wp2_with fail
        refine (C _).mono ?_
        rintro e1 w1 ⟨rfl, rfl⟩
        go_wp2_with fail
        go_roundw
        case rel => exact ⟨k + 1, S + x, by omega, Lib.hid (fun j hj => (show j < k ∨ j = k from by omega).elim (fun h => HA.out j h) (fun h => by rw [h, ← HX.out]; exact HXB.out)), by rw [HS.out, HX.out]; rfl, by go_num, by go_num, by trivial⟩
        case measure => simp [intOf]; omega
      · rw [decide_eq_false hx] at C
        have HXB := Lib.hid hx
        have R := Lib.hid (show y = false from by rw [HF.out]; exact decide_eq_false (fun h => HXB.out (by rw [HX.out]; exact h.2.1 k (by have := HN.out; omega))))
        clear hx
        go_wp2_with fail
        refine (C _).mono ?_
        rintro e1 w1 ⟨rfl, rfl⟩
        go_wp2_with fail
        go_ret
        exact ⟨ret_bool R.out.symm, B0.out⟩
    · have q3 : ¬ (k : Int) < n := by omega
      obtain rfl : k = n := by omega
      have C := inT_any (k : Int) 1 12
      by_cases h12 : 1 ≤ (k : Int) ∧ (k : Int) ≤ 12
      · rw [decide_eq_true h12] at C
        have R := Lib.hid (show y = decide (S ≤ 60) from by
          rw [HF.out]
          exact decide_eq_decide.2 ⟨fun h => by rw [HS.out, HN.out]; exact h.2.2, fun h => ⟨by have := HN.out; omega, by rw [← HN.out]; exact HA.out, by rw [← HN.out, ← HS.out]; exact h⟩⟩)
        clear h12
        go_wp2_with fail
        refine (C _).mono ?_
        rintro e1 w1 ⟨rfl, rfl⟩
        go_wp2_with fail
        go_ret
        exact ⟨ret_bool R.out.symm, B0.out⟩
      · rw [decide_eq_false h12] at C
        have R := Lib.hid (show y = false from by rw [HF.out]; exact decide_eq_false (fun h => h12 (by have := h.1; have := HN.out; omega)))
        clear h12
        go_wp2_with fail
        refine (C _).mono ?_
        rintro e1 w1 ⟨rfl, rfl⟩
        go_wp2_with fail
        go_ret
        exact ⟨ret_bool R.out.symm, B0.out⟩
/-- A scale's box and its sizes. -/
def ScBox (xs : List Int) (m q n c : Nat) (w : World) : Prop := (m < w.heap.size ∧ q < w.heap.size) ∧ w.cell? ⟨m, 0, none⟩ = some (.slice (some ⟨q, 0, none⟩) n c) ∧ ∀ j, j < n → w.cell? ⟨q, j, none⟩ = some (.int .i64 (xs.getD j 0))
theorem scBox_keep {xs : List Int} {m q n c : Nat} {w w' : World} (h : ScBox xs m q n c w) (hb : Below w.heap.size w w') : ScBox xs m q n c w' :=
  ⟨⟨Nat.lt_of_lt_of_le h.1.1 hb.size, Nat.lt_of_lt_of_le h.1.2 hb.size⟩, (hb.cell h.1.1).trans h.2.1, fun j hj => (hb.cell (p := ⟨q, j, none⟩) h.1.2).trans (h.2.2 j hj)⟩
theorem scBox_cell {xs : List Int} {m q n c : Nat} {w : World} (h : ScBox xs m q n c w) : w.cell? ⟨m, 0, none⟩ = some (.slice (some ⟨q, 0, none⟩) n c) := h.2.1
/-- A row that is not empty, laid into a box. -/
theorem scBox_new {xs : List Int} {w W0 : World} {b : Nat} {e : TypeId} {v : Value} {n : Nat} (hn : 0 < n) (h : w.ownsRow b e 1 v n (intCs xs)) (hW : W0 = w.alloc (.cells #[v] 26)) :
    ∃ q c, v = .slice (some ⟨q, 0, none⟩) n c ∧ ScBox xs w.heap.size q n c W0 := by
  obtain ⟨q, c, rfl, _, hq⟩ := own_pos h hn
  refine ⟨q, c, rfl, ?_⟩
  subst hW
  have X0 := one_alloc (w := w) (v := .slice (some ⟨q, 0, none⟩) n c) (t := 26)
  have B0 := below_alloc1 w (.cells #[.slice (some ⟨q, 0, none⟩) n c] 26)
  exact ⟨⟨X0.1, Nat.lt_of_lt_of_le hq B0.size⟩, X0.2.1, fun j hj => (B0.cell (p := ⟨q, j, none⟩) hq).trans (own_icell h j hj)⟩
set_option maxRecDepth 100000 in
set_option maxHeartbeats 4000000 in
theorem span_spec {xs : List Int} {i k y : Int} (hf : SpanAt21 xs i k y) (w : World) (b : Nat) (e : TypeId) (v : Value) (hl : xs.length ≤ 2000000) (h : w.ownsRow b e 1 v xs.length (intCs xs)) :
    Calls Try.prog 53 #[cirV v, .int .i64 i, .int .i64 k] w fun en w' => en = .returned (.int .i64 y) ∧ Below w.heap.size w w' := by
  have CO := Lib.hid (fun X (hX : Below w.heap.size w X) => scOk_spec (y := scB xs) rfl X b e v hl (own_below h hX))
  obtain ⟨n, hn⟩ : ∃ n, n = xs.length := ⟨_, rfl⟩
  rw [← hn] at h hl
  have HN := Lib.hid hn
  obtain ⟨W0, hW0⟩ : ∃ W0, W0 = w.alloc (.cells #[v] 26) := ⟨_, rfl⟩
  have B0 : Hid (Below w.heap.size w W0) := Lib.hid (by rw [hW0]; exact below_alloc1 w _)
  have I1 := Lib.hid (fun X => inT_any i 0 ((n : Int) - 1) X)
  have I2 := Lib.hid (fun X => inT_any k 0 (n : Int) X)
  by_cases hs : ScOk xs
  · rw [show scB xs = true from decide_eq_true hs] at CO
    have HS := Lib.hid hs
    have hn12 : 1 ≤ n ∧ n ≤ 12 := by rw [hn]; exact hs.1
    obtain ⟨q, c, rfl, hbox⟩ := scBox_new (by omega) h hW0
    have BX := Lib.hid hbox
    have c0 := scBox_cell hbox
    have CK := Lib.hid (CO.out W0 B0.out)
    have t1 : IntKind.i64.wrap ((n : Int) - 1) = (n : Int) - 1 := IntWalk.i64_in _ (by omega)
    have HF := Lib.hid hf
    clear h hl hn hs hbox CO hf
    by_cases hi : 0 ≤ i ∧ i ≤ (n : Int) - 1
    · rw [decide_eq_true hi] at I1
      by_cases hk : 0 ≤ k ∧ k ≤ (n : Int)
      · rw [decide_eq_true hk] at I2
        obtain ⟨j, rfl⟩ : ∃ j : Nat, i = (j : Int) := ⟨i.toNat, by omega⟩
        obtain ⟨d, rfl⟩ : ∃ d : Nat, k = (d : Int) := ⟨k.toNat, by omega⟩
        have hj : j < n := by omega
        have hd : d ≤ n := by omega
        have HY := Lib.hid (show y = spTo xs j d from by rw [HF.out]; exact span_yes HS.out (by rw [← HN.out]; exact hj) (by rw [← HN.out]; exact hd))
        clear hi hk HF
        go_enter Try.func53, Try.ntmps53
        go_upto_region 1 with fail
        rw [← hW0]
        clear hW0
        obtain ⟨m, hm⟩ : ∃ m, m = w.heap.size := ⟨_, rfl⟩
        rw [← hm] at BX c0 ⊢
        have HM := Lib.hid hm
        clear hm
        go_wp2_with fail
        refine CK.out.mono ?_
        rintro e1 w1 ⟨rfl, b1⟩
        have BX1 := Lib.hid (scBox_keep BX.out b1)
        have c1 := scBox_cell BX1.out
        have B1 := Lib.hid (B0.out.trans (b1.mono B0.out.size))
        clear b1 c0 BX B0 CK
        go_wp2_with fail
        refine (I1.out _).mono ?_
        rintro e2 w2 ⟨rfl, rfl⟩
        go_wp2_with fail
        refine (I2.out _).mono ?_
        rintro e3 w3 ⟨rfl, rfl⟩
        go_wp2_with fail
        go_loopw [7, 8] (fun s x wr => ∃ (t : Nat) (S : Int), t ≤ d ∧ S = spTo xs j t ∧ s = .int .i64 S ∧ x = .int .i64 t ∧ Hid (Below w1.heap.size w1 wr)) (fun _ x _ => d - (intOf x).toNat)
        case atStart => exact ⟨0, 0, Nat.zero_le _, rfl, rfl, rfl, Lib.hid (Below.refl _ _)⟩
        case round =>
          obtain ⟨t, S, ht, hS, rfl, rfl, HB⟩ := hrel
          have hb := sp_bd HS.out j t
          rw [← hS] at hb
          have HSS := Lib.hid hS
          have BX2 := Lib.hid (scBox_keep BX1.out HB.out)
          have c2 := scBox_cell BX2.out
          clear hS c1
          by_cases hlt : t < d
          · have q3 : (t : Int) < d := by omega
            obtain ⟨l, hl⟩ : ∃ l, l = (j + t) % n := ⟨_, rfl⟩
            have hl12 : l < n := by rw [hl]; exact Nat.mod_lt _ (by omega)
            obtain ⟨x, hx⟩ : ∃ x, x = xs.getD l 0 := ⟨_, rfl⟩
            have q1 : wr.cell? ⟨q, l, none⟩ = some (.int .i64 x) := (BX2.out.2.2 _ hl12).trans (by rw [hx])
            have hxb : 1 ≤ x ∧ x ≤ 20 := by rw [hx]; exact HS.out.2.1 _ (by rw [← HN.out]; exact hl12)
            have HX := Lib.hid (show x = xs.getD ((j + t) % n) 0 from by rw [hx, hl])
            have vt : (IntKind.i64.wrap ((j : Int) + t)).tmod (n : Int) = (l : Int) := by rw [IntWalk.i64_in _ (by omega), Int.tmod_eq_emod_of_nonneg (by omega), hl]; rfl
            have ve : ((j : Int) + t) % (n : Int) = (l : Int) := by rw [hl]; rfl
            have hn0 : ¬ (n : Int) = 0 := by omega
            have hn1 : ¬ n = 0 := by omega
            have hl1 : (l : Int) < n := by omega
            have hl0 : (0 : Int) ≤ l := by omega
            clear hx hl hl12
            go_upto_region 7 with fail
            go_region
            go_wp2_with fail
            go_roundw
            case rel => exact ⟨t + 1, S + x, by omega, by rw [HSS.out, HX.out, HN.out]; rfl, by go_num, by go_num, Lib.hid HB.out.drew⟩
            case measure => simp [intOf]; omega
          · have q3 : ¬ (t : Int) < d := by omega
            obtain rfl : t = d := by omega
            have B9 := Lib.hid (B1.out.trans (HB.out.mono B1.out.size))
            go_wp2_with fail
            go_ret
            exact ⟨ret_int (HSS.out.trans HY.out.symm), B9.out⟩
      · rw [decide_eq_false hk] at I2
        have HY := Lib.hid (show y = 0 from by rw [HF.out]; exact span_no (fun u => hk (by have := u.2.2; have := HN.out; omega)))
        clear hi hk HF
        go_enter Try.func53, Try.ntmps53
        go_upto_region 1 with fail
        rw [← hW0]
        clear hW0
        go_wp2_with fail
        refine CK.out.mono ?_
        rintro e1 w1 ⟨rfl, b1⟩
        have c1 := scBox_cell (scBox_keep BX.out b1)
        have B1 := Lib.hid (B0.out.trans (b1.mono B0.out.size))
        clear b1 c0 BX B0 CK
        go_wp2_with fail
        refine (I1.out _).mono ?_
        rintro e2 w2 ⟨rfl, rfl⟩
        go_wp2_with fail
        refine (I2.out _).mono ?_
        rintro e3 w3 ⟨rfl, rfl⟩
        go_wp2_with fail
        go_ret
        exact ⟨ret_int HY.out.symm, B1.out⟩
    · rw [decide_eq_false hi] at I1
      have HY := Lib.hid (show y = 0 from by rw [HF.out]; exact span_no (fun u => hi (by have := u.2.1; have := HN.out; omega)))
      clear hi HF
      go_enter Try.func53, Try.ntmps53
      go_upto_region 1 with fail
      rw [← hW0]
      clear hW0
      go_wp2_with fail
      refine CK.out.mono ?_
      rintro e1 w1 ⟨rfl, b1⟩
      have c1 := scBox_cell (scBox_keep BX.out b1)
      have B1 := Lib.hid (B0.out.trans (b1.mono B0.out.size))
      clear b1 c0 BX B0 CK
      go_wp2_with fail
      refine (I1.out _).mono ?_
      rintro e2 w2 ⟨rfl, rfl⟩
      go_wp2_with fail
      go_ret
      exact ⟨ret_int HY.out.symm, B1.out⟩
  · rw [show scB xs = false from decide_eq_false hs] at CO
    have HY := Lib.hid (show y = 0 from by rw [hf]; exact span_no (fun u => hs u.1))
    obtain ⟨p, c, rfl⟩ := own_slice h
    obtain ⟨_, c0, _⟩ := one_alloc (w := w) (v := .slice p n c) (t := 26)
    rw [← hW0] at c0
    have CK := Lib.hid (CO.out W0 B0.out)
    clear h hl hn hs CO hf
    go_enter Try.func53, Try.ntmps53
    go_upto_region 1 with fail
    rw [← hW0]
    clear hW0
    go_wp2_with fail
    refine CK.out.mono ?_
    rintro e1 w1 ⟨rfl, b1⟩
    have B1 := Lib.hid (B0.out.trans (b1.mono B0.out.size))
    clear b1 CK
    go_wp2_with fail
    go_ret
    exact ⟨ret_int HY.out.symm, B1.out⟩
set_option maxHeartbeats 1000000 in
theorem major_spec (w : World) : Calls Try.prog 43 #[] w (CirPost majL w) := by
  go_enter Try.func43, Try.ntmps43
  go_wp2_with fail
  refine bodyPost_ret (v := cirV (.slice (some ⟨w.heap.size + 1, 0, none⟩) 7 7)) (by simp [results, Try.results43, go_sem]) rfl ⟨_, rfl, own_of_heap (xs := majL) ?_ (by omega) rfl (by decide), below_alloc2 _ _ _⟩
  exact alloc_at
/-- The row's cells where one number is written. -/
theorem row_set21 {w : World} {B g n cap i : Nat} {e : TypeId} {L : List Int} {y : Int} (h : w.ownsRow B e 1 (.slice (some ⟨g, 0, none⟩) n cap) n (intCs L)) : (w.setCell ⟨g, i, none⟩ (.int .i64 y)).ownsRow B e 1 (.slice (some ⟨g, 0, none⟩) n cap) n (intCs (L.set i y)) := by
  have s := (h.stored i (.int .i64 y)).1
  rwa [show (intCs L).set i (.int .i64 y) = intCs (L.set i y) from by simp [intCs]] at s
theorem gap_app {w : World} {B g cap l : Nat} {e : TypeId} {L : List Int} (hl : l = L.length) (h : w.ownsRow B e 1 (.slice (some ⟨g, 0, none⟩) (l + 1) cap) (l + 1) (intCs L ++ [.int .i64 0])) : w.ownsRow B e 1 (.slice (some ⟨g, 0, none⟩) (l + 1) cap) (l + 1) (intCs (gapL L l 0)) := by
  subst hl
  rw [gap_end]
  simpa [intCs] using h
set_option maxRecDepth 100000 in
set_option maxHeartbeats 8000000 in
theorem spans_spec {xs : List Int} {i : Int} {ys : List Int} (hf : SpsAt xs i ys) (w : World) (b : Nat) (e : TypeId) (v : Value) (hl : xs.length ≤ 2000000) (h : w.ownsRow b e 1 v xs.length (intCs xs)) :
    Calls Try.prog 40 #[cirV v, .int .i64 i] w (OwnPost 3 ys w) := by
  have CO := Lib.hid (fun X (hX : Below w.heap.size w X) => scOk_spec (y := scB xs) rfl X b e v hl (own_below h hX))
  obtain ⟨n, hn⟩ : ∃ n, n = xs.length := ⟨_, rfl⟩
  have HL := Lib.hid (show n ≤ 2000000 from by omega)
  have HN := Lib.hid hn
  have I2 := Lib.hid (fun X => inT_any i 0 (n : Int) X)
  have SA := Lib.hid (fun X (k : Nat) (hX : Below w.heap.size w X) => span_spec (i := (k : Int)) (k := i) rfl X b e v hl (own_below h hX))
  rw [← hn] at h
  obtain ⟨W0, hW0⟩ : ∃ W0, W0 = w.alloc (.cells #[v] 26) := ⟨_, rfl⟩
  have B0 : Hid (Below w.heap.size w W0) := Lib.hid (by rw [hW0]; exact below_alloc1 w _)
  by_cases hs : SpsIn xs i
  · obtain ⟨hs1, hs2⟩ := hs
    rw [show scB xs = true from decide_eq_true hs1] at CO
    rw [decide_eq_true (show 0 ≤ i ∧ i ≤ (n : Int) from by omega)] at I2
    obtain ⟨i0, hif, hz0, hz1, hz2⟩ := info_parts infoInt
    obtain ⟨d, rfl⟩ : ∃ d : Nat, i = (d : Int) := ⟨i.toNat, by omega⟩
    have hd : d ≤ n := by omega
    have HS := Lib.hid hs1
    have HY := Lib.hid (show ys = spsTo xs d n from by rw [hf, HN.out]; exact sps_yes HS.out (by rw [← HN.out]; exact hd))
    have hn12 : 1 ≤ n ∧ n ≤ 12 := by rw [hn]; exact hs1.1
    have HD := Lib.hid hd
    obtain ⟨q, c, rfl, hbox⟩ := scBox_new (by omega) h hW0
    have BX := Lib.hid hbox
    clear h hl hn hs1 hs2 hbox hf hd
    go_enter Try.func40, Try.ntmps40
    go_upto_region 1 with fail
    rw [← hW0]
    clear hW0
    obtain ⟨m, hm⟩ : ∃ m, m = w.heap.size := ⟨_, rfl⟩
    rw [← hm] at BX ⊢
    have HM := Lib.hid hm
    clear hm
    go_upto_region 2 with fail
    obtain ⟨W1, hW1⟩ : ∃ W1, W1 = W0.alloc (.cells #[] 3) := ⟨_, rfl⟩
    have O1 : Hid (W1.ownsRow W0.heap.size 3 1 (.slice (some ⟨W0.heap.size, 0, none⟩) 0 0) (spsTo xs d 0).length (intCs (spsTo xs d 0))) := Lib.hid (by rw [hW1]; exact own_zero_lit W0 _)
    have B1 : Hid (Below W0.heap.size W0 W1) := Lib.hid (by rw [hW1]; exact below_alloc1 W0 _)
    rw [← hW1]
    clear hW1
    obtain ⟨v0, hv0⟩ : ∃ v0, v0 = Value.slice (some ⟨W0.heap.size, 0, none⟩) 0 0 := ⟨_, rfl⟩
    rw [← hv0] at O1 ⊢
    clear hv0
    go_wp2_with fail
    go_loopw [5, 6] (fun v x wr => ∃ (t : Nat), t ≤ n ∧ x = .int .i64 (t : Int) ∧ Hid (wr.ownsRow W0.heap.size 3 1 v (spsTo xs d t).length (intCs (spsTo xs d t))) ∧ Hid (Below W0.heap.size W0 wr)) (fun _ x _ => 13 - (intOf x).toNat)
    case atStart => exact ⟨0, Nat.zero_le _, by go_num, O1, B1⟩
    case round =>
      clear O1 B1
      obtain ⟨t, ht, rfl, HO, HB⟩ := hrel
      obtain ⟨L, hL⟩ : ∃ L, L = spsTo xs d t := ⟨_, rfl⟩
      rw [← hL] at HO
      obtain ⟨l, hl⟩ : ∃ l, l = L.length := ⟨_, rfl⟩
      rw [← hl] at HO
      obtain ⟨pv, cv, rfl⟩ := own_slice HO.out
      have K1 := scBox_keep BX.out HB.out
      have c1 := scBox_cell K1
      by_cases hlt : t < n
      · have q3 : (t : Int) < n := by omega
        have CK := Lib.hid (CO.out wr (B0.out.trans (HB.out.mono B0.out.size)))
        have HLT := Lib.hid hlt
        have hl12 : l ≤ 12 := by rw [hl, hL]; have := sps_len xs d t; omega
        have HA : Hid (AscL L) := Lib.hid (by rw [hL]; exact sps_asc xs d t)
        have HLL := Lib.hid hL
        have HLN := Lib.hid hl
        clear K1 hL hl
        go_wp2_with fail
        refine CK.out.mono ?_
        rintro e1 w1 ⟨rfl, b1⟩
        have O2 := Lib.hid (own_below HO.out b1)
        have B2 := Lib.hid (HB.out.trans (b1.mono HB.out.size))
        have c2 := scBox_cell (scBox_keep BX.out B2.out)
        clear c1 b1 CK HO HB
        go_wp2_with fail
        refine (I2.out _).mono ?_
        rintro e2 w2 ⟨rfl, rfl⟩
        have SK := Lib.hid (SA.out w1 t (B0.out.trans (B2.out.mono B0.out.size)))
        obtain ⟨x, hx⟩ : ∃ x, x = spanF xs (t : Int) (d : Int) := ⟨_, rfl⟩
        rw [← hx] at SK
        have hx2 : x = spTo xs t d := by rw [hx]; exact span_yes HS.out (by rw [← HN.out]; exact hlt) (by rw [← HN.out]; exact HD.out)
        have hxb := sp_bd HS.out t d
        rw [← hx2] at hxb
        have hd12 : d ≤ 12 := by have := HD.out; omega
        have HX := Lib.hid hx2
        have HI := Lib.hid (show spsTo xs d (t + 1) = insU x L from by rw [HX.out, HLL.out]; rfl)
        obtain ⟨p, hp⟩ := pos_ex L x HA.out
        have HP := Lib.hid hp
        have hpl : p ≤ l := by rw [HLN.out]; exact hp.1
        clear hx hx2 hp
        go_wp2_with fail
        refine SK.out.mono ?_
        rintro e3 w3 ⟨rfl, b3⟩
        have O3 := Lib.hid (own_below O2.out b3)
        have B3 := Lib.hid (B2.out.trans (b3.mono B2.out.size))
        clear c2 b3 SK O2 B2
        go_wp2_with fail
        go_loopw [8, 9] (fun a z wr => ∃ j : Nat, j ≤ l ∧ a = .int .i64 ((max p j : Nat) : Int) ∧ z = .int .i64 ((j : Int) - 1) ∧ wr = w3) (fun _ z _ => (intOf z + 1).toNat)
        case atStart => exact ⟨l, Nat.le_refl _, by rw [Nat.max_eq_right hpl], by go_num, rfl⟩
        case round =>
          obtain ⟨j, hj, rfl, rfl, hwr⟩ := hrel
          have hwr2 := hwr.symm
          clear hwr
          subst hwr2
          by_cases hj0 : 0 < j
          · obtain ⟨u, rfl⟩ : ∃ u, j = u + 1 := ⟨j - 1, by omega⟩
            obtain ⟨g, cap, hpv, _, _⟩ := own_pos O3.out (by omega)
            simp only [Value.slice.injEq, true_and] at hpv
            obtain ⟨rfl, rfl⟩ := hpv
            obtain ⟨y, hy⟩ : ∃ y, y = L.getD u 0 := ⟨_, rfl⟩
            have q1 : w3.cell? ⟨g, u, none⟩ = some (.int .i64 y) := (own_icell O3.out u (by omega)).trans (by rw [hy])
            have HU := Lib.hid hy
            have z1 : ((u + 1 : Nat) : Int) - 1 = (u : Int) := by omega
            have q5 : ¬ (u : Int) < 0 := by omega
            have q6 : (u : Int) < l := by omega
            have HJ := Lib.hid hj
            rw [z1]
            clear hy z1
            by_cases hyx : x ≤ y
            · have hpu : p ≤ u := by
                refine Classical.byContradiction fun hn => ?_
                have := HP.out.2.1 u (by omega)
                rw [← HU.out] at this
                omega
              have e1 : max p (u + 1) = u + 1 := Nat.max_eq_right (by omega)
              have e2 : max p u = u := Nat.max_eq_right hpu
              have E2 := Lib.hid e2
              rw [e1]
              clear e1 e2
              go_wp2_with fail
              go_roundw
              case rel => exact ⟨u, by have := HJ.out; omega, by rw [E2.out], by go_num, by first | trivial | rfl⟩
              case measure => first | (simp [intOf]; done) | (simp [intOf]; omega)
            · have hpu : u + 1 ≤ p := by
                refine Classical.byContradiction fun hn => ?_
                have := HP.out.2.2 u (by omega) (by rw [← HLN.out]; omega)
                rw [← HU.out] at this
                omega
              have e1 : max p (u + 1) = p := Nat.max_eq_left hpu
              have e2 : max p u = p := Nat.max_eq_left (by omega)
              have E2 := Lib.hid e2
              rw [e1]
              clear e1 e2
              go_wp2_with fail
              go_roundw
              case rel => exact ⟨u, by have := HJ.out; omega, by rw [E2.out], by go_num, by first | trivial | rfl⟩
              case measure => first | (simp [intOf]; done) | (simp [intOf]; omega)
          · obtain rfl : j = 0 := by omega
            have q5 : ((0 : Nat) : Int) - 1 < 0 := by omega
            have e0 : max p 0 = p := Nat.max_eq_left (Nat.zero_le _)
            rw [e0]
            clear e0
            by_cases hhave : p < l ∧ L.getD p 0 = x
            · obtain ⟨hpl2, hyx⟩ := hhave
              have q6 : (p : Int) < l := by omega
              obtain ⟨g, cap, hpv, _, _⟩ := own_pos O3.out (by omega)
              simp only [Value.slice.injEq, true_and] at hpv
              obtain ⟨rfl, rfl⟩ := hpv
              have q1 : w3.cell? ⟨g, p, none⟩ = some (.int .i64 x) := (own_icell O3.out p hpl2).trans (by rw [hyx])
              have t1 : (x == x) = true := by simp
              have HI2 := Lib.hid (show insU x L = L from insU_have HP.out (by rw [← HLN.out]; exact hpl2) hyx)
              have O4 : Hid (w3.ownsRow W0.heap.size 3 1 (.slice (some ⟨g, 0, none⟩) l cv) (spsTo xs d (t + 1)).length (intCs (spsTo xs d (t + 1)))) := Lib.hid (by rw [HI.out, HI2.out, ← HLN.out]; exact O3.out)
              clear hyx
              go_wp2_with fail
              go_roundw
              case rel => exact ⟨t + 1, HLT.out, by go_num, O4, B3⟩
              case measure => first | (simp [intOf]; done) | (simp [intOf]; omega)
            · have HG := Lib.hid (show insU x L = gapL L p x from insU_gap HP.out (by rw [← HLN.out]; exact hhave))
              have hne : ¬ p < l ∨ (p < l ∧ ¬ L.getD p 0 = x) := by
                by_cases h1 : p < l
                · exact .inr ⟨h1, fun h2 => hhave ⟨h1, h2⟩⟩
                · exact .inl h1
              have HNE := Lib.hid hne
              clear hhave hne
              go_upto_region 12 with fail
              go_cut [61] (fun s wx => s = .bool false ∧ wx = w3)
              case first =>
                rcases HNE.out with h1 | ⟨h1, h2⟩
                · have q6 : ¬ (p : Int) < l := by omega
                  go_wp2_with fail
                  go_meet
                  exact ⟨rfl, rfl⟩
                · have q6 : (p : Int) < l := by omega
                  obtain ⟨g, cap, hpv, _, _⟩ := own_pos O3.out (by omega)
                  simp only [Value.slice.injEq, true_and] at hpv
                  obtain ⟨rfl, rfl⟩ := hpv
                  obtain ⟨y, hy⟩ : ∃ y, y = L.getD p 0 := ⟨_, rfl⟩
                  have q1 : w3.cell? ⟨g, p, none⟩ = some (.int .i64 y) := (own_icell O3.out p h1).trans (by rw [hy])
                  have t1 : (y == x) = false := by simp; rw [hy]; exact h2
                  clear hy
                  go_wp2_with fail
                  go_meet
                  exact ⟨rfl, rfl⟩
              case rest =>
                obtain ⟨rfl, rfl⟩ := hcut
                clear HNE
                go_wp2_with (at_builtin; refine wpList_append_lies _ rfl (.tmp 62) (.tmp 63) 24 rfl W0.heap.size 3 i0 (.int .i64 0) 1 8 Try.underlying24 hif hz0 hz1 hz2 rfl (by decide) _ l _ rfl (O3.out.alloc _) ⟨_, 0, none⟩ 1 1 _ rfl rfl (World.news_of_block (heap_alloc_new _ _)) (by simp [Value.oneCell']) (by decide) (by unfold maxLen; omega) (by omega) (by have := B3.out.size; simp; omega) _ rfl ?_; intro g1 cap1 w5 hown' hgrow hat hgt)
                have R5 := Lib.hid ((B3.out.alloc B3.out.size _).grown hgrow (Nat.le_trans B3.out.size (by simp)) (fun j hj => (O3.out.lt j hj).1))
                have O5 := Lib.hid (gap_app HLN.out hown')
                clear hown' hgrow hat hgt O3 B3
                go_wp2_with fail
                go_loopw [10] (fun z wr => ∃ (j : Nat) (y : Int), p ≤ j ∧ j ≤ l ∧ z = .int .i64 (j : Int) ∧ Hid (wr.ownsRow W0.heap.size 3 1 (.slice (some ⟨g1, 0, none⟩) (l + 1) cap1) (l + 1) (intCs (gapL L j y))) ∧ Hid (Below W0.heap.size W0 wr)) (fun z _ => (intOf z).toNat)
                case atStart => exact ⟨l, 0, hpl, Nat.le_refl _, by go_num, O5, R5⟩
                case round =>
                  clear O5 R5
                  obtain ⟨j, y, hpj, hjl, rfl, O6, B6⟩ := hrel
                  have hg1 := (O6.out.lt g1 rfl).1
                  by_cases hj : p < j
                  · obtain ⟨u, rfl⟩ : ∃ u, j = u + 1 := ⟨j - 1, by omega⟩
                    have q5 : (p : Int) < ((u + 1 : Nat) : Int) := by omega
                    obtain ⟨z, hz⟩ : ∃ z, z = L.getD u 0 := ⟨_, rfl⟩
                    have q1 : wr.cell? ⟨g1, u, none⟩ = some (.int .i64 z) := (own_icell O6.out u (by omega)).trans (by rw [gap_get (by rw [← HLN.out]; omega), hz])
                    have q2 := own_icell O6.out (u + 1) (by omega)
                    have qf := O6.out.frozenAt (u + 1)
                    have O7 := Lib.hid (row_set21 (i := u + 1) (y := z) O6.out)
                    rw [gap_set (show u + 1 ≤ L.length from by rw [← HLN.out]; omega), hz, gap_prev (show u < L.length from by rw [← HLN.out]; omega), ← hz] at O7
                    have B7 := Lib.hid (B6.out.setCell (p := ⟨g1, u + 1, none⟩) hg1 (.int .i64 z))
                    generalize (gapL L (u + 1) y).getD (u + 1) 0 = z' at q2
                    have HJ := Lib.hid (show p ≤ u ∧ u ≤ l from by omega)
                    have q7 : (u : Int) < l + 1 := by omega
                    have q8 : ((u + 1 : Nat) : Int) < l + 1 := by omega
                    clear hz O6 B6
                    go_wp2_with fail
                    go_roundw
                    case rel => exact ⟨u, z, HJ.out.1, HJ.out.2, by go_num, O7, B7⟩
                    case measure => first | (simp [intOf]; done) | (simp [intOf]; omega)
                  · obtain rfl : j = p := by omega
                    have q5 : ¬ (j : Int) < (j : Int) := by omega
                    have q2 := own_icell O6.out j (by omega)
                    have qf := O6.out.frozenAt j
                    have O7 := Lib.hid (row_set21 (i := j) (y := x) O6.out)
                    rw [gap_set (show j ≤ L.length from by rw [← HLN.out]; omega)] at O7
                    have B7 := Lib.hid (B6.out.setCell (p := ⟨g1, j, none⟩) hg1 (.int .i64 x))
                    generalize (gapL L j y).getD j 0 = z' at q2
                    have q8 : (j : Int) < l + 1 := by omega
                    have O8 : Hid ((wr.setCell ⟨g1, j, none⟩ (.int .i64 x)).ownsRow W0.heap.size 3 1 (.slice (some ⟨g1, 0, none⟩) (l + 1) cap1) (spsTo xs d (t + 1)).length (intCs (spsTo xs d (t + 1)))) := Lib.hid (by
                      rw [HI.out, HG.out, gap_len (show j ≤ L.length from by rw [← HLN.out]; omega), ← HLN.out]
                      exact O7.out)
                    clear O6 B6 O7
                    go_wp2_with fail
                    go_roundw
                    case rel => exact ⟨t + 1, HLT.out, by go_num, O8, B7⟩
                    case measure => first | (simp [intOf]; done) | (simp [intOf]; omega)
      · have q3 : ¬ (t : Int) < n := by omega
        obtain rfl : t = n := by omega
        have B3 := Lib.hid (B0.out.trans (HB.out.mono B0.out.size))
        have HLL := Lib.hid hL
        have HLN := Lib.hid hl
        clear hL hl K1
        go_wp2_with fail
        go_ret
        refine ⟨_, rfl, ?_, B3.out⟩
        rw [HY.out, ← HLL.out, ← HLN.out]
        exact own_base HO.out B0.out.size
  · have HY := Lib.hid (show ys = [] from by rw [hf]; exact sps_no hs)
    obtain ⟨p, c, rfl⟩ := own_slice h
    obtain ⟨_, c0, _⟩ := one_alloc (w := w) (v := .slice p n c) (t := 26)
    obtain ⟨W1, hW1⟩ : ∃ W1, W1 = W0.alloc (.cells #[] 3) := ⟨_, rfl⟩
    have O1 : Hid (W1.ownsRow W0.heap.size 3 1 (.slice (some ⟨W0.heap.size, 0, none⟩) 0 0) 0 (intCs [])) := Lib.hid (by rw [hW1]; exact own_zero_lit W0 _)
    have B1 : Hid (Below w.heap.size w W1) := Lib.hid (by rw [hW1]; exact B0.out.alloc B0.out.size _)
    have X0 : One w.heap.size (.slice p n c) W0 := by rw [hW0]; exact one_alloc
    have X1 : Hid (One w.heap.size (.slice p n c) W1) := Lib.hid (by rw [hW1]; exact one_al X0)
    have CK := Lib.hid (CO.out W1 B1.out)
    have N0 : w.heap.size ≤ W0.heap.size := B0.out.size
    have HC : (n = 0 ∨ ¬ ScOk xs) ∨ (0 < n ∧ ScOk xs ∧ ¬ (0 ≤ i ∧ i ≤ (n : Int))) := by
      by_cases h0 : n = 0
      · exact .inl (.inl h0)
      · by_cases h1 : ScOk xs
        · exact .inr ⟨by omega, h1, fun h2 => hs ⟨h1, by omega⟩⟩
        · exact .inl (.inr h1)
    clear h hl hn hs CO hf c0 X0 SA
    go_enter Try.func40, Try.ntmps40
    go_upto_region 1 with fail
    rw [← hW0]
    obtain ⟨m, hm⟩ : ∃ m, m = w.heap.size := ⟨_, rfl⟩
    rw [← hm] at X1 ⊢
    have HM := Lib.hid hm
    clear hW0 hm
    go_upto_region 2 with fail
    rw [← hW1]
    clear hW1
    obtain ⟨_, c1, _⟩ := X1.out
    obtain ⟨g0, hg0⟩ : ∃ g0, g0 = W0.heap.size := ⟨_, rfl⟩
    rw [← hg0] at O1 N0 ⊢
    clear hg0
    go_wp2_with fail
    go_loopw [5, 6] (fun v k wr => v = .slice (some ⟨g0, 0, none⟩) 0 0 ∧ k = .int .i64 0 ∧ wr = W1) (fun _ _ _ => 0)
    case atStart => exact ⟨rfl, rfl, rfl⟩
    case round =>
      obtain ⟨rfl, rfl, hwr⟩ := hrel
      subst hwr
      by_cases h0 : n = 0
      · have q3 : ¬ (0 : Int) < n := by omega
        clear h0 HC
        go_wp2_with fail
        go_ret
        exact ⟨_, rfl, by rw [HY.out]; exact own_base O1.out N0, B1.out⟩
      · have q3 : (0 : Int) < n := by omega
        obtain ⟨z, hz⟩ : ∃ z, z = scB xs := ⟨_, rfl⟩
        rw [← hz] at CK
        cases z
        · clear h0 HC hz
          go_wp2_with fail
          refine CK.out.mono ?_
          rintro e1 w1 ⟨rfl, b1⟩
          have O2 := Lib.hid (own_base (own_below O1.out b1) N0)
          have B2 := Lib.hid (B1.out.trans (b1.mono B1.out.size))
          clear b1
          go_wp2_with fail
          go_ret
          exact ⟨_, rfl, by rw [HY.out]; exact O2.out, B2.out⟩
        · have hk : ¬ (0 ≤ i ∧ i ≤ (n : Int)) := HC.elim (fun u => absurd (of_decide_eq_true hz.symm) (u.resolve_left h0)) (fun u => u.2.2)
          rw [decide_eq_false hk] at I2
          clear h0 HC hz hk
          go_wp2_with fail
          refine CK.out.mono ?_
          rintro e1 w1 ⟨rfl, b1⟩
          have O2 := Lib.hid (own_base (own_below O1.out b1) N0)
          have B2 := Lib.hid (B1.out.trans (b1.mono B1.out.size))
          obtain ⟨_, c2, _⟩ := one_keep b1 X1.out
          clear b1
          go_wp2_with fail
          refine (I2.out _).mono ?_
          rintro e2 w2 ⟨rfl, rfl⟩
          go_wp2_with fail
          go_ret
          exact ⟨_, rfl, by rw [HY.out]; exact O2.out, B2.out⟩
end Go.Proofs.Ytppbcjpabmllnaa
