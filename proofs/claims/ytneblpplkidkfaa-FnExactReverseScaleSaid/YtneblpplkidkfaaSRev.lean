/- Contract of spec.ReverseScale. -/
import Derived.Test.YtneblpplkidkfaaSMode
namespace Go.Proofs.Ytneblpplkidkfaa
open Go.RowKit Go.Joins
set_option linter.unusedVariables false
set_option maxRecDepth 100000 in
set_option maxHeartbeats 8000000 in
theorem rev_spec {xs ys : List Int} (hf : RevAt xs ys) (w : World) (b : Nat) (e : TypeId) (v : Value) (hl : xs.length ≤ 2000000) (h : w.ownsRow b e 1 v xs.length (intCs xs)) :
    Calls Try.prog 28 #[cirV v] w (CirPost ys w) := by
  have CO := Lib.hid (fun X (hX : Below w.heap.size w X) => scOk_spec (y := scB xs) rfl X b e v hl (own_below h hX))
  obtain ⟨i0, hif, hz0, hz1, hz2⟩ := info_parts infoInt
  obtain ⟨n, hn⟩ : ∃ n, n = xs.length := ⟨_, rfl⟩
  have HN := Lib.hid hn
  rw [← hn] at h hl
  obtain ⟨W0, hW⟩ : ∃ W, W = ((w.alloc (.cells #[v] 26)).alloc (.cells #[.slice none 0 0] 26)).alloc (.cells #[.slice none 0 0] 26) := ⟨_, rfl⟩
  obtain ⟨q, hq⟩ : ∃ q, q = w.heap.size := ⟨_, rfl⟩
  have B0 : Hid (Below w.heap.size w W0) := Lib.hid (by rw [hW]; exact below_alloc3 w _ _ _)
  have C0 : Hid (One q v W0) := Lib.hid (by rw [hW, hq]; exact one_al (one_al one_alloc))
  have Z0 : Hid (One (q + 1) (.slice none 0 0) W0) := Lib.hid (by rw [hW, hq]; simpa using one_al (o := .cells #[.slice none 0 0] 26) (one_alloc (w := w.alloc (.cells #[v] 26)) (v := .slice none 0 0) (t := 26)))
  have X0 : Hid (One (q + 1 + 1) (.slice none 0 0) W0) := Lib.hid (by rw [hW, hq]; simpa using one_alloc (w := (w.alloc (.cells #[v] 26)).alloc (.cells #[.slice none 0 0] 26)) (v := .slice none 0 0) (t := 26))
  have HQ := Lib.hid hq
  by_cases hs1 : ScOk xs
  · rw [show scB xs = true from decide_eq_true hs1] at CO
    have hn12 : 1 ≤ n ∧ n ≤ 12 := by rw [hn]; exact hs1.1
    have HY := Lib.hid (show ys = rvTo xs n from by rw [hf]; unfold revF; rw [if_pos hs1, HN.out])
    obtain ⟨g, cap, rfl, _, hg⟩ := own_pos h (by omega)
    have HC := Lib.hid (fun t (ht : t < n) => own_icell h t ht)
    have HG := Lib.hid (show g < q from by rw [hq]; exact hg)
    have t1 : IntKind.i64.wrap ((n : Int) - 1) = (n : Int) - 1 := IntWalk.i64_in _ (by omega)
    clear h hl hn hs1 hf hg
    go_enter Try.func28, Try.ntmps28
    go_upto_region 2 with fail
    rw [← hW, ← hq]
    clear hW hq
    obtain ⟨_, c00, _⟩ := C0.out
    go_wp2_with fail
    clear c00
    go_loopw [4] (fun x wr => ∃ (k : Nat) (p : Option Addr) (c : Nat), k ≤ n ∧ x = .int .i64 ((n : Int) - 1 - k) ∧ Hid (wr.ownsRow (q + 1 + 1 + 1) 3 1 (.slice p k c) k (intCs (rvTo xs k))) ∧ Hid (One (q + 1 + 1) (.slice p k c) wr) ∧ Hid (One q (.slice (some ⟨g, 0, none⟩) n cap) wr) ∧ Hid (One (q + 1) (.slice none 0 0) wr) ∧ Hid (Below w.heap.size w wr)) (fun x _ => (intOf x + 1).toNat)
    case atStart => exact ⟨0, none, 0, Nat.zero_le _, by go_num, Lib.hid (World.ownsRow_nil _ _ _ _), X0, C0, Z0, B0⟩
    case round =>
      clear X0 C0 Z0 B0
      obtain ⟨k, p, c, hk, rfl, O1, X1, C1, Z1, B1⟩ := hrel
      by_cases hlt : k < n
      · have q3 : ¬ (n : Int) - 1 - k < 0 := by omega
        obtain ⟨l, hl⟩ : ∃ l : Nat, (n : Int) - 1 - k = (l : Int) := ⟨n - 1 - k, by omega⟩
        have hln : l < n := by omega
        have q3' : ¬ (l : Int) < 0 := by omega
        rw [hl]
        obtain ⟨_, c0, _⟩ := C1.out
        have CK := Lib.hid (CO.out _ B1.out)
        go_wp2_with fail
        refine CK.out.mono ?_
        rintro e1 w2 ⟨rfl, b2⟩
        have O2 := Lib.hid (own_below O1.out b2)
        have X2 := Lib.hid (one_keep b2 X1.out)
        have C2 := Lib.hid (one_keep b2 C1.out)
        have Z2 := Lib.hid (one_keep b2 Z1.out)
        have B2 := Lib.hid (B1.out.trans (b2.mono B1.out.size))
        clear c0 O1 X1 C1 Z1 B1 b2 CK
        obtain ⟨x2l, x2, x2f⟩ := X2.out
        obtain ⟨_, c2, _⟩ := C2.out
        obtain ⟨x, hx⟩ : ∃ x, x = xs.getD l 0 := ⟨_, rfl⟩
        have q1 : w2.cell? ⟨g, l, none⟩ = some (.int .i64 x) := (B2.out.cell (p := ⟨g, l, none⟩) (by have := HQ.out; have := HG.out; simp only; omega)).trans ((HC.out _ hln).trans (by rw [hx]))
        have HX := Lib.hid (show x = xs.getD (xs.length - 1 - k) 0 from by rw [hx, ← HN.out, show n - 1 - k = l from by omega])
        have hl12 : (l : Int) < n := by omega
        have hl0 : (0 : Int) ≤ l := by omega
        have HLL := Lib.hid (show (l : Int) - 1 = (n : Int) - 1 - ((k + 1 : Nat) : Int) from by omega)
        have hbase : q + 1 + 1 + 1 ≤ w2.heap.size := x2l
        have X3 : Hid (One (q + 1 + 1) (.slice p k c) (w2.alloc (.cells #[.int .i64 x] 3)).drew) := Lib.hid (one_al X2.out)
        have C3 : Hid (One q (.slice (some ⟨g, 0, none⟩) n cap) (w2.alloc (.cells #[.int .i64 x] 3)).drew) := Lib.hid (one_al C2.out)
        have Z3 : Hid (One (q + 1) (.slice none 0 0) (w2.alloc (.cells #[.int .i64 x] 3)).drew) := Lib.hid (one_al Z2.out)
        have B3 : Hid (Below w.heap.size w (w2.alloc (.cells #[.int .i64 x] 3)).drew) := Lib.hid (B2.out.alloc B2.out.size (.cells #[.int .i64 x] 3)).drew
        have HK := Lib.hid hk
        have HLT := Lib.hid hlt
        clear hx hl hln
        go_upto_region 5 with fail
        go_region_law ((refine step_append_lies _ rfl (.tmp 19) (.tmp 25) 24 rfl (q + 1 + 1 + 1) 3 i0 (.int .i64 0) 1 8 Try.underlying24 hif hz0 hz1 hz2 rfl (by decide) (.slice p k c) k _ rfl (O2.out.alloc _) ⟨w2.heap.size, 0, none⟩ 1 1 _ rfl rfl (World.news_of_block (heap_alloc_new w2 _)) (by simp [Value.oneCell']) (by decide) (by unfold maxLen; omega) (by omega) (by simp; omega) _ rfl ?_); intro g1 cap1 w5 hown' hgrow hat hgt; obtain ⟨y5l, y5, y5f⟩ := one_grown X3.out (w' := w5) hgrow (fun e => by have := (O2.out.lt _ e).1; omega))
        all_goals
          have X5 := Lib.hid (one_set (u := .slice (some ⟨g1, 0, none⟩) (k + 1) cap1) (⟨y5l, y5, y5f⟩ : One (q + 1 + 1) (.slice p k c) w5))
          have C5 := Lib.hid (one_oth (j := 0) (u := .slice (some ⟨g1, 0, none⟩) (k + 1) cap1) (show q + 1 + 1 ≠ q from by omega) (one_grown C3.out hgrow (fun e => by have := (O2.out.lt _ e).1; omega)))
          have Z5 := Lib.hid (one_oth (j := 0) (u := .slice (some ⟨g1, 0, none⟩) (k + 1) cap1) (show q + 1 + 1 ≠ q + 1 from by omega) (one_grown Z3.out hgrow (fun e => by have := (O2.out.lt _ e).1; omega)))
          have B5 := Lib.hid ((B3.out.grown hgrow B3.out.size (fun j hj => by have := (O2.out.lt j hj).1; have := HQ.out; omega)).setCell (p := ⟨q + 1 + 1, 0, none⟩) (by have := HQ.out; simp only; omega) (.slice (some ⟨g1, 0, none⟩) (k + 1) cap1))
          have O5 := Lib.hid (ownsRow_setCell_below (rv_snoc HX.out hown') (a := ⟨q + 1 + 1, 0, none⟩) (by simp only; omega) (.slice (some ⟨g1, 0, none⟩) (k + 1) cap1))
          clear hown' hgrow hat hgt X3 C3 Z3 B3 O2 X2 C2 Z2 B2 q1
          go_wp2_with fail
          go_roundw
          case rel => exact ⟨k + 1, some ⟨g1, 0, none⟩, cap1, HLT.out, by rw [← HLL.out], O5, X5, C5, Z5, B5⟩
          case measure => first | (simp [intOf]; done) | (simp [intOf]; omega)
      · obtain rfl : k = n := by omega
        have e0 : (k : Int) - 1 - k = -1 := by omega
        rw [e0]
        obtain ⟨_, x1, _⟩ := X1.out
        obtain ⟨_, z1, zf⟩ := Z1.out
        obtain ⟨_, c1, _⟩ := C1.out
        have O6 := Lib.hid (ownsRow_setCell_below O1.out (a := ⟨q + 1, 0, none⟩) (by simp only; omega) (.slice p k c))
        have B6 := Lib.hid (B1.out.setCell (p := ⟨q + 1, 0, none⟩) (by have := HQ.out; simp only; omega) (.slice p k c))
        obtain ⟨_, x6, _⟩ := one_set (u := .slice p k c) Z1.out
        clear O1 X1 C1 Z1 B1
        go_wp2_with fail
        refine bodyPost_ret (v := cirV (.slice p k c)) (by simp [results, Try.results28, go_sem, x6]) rfl ⟨_, rfl, ?_, B6.out⟩
        rw [HY.out, rvTo_len]
        exact own_base O6.out (by have := HQ.out; omega)
  · have HY := Lib.hid (show ys = [] from by rw [hf]; exact if_neg hs1)
    rw [show scB xs = false from decide_eq_false hs1] at CO
    obtain ⟨p, c, rfl⟩ := own_slice h
    have CK := Lib.hid (CO.out W0 B0.out)
    have t1 : IntKind.i64.wrap ((n : Int) - 1) = (n : Int) - 1 := IntWalk.i64_in _ (by omega)
    obtain ⟨_, c0, _⟩ := C0.out
    clear h hl hn hs1 CO hf
    go_enter Try.func28, Try.ntmps28
    go_upto_region 2 with fail
    rw [← hW, ← hq]
    clear hW hq
    go_wp2_with fail
    go_loopw [4] (fun k wr => k = .int .i64 ((n : Int) - 1) ∧ wr = W0) (fun _ _ => 0)
    case atStart => exact ⟨by go_num, rfl⟩
    case round =>
      obtain ⟨rfl, hwr⟩ := hrel
      subst hwr
      have FIN : ∀ X, Below wr.heap.size wr X → Hid (One (q + 1) (.slice none 0 0) X) ∧ Hid (One (q + 1 + 1) (.slice none 0 0) X) ∧ Hid (Below w.heap.size w (X.setCell ⟨q + 1, 0, none⟩ (.slice none 0 0))) := fun X hX =>
        ⟨Lib.hid (one_keep hX Z0.out), Lib.hid (one_keep hX X0.out), Lib.hid ((B0.out.trans (hX.mono B0.out.size)).setCell (p := ⟨q + 1, 0, none⟩) (by have := HQ.out; simp only; omega) _)⟩
      by_cases h0 : n = 0
      · subst h0
        obtain ⟨z, x, B9⟩ := FIN wr (Below.refl _ _)
        obtain ⟨_, z1, zf⟩ := z.out
        obtain ⟨_, x1, _⟩ := x.out
        have e0 : ((0 : Nat) : Int) - 1 = -1 := by omega
        rw [e0]
        clear FIN
        go_wp2_with fail
        refine bodyPost_ret (v := cirV (.slice none 0 0)) (by simp [results, Try.results28, go_sem, z1]) rfl ⟨_, rfl, by rw [HY.out]; exact World.ownsRow_nil _ _ _ _, ?_⟩
        first | exact B9.out | exact B0.out
      · have q3 : ¬ (n : Int) - 1 < 0 := by omega
        clear h0
        go_wp2_with fail
        refine CK.out.mono ?_
        rintro e1 w1 ⟨rfl, b1⟩
        obtain ⟨z, x, B9⟩ := FIN w1 b1
        have B8 := Lib.hid (B0.out.trans (b1.mono B0.out.size))
        obtain ⟨_, z1, zf⟩ := z.out
        obtain ⟨_, x1, _⟩ := x.out
        clear b1 FIN
        go_wp2_with fail
        refine bodyPost_ret (v := cirV (.slice none 0 0)) (by simp [results, Try.results28, go_sem, z1]) rfl ⟨_, rfl, by rw [HY.out]; exact World.ownsRow_nil _ _ _ _, ?_⟩
        first | exact B9.out | exact B8.out
end Go.Proofs.Ytneblpplkidkfaa
