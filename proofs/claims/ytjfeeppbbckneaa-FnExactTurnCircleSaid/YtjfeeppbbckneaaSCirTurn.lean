/- Contract of spec.TurnCircle. -/
import Derived.Test.YtjfeeppbbckneaaCirTurn
import Derived.Test.YtjfeeppbbckneaaEqCirLaw
import Derived.Deep.AppendLies
namespace Go.Proofs.Ytjfeeppbbckneaa
open Go.RowKit Go.Joins
set_option linter.unusedVariables false
theorem turn_snoc {w : World} {B : Nat} {e : TypeId} {v : Value} {k : Nat} {x : Int} {xs : List Int} {n : Nat} (hx : x = xs.getD ((k + n) % 12) 0) (h : w.ownsRow B e 1 v (k + 1) (intCs (turnTo xs n k) ++ [.int .i64 x])) : w.ownsRow B e 1 v (k + 1) (intCs (turnTo xs n (k + 1))) := by
  rw [turnTo, intCs_app, ← hx]
  exact h
set_option maxRecDepth 100000 in
set_option maxHeartbeats 4000000 in
theorem turn_spec {xs ys : List Int} {i : Int} (hf : TuAt xs i ys) (w : World) (b : Nat) (e : TypeId) (v : Value) (hl : xs.length ≤ 2000000) (h : w.ownsRow b e 1 v xs.length (intCs xs)) :
    Calls Try.prog 29 #[cirV v, .int .i64 i] w (CirPost ys w) := by
  have CO := Lib.hid (fun w (h : w.ownsRow b e 1 v xs.length (intCs xs)) => l12Has_any w b e v xs i hl h)
  obtain ⟨i0, hif, hz0, hz1, hz2⟩ := info_parts infoInt
  have HH := Lib.hid h
  rcases hf with ⟨⟨hc, hi⟩, hy⟩ | ⟨hb, hy⟩
  · rw [show cirB xs = true from decide_eq_true hc, decide_eq_true hi, Bool.true_and] at CO
    obtain ⟨j, hj⟩ : ∃ j, j = i.toNat := ⟨_, rfl⟩
    rw [← hj] at hy
    have hi' : i = (j : Int) := by omega
    have hj12 : j < 12 := by omega
    subst hi'
    clear hj hi hl
    obtain ⟨g, cap, rfl, hg, hcap, hcm, hcl⟩ := cir_row h hc
    have HC := Lib.hid hcl
    have HY := Lib.hid hy
    clear hy hcl h hc hcap hcm
    go_enter Try.func29, Try.ntmps29
    go_upto_region 2 with fail
    obtain ⟨W0, hW⟩ : ∃ W, W = ((w.alloc (.cells #[.slice (some ⟨g, 0, none⟩) 12 cap] 26)).alloc (.cells #[.slice none 0 0] 26)).alloc (.cells #[.slice none 0 0] 26) := ⟨_, rfl⟩
    obtain ⟨n, hn⟩ : ∃ n, n = w.heap.size := ⟨_, rfl⟩
    have B0 : Hid (Below w.heap.size w W0) := Lib.hid (by rw [hW]; exact below_alloc3 w _ _ _)
    have C0 : Hid (One n (.slice (some ⟨g, 0, none⟩) 12 cap) W0) := Lib.hid (by rw [hW, hn]; exact one_al (one_al one_alloc))
    have Z0 : Hid (One (n + 1) (.slice none 0 0) W0) := Lib.hid (by rw [hW, hn]; simpa using one_al (o := .cells #[.slice none 0 0] 26) (one_alloc (w := w.alloc (.cells #[.slice (some ⟨g, 0, none⟩) 12 cap] 26)) (v := .slice none 0 0) (t := 26)))
    have X0 : Hid (One (n + 1 + 1) (.slice none 0 0) W0) := Lib.hid (by rw [hW, hn]; simpa using one_alloc (w := (w.alloc (.cells #[.slice (some ⟨g, 0, none⟩) 12 cap] 26)).alloc (.cells #[.slice none 0 0] 26)) (v := .slice none 0 0) (t := 26))
    rw [← hW, ← hn]
    have hgn : g < n := by rw [hn]; exact hg
    have HN := Lib.hid hn
    clear hW hn hg
    go_wp2_with fail
    go_loopw [6] (fun x wr => ∃ (k : Nat) (p : Option Addr) (c : Nat), k ≤ 12 ∧ x = .int .i64 k ∧ Hid (wr.ownsRow (n + 1 + 1 + 1) 3 1 (.slice p k c) k (intCs (turnTo xs j k))) ∧ Hid (One (n + 1 + 1) (.slice p k c) wr) ∧ Hid (One n (.slice (some ⟨g, 0, none⟩) 12 cap) wr) ∧ Hid (One (n + 1) (.slice none 0 0) wr) ∧ Hid (Below w.heap.size w wr)) (fun x _ => 12 - (intOf x).toNat)
    case atStart => exact ⟨0, none, 0, Nat.zero_le _, rfl, Lib.hid (World.ownsRow_nil _ _ _ _), X0, C0, Z0, B0⟩
    case round =>
      clear X0 C0 Z0 B0
      obtain ⟨k, p, c, hk, rfl, O1, X1, C1, Z1, B1⟩ := hrel
      by_cases hlt : k < 12
      · have q3 : (k : Int) < 12 := by omega
        obtain ⟨_, c0, _⟩ := C1.out
        go_wp2_with fail
        refine (CO.out _ (own_below HH.out B1.out)).mono ?_
        rintro e1 w2 ⟨rfl, b2⟩
        have O2 := Lib.hid (own_below O1.out b2)
        have X2 := Lib.hid (one_keep b2 X1.out)
        have C2 := Lib.hid (one_keep b2 C1.out)
        have Z2 := Lib.hid (one_keep b2 Z1.out)
        have B2 := Lib.hid (B1.out.trans (b2.mono B1.out.size))
        clear c0 O1 X1 C1 Z1 B1 b2
        obtain ⟨x2l, x2, x2f⟩ := X2.out
        obtain ⟨_, c2, _⟩ := C2.out
        obtain ⟨x, hx⟩ : ∃ x, x = xs.getD ((k + j) % 12) 0 := ⟨_, rfl⟩
        have q1 : w2.cell? ⟨g, (k + j) % 12, none⟩ = some (.int .i64 x) := (B2.out.cell (p := ⟨g, (k + j) % 12, none⟩) (by have := HN.out; simp only; omega)).trans ((HC.out _ (by omega)).trans (by rw [hx]))
        have HX := Lib.hid hx
        obtain ⟨l, hl⟩ : ∃ l, l = (k + j) % 12 := ⟨_, rfl⟩
        rw [← hl] at q1
        have hl12 : (l : Int) < 12 := by omega
        have hl0 : (0 : Int) ≤ l := by omega
        have vt : (IntKind.i64.wrap ((k : Int) + j)).tmod 12 = (l : Int) := by rw [IntWalk.i64_in _ (by omega), Int.tmod_eq_emod_of_nonneg (by omega)]; omega
        have hbase : n + 1 + 1 + 1 ≤ w2.heap.size := x2l
        have X3 : Hid (One (n + 1 + 1) (.slice p k c) (w2.alloc (.cells #[.int .i64 x] 3)).drew) := Lib.hid (one_al X2.out)
        have C3 : Hid (One (n) (.slice (some ⟨g, 0, none⟩) 12 cap) (w2.alloc (.cells #[.int .i64 x] 3)).drew) := Lib.hid (one_al C2.out)
        have Z3 : Hid (One (n + 1) (.slice none 0 0) (w2.alloc (.cells #[.int .i64 x] 3)).drew) := Lib.hid (one_al Z2.out)
        have B3 : Hid (Below w.heap.size w (w2.alloc (.cells #[.int .i64 x] 3)).drew) := Lib.hid (B2.out.alloc B2.out.size (.cells #[.int .i64 x] 3)).drew
        have HK := Lib.hid hk
        have HLT := Lib.hid hlt
        clear hx hl
        go_upto_region 5 with fail
        go_region_law ((refine step_append_lies _ rfl (.tmp 18) (.tmp 27) 24 rfl (n + 1 + 1 + 1) 3 i0 (.int .i64 0) 1 8 Try.underlying24 hif hz0 hz1 hz2 rfl (by decide) (.slice p k c) k _ rfl (O2.out.alloc _) ⟨w2.heap.size, 0, none⟩ 1 1 _ rfl rfl (World.news_of_block (heap_alloc_new w2 _)) (by simp [Value.oneCell']) (by decide) (by unfold maxLen; omega) (by omega) (by simp; omega) _ rfl ?_); intro g1 cap1 w5 hown' hgrow hat hgt; obtain ⟨y5l, y5, y5f⟩ := one_grown X3.out (w' := w5) hgrow (fun e => by have := (O2.out.lt _ e).1; omega))
        all_goals
          have X5 := Lib.hid (one_set (u := .slice (some ⟨g1, 0, none⟩) (k + 1) cap1) (⟨y5l, y5, y5f⟩ : One (n + 1 + 1) (.slice p k c) w5))
          have C5 := Lib.hid (one_oth (j := 0) (u := .slice (some ⟨g1, 0, none⟩) (k + 1) cap1) (show n + 1 + 1 ≠ n from by omega) (one_grown C3.out hgrow (fun e => by have := (O2.out.lt _ e).1; omega)))
          have Z5 := Lib.hid (one_oth (j := 0) (u := .slice (some ⟨g1, 0, none⟩) (k + 1) cap1) (show n + 1 + 1 ≠ n + 1 from by omega) (one_grown Z3.out hgrow (fun e => by have := (O2.out.lt _ e).1; omega)))
          have B5 := Lib.hid ((B3.out.grown hgrow B3.out.size (fun j hj => by have := (O2.out.lt j hj).1; have := HN.out; omega)).setCell (p := ⟨n + 1 + 1, 0, none⟩) (by have := HN.out; simp only; omega) (.slice (some ⟨g1, 0, none⟩) (k + 1) cap1))
          have O5 := Lib.hid (ownsRow_setCell_below (turn_snoc HX.out hown') (a := ⟨n + 1 + 1, 0, none⟩) (by simp only; omega) (.slice (some ⟨g1, 0, none⟩) (k + 1) cap1))
          clear hown' hgrow hat hgt X3 C3 Z3 B3 O2 X2 C2 Z2 B2 q1 vt
          go_wp2_with fail
          go_roundw
          case rel => exact ⟨k + 1, some ⟨g1, 0, none⟩, cap1, HLT.out, by go_num, O5, X5, C5, Z5, B5⟩
          case measure => simp [intOf]; omega
      · have q3 : ¬ (k : Int) < 12 := by omega
        obtain rfl : k = 12 := by omega
        obtain ⟨_, x1, _⟩ := X1.out
        obtain ⟨_, z1, zf⟩ := Z1.out
        have O6 := Lib.hid (ownsRow_setCell_below O1.out (a := ⟨n + 1, 0, none⟩) (by simp only; omega) (.slice p 12 c))
        have B6 := Lib.hid (B1.out.setCell (p := ⟨n + 1, 0, none⟩) (by have := HN.out; simp only; omega) (.slice p 12 c))
        obtain ⟨_, x6, _⟩ := one_set (u := .slice p 12 c) Z1.out
        clear O1 X1 C1 Z1 B1
        go_wp2_with fail
        refine bodyPost_ret (v := cirV (.slice p 12 c)) (by simp [results, Try.results29, go_sem, x6]) rfl ⟨_, rfl, ?_, B6.out⟩
        rw [HY.out, turn_len]
        exact own_base O6.out (by have := HN.out; omega)
  · rw [hb] at CO
    subst hy
    obtain ⟨p0, cap, rfl⟩ := own_slice h
    have CB := Lib.hid (CO.out (((w.alloc (.cells #[.slice p0 xs.length cap] 26)).alloc (.cells #[.slice none 0 0] 26)).alloc (.cells #[.slice none 0 0] 26)) (own_below HH.out (below_alloc3 w _ _ _)))
    clear h hb hl CO HH
    generalize xs.length = l at CB ⊢
    go_enter Try.func29, Try.ntmps29
    go_wp2_with fail
    refine wp_loop_rounds 1 ?_
    rw [rounds_succ]
    go_wp2_with fail
    refine CB.out.mono ?_
    rintro e1 w1 ⟨rfl, b1⟩
    obtain ⟨_, z1, z2⟩ : One (w.heap.size + 1) (.slice none 0 0) w1 := by simpa using one_keep b1 (one_al (o := .cells #[.slice none 0 0] 26) (one_alloc (w := w.alloc (.cells #[.slice p0 l cap] 26)) (v := .slice none 0 0) (t := 26)))
    obtain ⟨_, x1, _⟩ : One (w.heap.size + 1 + 1) (.slice none 0 0) w1 := by simpa using one_keep b1 (one_alloc (w := (w.alloc (.cells #[.slice p0 l cap] 26)).alloc (.cells #[.slice none 0 0] 26)) (v := .slice none 0 0) (t := 26))
    have B1 := Lib.hid ((below_alloc3 w (.cells #[.slice p0 l cap] 26) (.cells #[.slice none 0 0] 26) (.cells #[.slice none 0 0] 26)).trans (b1.mono (by simp; omega)))
    clear b1
    go_wp2_with fail
    refine bodyPost_ret (v := cirV (.slice none 0 0)) (by simp [results, Try.results29, go_sem, z1]) rfl ⟨_, rfl, World.ownsRow_nil _ _ _ _, ?_⟩
    repeat' (first | exact B1.out | (refine Below.setCell ?_ (by simp) _))
end Go.Proofs.Ytjfeeppbbckneaa
