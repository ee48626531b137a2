/- Contracts of slices.stableCmpFunc, SortStableFunc, Clone and sortedBy at twelve ints, and of impl.BestKeys. -/
import Derived.Test.YtjfeeppbbckneabBestSort
namespace Go.Proofs.Ytjfeeppbbckneab
open Go.RowKit Go.Joins
set_option linter.unusedVariables false
set_option maxRecDepth 100000 in
set_option maxHeartbeats 2000000 in
theorem stableI_run {xs : List Int} (hc : CirOk xs) {m q c : Nat} {w0 : World} {B g cap : Nat} (hx : CirBox xs m q c w0) (hB : m < B ∧ q < B) (W : World) (h : KeyRow w0 B g cap (fun t => (t : Int)) W) :
    Calls Try.prog 78 #[.slice (some ⟨g, 0, none⟩) 12 cap, .int .i64 12, .func (.func 43) #[] #[.pointer (some ⟨m, 0, none⟩)]] W fun e w' => e = .returned (.tuple #[]) ∧ KeyRow w0 B g cap (bestF (keyC xs) 12) w' := by
  have C := Lib.hid (insert_run hc hx hB W h)
  clear hc hx hB h
  go_enter Try.func78, Try.ntmps78
  go_wp2_with fail
  refine wp_loop_rounds 1 ?_
  rw [rounds_succ]
  go_wp2_with fail
  refine C.out.mono ?_
  rintro en w2 ⟨rfl, h2⟩
  have H2 := Lib.hid h2
  clear h2 C
  go_wp2_with fail
  refine wp_loop_rounds 1 ?_
  rw [rounds_succ]
  go_wp2_with fail
  go_end0
  exact ⟨rfl, H2.out⟩
set_option maxRecDepth 100000 in
theorem sortStableI_run {xs : List Int} (hc : CirOk xs) {m q c : Nat} {w0 : World} {B g cap : Nat} (hx : CirBox xs m q c w0) (hB : m < B ∧ q < B) (W : World) (h : KeyRow w0 B g cap (fun t => (t : Int)) W) :
    Calls Try.prog 66 #[.slice (some ⟨g, 0, none⟩) 12 cap, .func (.func 43) #[] #[.pointer (some ⟨m, 0, none⟩)]] W fun e w' => e = .returned (.tuple #[]) ∧ KeyRow w0 B g cap (bestF (keyC xs) 12) w' := by
  have C := Lib.hid (stableI_run hc hx hB W h)
  clear hc hx hB h
  go_enter Try.func66, Try.ntmps66
  go_wp2_with fail
  refine C.out.mono ?_
  rintro en w2 ⟨rfl, h2⟩
  have H2 := Lib.hid h2
  clear h2
  go_wp2_with fail
  go_end0
  exact ⟨rfl, H2.out⟩
theorem add_noneB (g off i : Nat) : (⟨g, off, none⟩ : Addr).add i = ⟨g, off + i, none⟩ := by unfold Addr.add; split <;> simp_all
theorem intCs_one (xs : List Int) : ∀ u ∈ intCs xs, u.oneCell' = true := fun u hu => by
  unfold intCs at hu
  obtain ⟨x, _, rfl⟩ := List.mem_map.1 hu
  rfl
set_option maxRecDepth 100000 in
set_option maxHeartbeats 2000000 in
theorem cloneI_run {g n cap : Nat} {xs : List Int} (hn0 : 0 < n) (hn : n ≤ 1000000) (hl : xs.length = n) (w : World) (hg : g < w.heap.size) (hcl : ∀ j u, (intCs xs)[j]? = some u → w.cell? ⟨g, j, none⟩ = some u) :
    Calls Try.prog 65 #[.slice (some ⟨g, 0, none⟩) n cap] w fun e w' => (∃ g' cap', e = .returned (.slice (some ⟨g', 0, none⟩) n cap') ∧ w'.ownsRow w.heap.size 3 1 (.slice (some ⟨g', 0, none⟩) n cap') n (intCs xs)) ∧ Below w.heap.size w w' := by
  obtain ⟨i0, hi, hz0, hz1, hz2⟩ := info_parts infoInt
  have HG := Lib.hid hg
  have HC := Lib.hid hcl
  have HX := Lib.hid hl
  clear hcl hg hl
  go_enter Try.func65, Try.ntmps65
  have hne : ∀ W : World, (binOp .eql 24 (.slice (some ⟨g, 0, none⟩) n cap) (.slice none 0 0)).run Try.prog W = .ok (.bool false) W := fun W => by kernel_rfl
  have OL := Lib.hid (World.ownsRow_lit (base := w.heap.size) (e := 3) (size := 1) w #[] 0 (Nat.le_refl _) (by unfold maxLen; omega) rfl)
  have HC2 := Lib.hid (fun j u (hj : (intCs xs)[j]? = some u) => ((Below.refl _ w).alloc (Nat.le_refl _) (.cells #[] 3)).cell (p := ⟨g, j, none⟩) HG.out |>.trans (HC.out j u hj))
  go_wp2_with (at_builtin; refine wpList_append_lies _ rfl (.tmp 5) (.tmp 6) 24 rfl w.heap.size 3 i0 (.int .i64 0) 1 8 Try.underlying24 hi hz0 hz1 hz2 rfl (by decide) _ 0 _ rfl OL.out ⟨g, 0, none⟩ n cap (intCs xs) rfl (by have h1 := intCs_len xs; have h2 := HX.out; omega) (fun j u hu => by rw [add_noneB, Nat.zero_add]; exact HC2.out j u hu) (intCs_one xs) hn0 (by unfold maxLen; omega) (by omega) (by simp) _ rfl ?_; intro g1 cap1 w1 hown' hgrow hat hgt)
  go_ret
  refine ⟨⟨g1, cap1, rfl, ?_⟩, ((Below.refl _ w).alloc (Nat.le_refl _) _).grown hgrow (by simp) (fun j hj => by cases hj; exact Nat.le_refl _)⟩
  have := hown'
  rw [Nat.zero_add] at this
  exact this
theorem row_cells {w : World} {B g cap : Nat} {e : TypeId} {xs : List Int} {n : Nat} (h : w.ownsRow B e 1 (.slice (some ⟨g, 0, none⟩) n cap) n (intCs xs)) (hl : xs.length = n) : ∀ j u, (intCs xs)[j]? = some u → w.cell? ⟨g, j, none⟩ = some u := fun j u hu => by
  have hj : j < n := by
    rcases Nat.lt_or_ge j n with q | q
    · exact q
    · rw [List.getElem?_eq_none (by rw [intCs_len]; omega)] at hu
      cases hu
  rw [own_icell h j hj, ← intCs_get xs j (by omega), hu]
set_option maxRecDepth 100000 in
set_option maxHeartbeats 2000000 in
/-- A sorted copy of the keys. -/
theorem sortedByI_run {xs : List Int} (hc : CirOk xs) {m q c : Nat} {w : World} {B g cap : Nat} (hx : CirBox xs m q c w) (hB : m < w.heap.size ∧ q < w.heap.size) (h : w.ownsRow B 3 1 (.slice (some ⟨g, 0, none⟩) 12 cap) 12 (intCs (rowI 12 (fun t => (t : Int))))) (hg : g < w.heap.size) :
    Calls Try.prog 42 #[.slice (some ⟨g, 0, none⟩) 12 cap, .func (.func 43) #[] #[.pointer (some ⟨m, 0, none⟩)]] w fun e w' => ∃ v, e = .returned v ∧ w'.ownsRow w.heap.size 3 1 v 12 (intCs (rowI 12 (bestF (keyC xs) 12))) ∧ Below w.heap.size w w' := by
  have C := Lib.hid (cloneI_run (g := g) (cap := cap) (by omega) (by omega) (rowI_len 12 _) w hg (row_cells h (rowI_len 12 _)))
  have HS : Hid (∀ g' cap' W, KeyRow w w.heap.size g' cap' (fun t => (t : Int)) W → _) := Lib.hid (fun g' cap' W hW => sortStableI_run (g := g') (cap := cap') hc hx hB W hW)
  clear hc hx hB h hg
  go_enter Try.func42, Try.ntmps42
  go_wp2_with fail
  refine C.out.mono ?_
  rintro en w2 ⟨⟨g', cap', rfl, o2⟩, b2⟩
  have H2 := Lib.hid (HS.out g' cap' w2 ⟨o2, b2, Nat.le_refl _⟩)
  clear o2 b2 HS C
  go_wp2_with fail
  refine H2.out.mono ?_
  rintro en w3 ⟨rfl, h3⟩
  have H3 := Lib.hid h3
  clear h3 H2
  go_wp2_with fail
  go_ret
  exact ⟨_, rfl, H3.out.1, H3.out.2.1⟩
theorem rowI_app {w : World} {B g cap k : Nat} {e : TypeId} {f : Nat → Int} {x : Int} (hx : x = f k) (h : w.ownsRow B e 1 (.slice (some ⟨g, 0, none⟩) (k + 1) cap) (k + 1) (intCs (rowI k f) ++ [.int .i64 x])) : w.ownsRow B e 1 (.slice (some ⟨g, 0, none⟩) (k + 1) cap) (k + 1) (intCs (rowI (k + 1) f)) := by
  rw [rowI_snoc, intCs_app, ← hx]
  exact h
set_option maxRecDepth 100000 in
set_option maxHeartbeats 4000000 in
theorem best_impl13 {xs ys : List Int} (hf : BkAt xs ys) (w : World) (b : Nat) (e : TypeId) (v : Value) (hl : xs.length ≤ 2000000) (h : w.ownsRow b e 1 v xs.length (intCs xs)) :
    Calls Try.prog 13 #[cirV v] w (OwnPost 3 ys w) := by
  have CO := Lib.hid (cirOk_impl _ b e v xs hl (own_below h (below_alloc1 w (.cells #[v] 26))))
  rcases hf with ⟨hc, hy⟩ | ⟨hb, rfl⟩
  · rw [show cirB xs = true from decide_eq_true hc] at CO
    obtain ⟨i0, hif, hz0, hz1, hz2⟩ := info_parts infoInt
    obtain ⟨q, c, rfl, hq, _, _, hcl⟩ := cir_row h hc
    have HC := Lib.hid hc
    have HY := Lib.hid hy
    have HCL := Lib.hid hcl
    have HQ := Lib.hid hq
    clear h hc hy hl hcl hq
    have hmf : ∀ (fn : Fn) (first cap : Array Value) (w : World), (Instr.makeFunc fn first cap).run Try.prog w = .ok (.func fn first cap) w := fun _ _ _ _ => rfl
    go_enter Try.func13, Try.ntmps13
    go_wp2_with fail
    refine CO.out.mono ?_
    rintro e1 w1 ⟨rfl, b1⟩
    have BX := (below_alloc1 w (.cells #[.slice (some ⟨q, 0, none⟩) 12 c] 26)).trans (b1.mono (by simp))
    have X1 := one_keep b1 (one_alloc (w := w) (v := .slice (some ⟨q, 0, none⟩) 12 c) (t := 26))
    have CX : Hid (CirBox xs w.heap.size q c w1) := Lib.hid ⟨⟨X1.1, Nat.lt_of_lt_of_le HQ.out BX.size⟩, X1.2.1, fun j hj => (BX.cell (p := ⟨q, j, none⟩) HQ.out).trans (HCL.out j hj)⟩
    have B1 := Lib.hid BX
    clear BX X1 b1 CO
    obtain ⟨m, hm⟩ : ∃ m, m = w.heap.size := ⟨_, rfl⟩
    rw [← hm] at CX ⊢
    have HM := Lib.hid hm
    clear hm
    go_wp2_with fail
    go_loopw [3, 8] (fun v i wr => ∃ (k : Nat), k ≤ 12 ∧ i = .int .i64 (k : Int) ∧ Hid (wr.ownsRow w1.heap.size 3 1 v k (intCs (rowI k (fun t => (t : Int))))) ∧ Hid (Below w1.heap.size w1 wr)) (fun _ i _ => 12 - (intOf i).toNat)
    case atStart => exact ⟨0, Nat.zero_le _, by go_num, Lib.hid (World.ownsRow_nil _ _ _ _), Lib.hid (Below.refl _ _)⟩
    case round =>
      obtain ⟨k, hk, rfl, HO, HB⟩ := hrel
      by_cases hlt : k < 12
      · have q3 : (k : Int) < 12 := by omega
        have HK := Lib.hid hlt
        go_wp2_with (at_builtin; refine wpList_append_lies _ rfl (.tmp 11) (.tmp 13) 24 rfl w1.heap.size 3 i0 (.int .i64 0) 1 8 Try.underlying24 hif hz0 hz1 hz2 rfl (by decide) _ k _ rfl (HO.out.alloc _) ⟨_, 0, none⟩ 1 1 _ rfl rfl (World.news_of_block (heap_alloc_new _ _)) (by simp [Value.oneCell']) (by decide) (by unfold maxLen; omega) (by omega) (by have := HB.out.size; simp; omega) _ rfl ?_; intro g1 cap1 w5 hown' hgrow hat hgt)
        have R5 := Lib.hid ((HB.out.alloc HB.out.size _).grown hgrow (Nat.le_trans HB.out.size (by simp)) (fun j hj => (HO.out.lt j hj).1))
        have O5 := Lib.hid (rowI_app (f := fun t => (t : Int)) rfl hown')
        clear hown' hgrow hat hgt HO HB
        go_wp2_with fail
        go_roundw
        case rel => exact ⟨k + 1, HK.out, by go_num, O5, R5⟩
        case measure => simp [intOf]; omega
      · obtain rfl : k = 12 := by omega
        have q3 : ¬ ((12 : Nat) : Int) < 12 := by omega
        obtain ⟨g, cap, rfl, _, hgl⟩ := own_pos HO.out (by omega)
        have CX2 := cirBox_keep CX.out HB.out
        have SR := Lib.hid (sortedByI_run HC.out CX2 CX2.1 HO.out hgl)
        have B2 := Lib.hid (B1.out.trans (HB.out.mono B1.out.size))
        clear CX2 hgl HO HB
        go_wp2_with fail
        refine SR.out.mono ?_
        rintro en w5 ⟨v5, rfl, o5, b5⟩
        have O5 := Lib.hid o5
        have B5 := Lib.hid b5
        clear o5 b5 SR
        go_wp2_with fail
        go_ret
        refine ⟨v5, rfl, ?_, B2.out.trans (B5.out.mono B2.out.size)⟩
        rw [HY.out, rowI_len]
        exact own_base O5.out B2.out.size
  · rw [hb] at CO
    obtain ⟨p0, c0, rfl⟩ := own_slice h
    clear h hl hb
    generalize xs.length = n at CO ⊢
    go_enter Try.func13, Try.ntmps13
    go_wp2_with fail
    refine CO.out.mono ?_
    rintro e1 w1 ⟨rfl, b1⟩
    have B1 := Lib.hid ((below_alloc1 w (.cells #[.slice p0 n c0] 26)).trans (b1.mono (by simp)))
    clear b1
    go_wp2_with fail
    go_ret
    exact ⟨_, rfl, World.ownsRow_nil _ _ _ _, B1.out⟩
end Go.Proofs.Ytjfeeppbbckneab
