/- Contracts of spec.l12Circle and spec.DrawCircle: a drawn circle is valid and lies in memory of its own. -/
import Derived.Test.YtjfeeppbbckneabDrawTone
import Derived.Test.YtjfeeppbbckneabEqCirLaw
import Derived.Deep.DeepCutAuto
namespace Go.Proofs.Ytjfeeppbbckneab
open Go.RowKit Go.Joins
set_option linter.unusedVariables false
theorem curC_below {T : TypeId} {W : World} {a : Option Addr} {len cap : Nat} {zs : List Int} {b : Nat} {w w' : World} (h : Cur T W a len cap zs b w) (hb : Below w.heap.size w w') : Cur T W a len cap zs b w' := by
  have hl := h.lt
  obtain ⟨i, x, hi, hc⟩ := h.cells
  exact ⟨h.row, h.below.trans (hb.mono h.below.size), h.ge, i, x, hi, (hb.block b hl).trans hc⟩
theorem grownC_below {w w1 w2 : World} {r : Option Nat} (h : w.grownBy w1 r) (hb : Below w1.heap.size w1 w2) : w.grownBy w2 r :=
  ⟨hb.os.trans h.os, hb.tape.trans h.tape, hb.output.trans h.output, Nat.le_trans h.size hb.size, fun k hk hn => (hb.block k (Nat.lt_of_lt_of_le hk h.size)).trans (h.block k hk hn)⟩
/-- A circle that is being drawn: the cursor at b, the result at n, the parts at n + 1, the circle at m. -/
structure CirSt (T : TypeId) (W : World) (a : Option Addr) (len cap : Nat) (zs : List Int) (b : Nat) (w : World) (n m : Nat) (ps : List Int) (X : World) : Prop where
  cur : Cur T W a len cap zs b X
  grown : w.grownBy X (some b)
  res : One n (.slice none 0 0) X
  row : X.ownsRow (n + 1) 3 1 (.slice (some ⟨n + 1, 0, none⟩) 12 12) 12 (intCs ps)
  box : One m (.slice (some ⟨n + 1, 0, none⟩) 12 12) X
  lt : b < n
  old : w.heap.size ≤ n ∧ W.heap.size ≤ n ∧ n + 1 < m
section
variable {T : TypeId} {W : World} {a : Option Addr} {len cap : Nat} {zs : List Int} {b : Nat} {w : World} {n m : Nat} {ps : List Int} {X X' : World}
theorem CirSt.len12 (h : CirSt T W a len cap zs b w n m ps X) : ps.length = 12 := by
  have := h.row.1
  rw [intCs_len] at this
  omega
theorem CirSt.draw (h : CirSt T W a len cap zs b w n m ps X) (hc : Cur T W a len cap zs b X') (hg : X.grownBy X' (some b)) : CirSt T W a len cap zs b w n m ps X' :=
  ⟨hc, grown_trans h.grown hg, one_grown h.res hg (fun e => by have := h.lt; injection e; omega), own_grownC h.row hg (fun g hg' e => by have := (h.row.lt g hg').1; have := h.lt; injection e; omega), one_grown h.box hg (fun e => by have := h.lt; have := h.old.2.2; injection e; omega), h.lt, h.old⟩
theorem CirSt.keep (h : CirSt T W a len cap zs b w n m ps X) (hb : Below X.heap.size X X') : CirSt T W a len cap zs b w n m ps X' :=
  ⟨curC_below h.cur hb, grownC_below h.grown hb, one_keep hb h.res, own_below h.row hb, one_keep hb h.box, h.lt, h.old⟩
theorem CirSt.drew (h : CirSt T W a len cap zs b w n m ps X) : CirSt T W a len cap zs b w n m ps X.drew :=
  ⟨⟨h.cur.row, h.cur.below.drew, h.cur.ge, h.cur.cells⟩, ⟨h.grown.os, h.grown.tape, h.grown.output, h.grown.size, h.grown.block⟩, h.res, h.row, h.box, h.lt, h.old⟩
theorem intCs_setC (ps : List Int) (k : Nat) (y : Int) : (intCs ps).set k (.int .i64 y) = intCs (ps.set k y) := by simp [intCs]
theorem CirSt.put (h : CirSt T W a len cap zs b w n m ps X) (k : Nat) (y : Int) : CirSt T W a len cap zs b w n m (ps.set k y) (X.setCell ⟨n + 1, k, none⟩ (.int .i64 y)) := by
  have R := (h.row.stored k (.int .i64 y)).1
  rw [intCs_setC] at R
  obtain ⟨h1, h2, h4⟩ := h.old
  have h3 := h.lt
  exact ⟨h.cur.setOther (n := n + 1) (by omega) (by omega) k _, grown_setNew h.grown (n := n + 1) (by omega) k _, one_oth (by omega) h.res, R, one_oth (by omega) h.box, h.lt, h.old⟩
theorem CirSt.cell (h : CirSt T W a len cap zs b w n m ps X) (k : Nat) (hk : k < 12) : X.cell? ⟨n + 1, k, none⟩ = some (.int .i64 (ps.getD k 0)) ∧ X.frozen? ⟨n + 1, k, none⟩ = false :=
  ⟨own_icell h.row k hk, h.row.frozenAt k⟩
end
/-- What l12Circle leaves. -/
def DrawnCir (T : TypeId) (W : World) (a : Option Addr) (len cap : Nat) (zs : List Int) (b : Nat) (w : World) (e : Ending) (w' : World) : Prop :=
  ∃ xs p c, CirOk xs ∧ e = .returned (cirV (.slice p 12 c)) ∧ w'.ownsRow w.heap.size 3 1 (.slice p 12 c) 12 (intCs xs) ∧ Cur T W a len cap zs b w' ∧ w.grownBy w' (some b)
theorem cirSt_start {T : TypeId} {W : World} {a : Option Addr} {len cap : Nat} {zs : List Int} {b : Nat} {w w1 : World} (hc : Cur T W a len cap zs b w)
    (hown : w1.ownsRow (w.alloc (.cells #[.slice none 0 0] 26)).heap.size 3 1 (.slice (some ⟨(w.alloc (.cells #[.slice none 0 0] 26)).heap.size, 0, none⟩) 12 12) 12 (madeCells (Value.int .i64 0).cells (12 * 1)).toList) (hg : (w.alloc (.cells #[.slice none 0 0] 26)).grownBy w1 none) :
    Hid (CirSt T W a len cap zs b w w.heap.size w1.heap.size (List.replicate 12 0) (w1.alloc (.cells #[.slice (some ⟨w.heap.size + 1, 0, none⟩) 12 12] 26))) := by
  have hz : (w.alloc (.cells #[.slice none 0 0] 26)).heap.size = w.heap.size + 1 := by simp
  rw [hz] at hown
  have B : Below (w.heap.size + 1) (w.alloc (.cells #[.slice none 0 0] 26)) w1 := (Below.refl _ _).grown hg (by simp) (by simp)
  have B1 : Below w.heap.size w w1 := (below_alloc1 w _).trans (B.mono (by omega))
  have B2 : Below w.heap.size w (w1.alloc (.cells #[.slice (some ⟨w.heap.size + 1, 0, none⟩) 12 12] 26)) := B1.alloc B1.size _
  have R : w1.ownsRow (w.heap.size + 1) 3 1 (.slice (some ⟨w.heap.size + 1, 0, none⟩) 12 12) 12 (intCs (List.replicate 12 0)) := by simpa [intCs, toList_madeCells_one, Value.cells] using hown
  have hs : w.heap.size + 1 < w1.heap.size := by
    obtain ⟨g, cap', e, _, hg'⟩ := own_pos R (by omega)
    simp only [Value.slice.injEq, Option.some.injEq, Addr.mk.injEq] at e
    obtain ⟨⟨rfl, _⟩, _⟩ := e
    exact hg'
  exact Lib.hid ⟨curC_below hc B2, grown_row B2 _, one_al (one_keep (B.mono (by simp)) one_alloc), own_below R (below_alloc1 _ _), one_alloc, hc.lt, Nat.le_refl _, hc.below.size, hs⟩
theorem cirSt_done {T : TypeId} {W : World} {a : Option Addr} {len cap : Nat} {zs : List Int} {b : Nat} {w : World} {n m : Nat} {ps : List Int} {X : World} (h : CirSt T W a len cap zs b w n m ps X) (ok : CirOk ps) :
    ∃ Y, Y = X.setCell ⟨n, 0, none⟩ (.slice (some ⟨n + 1, 0, none⟩) 12 12) ∧ Y.cell? ⟨n, 0, none⟩ = some (.slice (some ⟨n + 1, 0, none⟩) 12 12) ∧ DrawnCir T W a len cap zs b w (.returned (cirV (.slice (some ⟨n + 1, 0, none⟩) 12 12))) Y := by
  obtain ⟨h1, h2, h3⟩ := h.old
  have h4 := h.lt
  exact ⟨_, rfl, (one_set h.res).2.1, ps, _, _, ok, rfl, own_base (ownsRow_setCell_below h.row (by simp only; omega) _) (by omega), h.cur.setOther (n := n) (by omega) h2 0 _, grown_setNew h.grown (n := n) h1 0 _⟩
theorem cirSt_other {T : TypeId} {W : World} {a : Option Addr} {len cap : Nat} {zs : List Int} {b : Nat} {w : World} {n m : Nat} {ps : List Int} {X : World} {B : Nat} {p : Option Addr} {c : Nat} (h : CirSt T W a len cap zs b w n m ps X) (hB : n < B) (o : X.ownsRow B 3 1 (.slice p 12 c) 12 (intCs onesL)) :
    ∃ Y, Y = X.setCell ⟨n, 0, none⟩ (.slice p 12 c) ∧ Y.cell? ⟨n, 0, none⟩ = some (.slice p 12 c) ∧ DrawnCir T W a len cap zs b w (.returned (cirV (.slice p 12 c))) Y := by
  obtain ⟨h1, h2, h3⟩ := h.old
  have h4 := h.lt
  exact ⟨_, rfl, (one_set h.res).2.1, onesL, _, _, by decide, rfl, own_base (ownsRow_setCell_below o (by simp only; omega) _) (by omega), h.cur.setOther (n := n) (by omega) h2 0 _, grown_setNew h.grown (n := n) h1 0 _⟩
set_option maxRecDepth 100000 in
set_option maxHeartbeats 4000000 in
theorem circle_any {W : World} {a : Option Addr} {len cap : Nat} {zs : List Int} {b : Nat} {w : World} (hc : Cur 73 W a len cap zs b w) :
    Calls Try.prog 39 #[.pointer (some ⟨b, 0, none⟩)] w (DrawnCir 73 W a len cap zs b w) := by
  obtain ⟨i0, hif, hz0, hz1, hz2⟩ := info_parts infoInt
  have HC := Lib.hid hc
  clear hc
  go_enter Try.func39, Try.ntmps39
  go_wp2_with (at_make; refine wpList_make_full _ rfl _ _ 24 rfl (w.alloc (.cells #[.slice none 0 0] 26)).heap.size 3 i0 (.int .i64 0) 1 Try.underlying24 hif hz0 hz1 _ _ _ _ 12 rfl rfl rfl rfl (by rw [hz2]; omega) (by unfold maxLen; omega) (Nat.le_refl _) ?_; intro w1 hown1 hgrow1; have S0 := cirSt_start HC.out hown1 hgrow1)
  have S1 := Lib.hid (S0.out.keep (below_alloc1 _ (.cells #[.int .i64 1, .int .i64 2, .int .i64 3, .int .i64 4] 3)))
  refine (pickInt_any S1.out.cur (w1.heap.size + 1) 4 4 [1, 2, 3, 4] 3 rfl (by omega) (by omega) (by have := S1.out.lt; have := S1.out.old; omega) alloc_at).mono ?_
  rintro e w2 ⟨v, hv, rfl, hc2, hg2⟩
  have S2 := Lib.hid (S1.out.draw hc2 hg2)
  obtain ⟨q, hq, hq12⟩ : ∃ q : Nat, (12 : Int).tdiv v = (q : Int) ∧ q ≤ 12 := by
    simp only [List.mem_cons, List.not_mem_nil, or_false] at hv
    rcases hv with rfl | rfl | rfl | rfl
    · exact ⟨12, rfl, by omega⟩
    · exact ⟨6, rfl, by omega⟩
    · exact ⟨4, rfl, by omega⟩
    · exact ⟨3, rfl, by omega⟩
  have hv0 : ¬ v = 0 := by
    simp only [List.mem_cons, List.not_mem_nil, or_false] at hv
    omega
  have vq : IntKind.i64.wrap ((12 : Int).tdiv v) = (q : Int) := by rw [hq]; exact IntWalk.i64_in _ (by omega)
  obtain ⟨n, hn⟩ : ∃ n, n = w.heap.size := ⟨_, rfl⟩
  obtain ⟨m, hm⟩ : ∃ m, m = w1.heap.size := ⟨_, rfl⟩
  rw [← hn, ← hm] at S2
  rw [← hn, ← hm]
  have HN := Lib.hid hn
  clear S0 S1 hown1 hgrow1 hc2 hg2 hv hn hm hq hz0 hz1 hz2 hif
  go_wp2_with fail
  go_loopw [5, 6] (fun x y wr => ∃ (N : Nat) (ps : List Int), N ≤ 12 ∧ x = .int .i64 N ∧ Hid (CirSt 73 W a len cap zs b w n m ps wr)) (fun x _ _ => (intOf x).toNat)
  case atStart => exact ⟨q, _, hq12, rfl, S2⟩
  case round =>
    clear S2
    obtain ⟨N, ps, hN, rfl, S3⟩ := hrel
    by_cases hN0 : 0 < N
    · have q3 : (0 : Int) < N := by omega
      go_wp2_with fail
      refine (below_any S3.out.cur _).mono ?_
      rintro e w4 ⟨k, hk, rfl, hc4, hg4⟩
      have S4 := Lib.hid (S3.out.draw hc4 hg4)
      have hk0 := hk.1
      have hk1 := hk.2.2 (by omega)
      obtain ⟨k', rfl⟩ : ∃ k' : Nat, k = (k' : Int) := ⟨k.toNat, by omega⟩
      clear S3 hk hc4 hg4
      obtain ⟨_, x1, _⟩ := S4.out.box
      obtain ⟨p1, f1⟩ := S4.out.cell k' (by omega)
      obtain ⟨x, hx⟩ : ∃ x, x = ps.getD k' 0 := ⟨_, rfl⟩
      rw [← hx] at p1
      clear hx
      obtain ⟨M, rfl⟩ : ∃ M, N = M + 1 := ⟨N - 1, by omega⟩
      by_cases h8 : 8 < x
      · obtain ⟨l, hl⟩ : ∃ l : Nat, l = (k' + 1) % 12 := ⟨_, rfl⟩
        have hl12 : (l : Int) < 12 := by omega
        have hl0 : (0 : Int) ≤ l := by omega
        have hl' : ((k' : Int) + 1) % 12 = (l : Int) := by omega
        have HL' := Lib.hid hl'
        clear hl hl'
        go_wp2_with fail
        rw [HL'.out]
        clear HL' h8
        obtain ⟨p2, f2⟩ := S4.out.cell l (by omega)
        obtain ⟨y, hy⟩ : ∃ y, y = ps.getD l 0 := ⟨_, rfl⟩
        rw [← hy] at p2
        clear hy x1 f1 p1
        obtain ⟨_, x1, _⟩ := S4.out.box
        go_region
        go_wp2_with fail
        go_roundw
        case rel => exact ⟨M, _, by omega, by go_num, Lib.hid (S4.out.put l _).drew⟩
        case measure => simp [intOf]
      · go_wp2_with fail
        obtain ⟨p2, f2⟩ := S4.out.cell k' (by omega)
        obtain ⟨y, hy⟩ : ∃ y, y = ps.getD k' 0 := ⟨_, rfl⟩
        rw [← hy] at p2
        clear hy x1 f1 p1
        obtain ⟨_, x1, _⟩ := S4.out.box
        go_region
        go_wp2_with fail
        go_roundw
        case rel => exact ⟨M, _, by omega, by go_num, Lib.hid (S4.out.put k' _).drew⟩
        case measure => simp [intOf]
    · obtain rfl : N = 0 := by omega
      go_wp2_with fail
      refine (once_any S3.out.cur _).mono ?_
      rintro e w4 ⟨t, rfl, hc4, hg4⟩
      have S4 := Lib.hid (S3.out.draw hc4 hg4)
      clear S3 hc4 hg4 hN hN0
      cases t
      · go_upto_region 16 with fail
        obtain ⟨_, x1, _⟩ := S4.out.box
        go_wp2_with fail
        refine (cirOk_spec _ _ _ _ ps (by rw [S4.out.len12]; omega) (own_eq S4.out.row (rfl : ps = ps) S4.out.len12.symm)).mono ?_
        rintro e w7 ⟨rfl, b7⟩
        have S7 := Lib.hid (S4.out.keep b7)
        clear S4 b7 x1
        by_cases ok : CirOk ps
        · rw [show cirB ps = true from decide_eq_true ok]
          have OK := Lib.hid ok
          obtain ⟨_, x1, _⟩ := S7.out.box
          obtain ⟨_, r1, rf⟩ := S7.out.res
          clear ok
          go_wp2_with fail
          obtain ⟨Y, hY, y1, hD⟩ := cirSt_done S7.out OK.out
          rw [← hY]
          exact bodyPost_ret (v := cirV (.slice (some ⟨n + 1, 0, none⟩) 12 12)) (by simp [results, Try.results39, go_sem, y1]) rfl hD
        · rw [show cirB ps = false from decide_eq_false ok]
          clear ok
          go_wp2_with fail
          refine (calls_cir (Below.refl _ _) (equal_spec _)).mono ?_
          rintro e w8 ⟨v8, rfl, o8, b8⟩
          have S8 := Lib.hid (S7.out.keep b8)
          have hB := S7.out.res.1
          replace o8 : w8.ownsRow w7.heap.size 3 1 v8 12 (intCs onesL) := o8
          obtain ⟨p8, c8, rfl⟩ := own_slice o8
          have O8 := Lib.hid o8
          obtain ⟨_, r1, rf⟩ := S8.out.res
          clear S7 b8 o8
          go_wp2_with fail
          obtain ⟨Y, hY, y1, hD⟩ := cirSt_other S8.out hB O8.out
          rw [← hY]
          exact bodyPost_ret (v := cirV (.slice p8 12 c8)) (by simp [results, Try.results39, go_sem, y1]) rfl hD
      · go_wp2_with fail
        refine (below_any S4.out.cur _).mono ?_
        rintro e w5 ⟨i, hi, rfl, hc5, hg5⟩
        have S5 := Lib.hid (S4.out.draw hc5 hg5)
        have hi0 := hi.1
        have hi1 := hi.2.2 (by omega)
        obtain ⟨i, rfl⟩ : ∃ k' : Nat, i = (k' : Int) := ⟨i.toNat, by omega⟩
        clear S4 hi hc5 hg5
        go_wp2_with fail
        refine (below_any S5.out.cur _).mono ?_
        rintro e w6 ⟨j, hj, rfl, hc6, hg6⟩
        have S6 := Lib.hid (S5.out.draw hc6 hg6)
        have hj0 := hj.1
        have hj1 := hj.2.2 (by omega)
        obtain ⟨j, rfl⟩ : ∃ k' : Nat, j = (k' : Int) := ⟨j.toNat, by omega⟩
        clear S5 hj hc6 hg6
        obtain ⟨_, x1, _⟩ := S6.out.box
        obtain ⟨pi, fi⟩ := S6.out.cell i (by omega)
        obtain ⟨pj, fj⟩ := S6.out.cell j (by omega)
        obtain ⟨x, hx⟩ : ∃ x, x = ps.getD i 0 := ⟨_, rfl⟩
        obtain ⟨y, hy⟩ : ∃ y, y = ps.getD j 0 := ⟨_, rfl⟩
        rw [← hx] at pi
        rw [← hy] at pj
        clear hx hy
        by_cases h12 : x < 12
        · by_cases h0 : 0 < y
          · go_upto_region 14 with fail
            go_region
            have S7 : Hid (CirSt 73 W a len cap zs b w n m (ps.set i (wrap64 (x + 1))) (w6.setCell ⟨n + 1, i, none⟩ (.int .i64 (wrap64 (x + 1)))).drew) := Lib.hid ((S6.out.put i (wrap64 (x + 1))).drew)
            go_upto_region 15 with fail
            obtain ⟨X7, hX7⟩ : ∃ X, X = (w6.setCell ⟨n + 1, i, none⟩ (.int .i64 (wrap64 (x + 1)))).drew := ⟨_, rfl⟩
            obtain ⟨qs, hqs⟩ : ∃ qs, qs = ps.set i (wrap64 (x + 1)) := ⟨_, rfl⟩
            rw [← hX7, ← hqs] at S7
            rw [← hX7]
            clear hX7 hqs pi pj fi fj x1 S6
            obtain ⟨_, x1, _⟩ := S7.out.box
            obtain ⟨pj, fj⟩ := S7.out.cell j (by omega)
            obtain ⟨z, hz⟩ : ∃ z, z = qs.getD j 0 := ⟨_, rfl⟩
            rw [← hz] at pj
            clear hz
            go_region
            have S8 : Hid (CirSt 73 W a len cap zs b w n m (qs.set j (wrap64 (z - 1))) (X7.setCell ⟨n + 1, j, none⟩ (.int .i64 (wrap64 (z - 1)))).drew) := Lib.hid ((S7.out.put j (wrap64 (z - 1))).drew)
            go_upto_region 16 with fail
            obtain ⟨X8, hX8⟩ : ∃ X, X = (X7.setCell ⟨n + 1, j, none⟩ (.int .i64 (wrap64 (z - 1)))).drew := ⟨_, rfl⟩
            obtain ⟨rs, hrs⟩ : ∃ rs, rs = qs.set j (wrap64 (z - 1)) := ⟨_, rfl⟩
            rw [← hX8, ← hrs] at S8
            rw [← hX8]
            clear hX8 hrs pj fj x1 S7
            obtain ⟨_, x1, _⟩ := S8.out.box
            go_wp2_with fail
            refine (cirOk_spec _ _ _ _ rs (by rw [S8.out.len12]; omega) (own_eq S8.out.row (rfl : rs = rs) S8.out.len12.symm)).mono ?_
            rintro e w7 ⟨rfl, b7⟩
            have S7 := Lib.hid (S8.out.keep b7)
            clear S8 b7 x1
            by_cases ok : CirOk rs
            · rw [show cirB rs = true from decide_eq_true ok]
              have OK := Lib.hid ok
              obtain ⟨_, x1, _⟩ := S7.out.box
              obtain ⟨_, r1, rf⟩ := S7.out.res
              clear ok
              go_wp2_with fail
              obtain ⟨Y, hY, y1, hD⟩ := cirSt_done S7.out OK.out
              rw [← hY]
              exact bodyPost_ret (v := cirV (.slice (some ⟨n + 1, 0, none⟩) 12 12)) (by simp [results, Try.results39, go_sem, y1]) rfl hD
            · rw [show cirB rs = false from decide_eq_false ok]
              clear ok
              go_wp2_with fail
              refine (calls_cir (Below.refl _ _) (equal_spec _)).mono ?_
              rintro e w8 ⟨v8, rfl, o8, b8⟩
              have S11 := Lib.hid (S7.out.keep b8)
              have hB := S7.out.res.1
              replace o8 : w8.ownsRow w7.heap.size 3 1 v8 12 (intCs onesL) := o8
              obtain ⟨p8, c8, rfl⟩ := own_slice o8
              have O8 := Lib.hid o8
              obtain ⟨_, r1, rf⟩ := S11.out.res
              clear S7 b8 o8
              go_wp2_with fail
              obtain ⟨Y, hY, y1, hD⟩ := cirSt_other S11.out hB O8.out
              rw [← hY]
              exact bodyPost_ret (v := cirV (.slice p8 12 c8)) (by simp [results, Try.results39, go_sem, y1]) rfl hD
          · go_upto_region 16 with fail
            clear pi pj fi fj x1
            obtain ⟨_, x1, _⟩ := S6.out.box
            go_wp2_with fail
            refine (cirOk_spec _ _ _ _ ps (by rw [S6.out.len12]; omega) (own_eq S6.out.row (rfl : ps = ps) S6.out.len12.symm)).mono ?_
            rintro e w7 ⟨rfl, b7⟩
            have S7 := Lib.hid (S6.out.keep b7)
            clear S6 b7 x1
            by_cases ok : CirOk ps
            · rw [show cirB ps = true from decide_eq_true ok]
              have OK := Lib.hid ok
              obtain ⟨_, x1, _⟩ := S7.out.box
              obtain ⟨_, r1, rf⟩ := S7.out.res
              clear ok
              go_wp2_with fail
              obtain ⟨Y, hY, y1, hD⟩ := cirSt_done S7.out OK.out
              rw [← hY]
              exact bodyPost_ret (v := cirV (.slice (some ⟨n + 1, 0, none⟩) 12 12)) (by simp [results, Try.results39, go_sem, y1]) rfl hD
            · rw [show cirB ps = false from decide_eq_false ok]
              clear ok
              go_wp2_with fail
              refine (calls_cir (Below.refl _ _) (equal_spec _)).mono ?_
              rintro e w8 ⟨v8, rfl, o8, b8⟩
              have S8 := Lib.hid (S7.out.keep b8)
              have hB := S7.out.res.1
              replace o8 : w8.ownsRow w7.heap.size 3 1 v8 12 (intCs onesL) := o8
              obtain ⟨p8, c8, rfl⟩ := own_slice o8
              have O8 := Lib.hid o8
              obtain ⟨_, r1, rf⟩ := S8.out.res
              clear S7 b8 o8
              go_wp2_with fail
              obtain ⟨Y, hY, y1, hD⟩ := cirSt_other S8.out hB O8.out
              rw [← hY]
              exact bodyPost_ret (v := cirV (.slice p8 12 c8)) (by simp [results, Try.results39, go_sem, y1]) rfl hD
        · go_upto_region 16 with fail
          clear pi pj fi fj x1
          obtain ⟨_, x1, _⟩ := S6.out.box
          go_wp2_with fail
          refine (cirOk_spec _ _ _ _ ps (by rw [S6.out.len12]; omega) (own_eq S6.out.row (rfl : ps = ps) S6.out.len12.symm)).mono ?_
          rintro e w7 ⟨rfl, b7⟩
          have S7 := Lib.hid (S6.out.keep b7)
          clear S6 b7 x1
          by_cases ok : CirOk ps
          · rw [show cirB ps = true from decide_eq_true ok]
            have OK := Lib.hid ok
            obtain ⟨_, x1, _⟩ := S7.out.box
            obtain ⟨_, r1, rf⟩ := S7.out.res
            clear ok
            go_wp2_with fail
            obtain ⟨Y, hY, y1, hD⟩ := cirSt_done S7.out OK.out
            rw [← hY]
            exact bodyPost_ret (v := cirV (.slice (some ⟨n + 1, 0, none⟩) 12 12)) (by simp [results, Try.results39, go_sem, y1]) rfl hD
          · rw [show cirB ps = false from decide_eq_false ok]
            clear ok
            go_wp2_with fail
            refine (calls_cir (Below.refl _ _) (equal_spec _)).mono ?_
            rintro e w8 ⟨v8, rfl, o8, b8⟩
            have S8 := Lib.hid (S7.out.keep b8)
            have hB := S7.out.res.1
            replace o8 : w8.ownsRow w7.heap.size 3 1 v8 12 (intCs onesL) := o8
            obtain ⟨p8, c8, rfl⟩ := own_slice o8
            have O8 := Lib.hid o8
            obtain ⟨_, r1, rf⟩ := S8.out.res
            clear S7 b8 o8
            go_wp2_with fail
            obtain ⟨Y, hY, y1, hD⟩ := cirSt_other S8.out hB O8.out
            rw [← hY]
            exact bodyPost_ret (v := cirV (.slice p8 12 c8)) (by simp [results, Try.results39, go_sem, y1]) rfl hD
/-- What DrawCircle leaves. -/
def DrawnOk (W : World) (e : Ending) (w' : World) : Prop :=
  ∃ xs p c, CirOk xs ∧ e = .returned (cirV (.slice p 12 c)) ∧ w'.ownsRow W.heap.size 3 1 (.slice p 12 c) 12 (intCs xs) ∧ Below W.heap.size W w'
set_option maxHeartbeats 1000000 in
theorem drawCircle_any {W : World} {a : Option Addr} {len cap : Nat} {zs : List Int} (hr : IsRow .u8 W a len cap zs) :
    Calls Try.prog 12 #[.slice a len cap] W (DrawnOk W) := by
  have HR := Lib.hid hr
  clear hr
  go_enter Try.func12, Try.ntmps12
  go_wp2_with fail
  refine (new_any (HR.out.below (below_alloc1 W _))).mono ?_
  rintro e w1 ⟨b, rfl, hc1⟩
  have HC := Lib.hid hc1
  clear hc1
  go_wp2_with fail
  refine (circle_any HC.out).mono ?_
  rintro e w2 ⟨xs, p, c, ok, rfl, o2, hc2, hg2⟩
  have hz : (W.alloc (.cells #[.slice none 0 0] 26)).heap.size = W.heap.size + 1 := by simp
  have X2 := Lib.hid (one_keep hc2.below (one_alloc (w := W) (v := .slice none 0 0) (t := 26)))
  have B2 := Lib.hid ((below_alloc1 W (.cells #[.slice none 0 0] 26)).trans (hc2.below.mono (by simp)))
  have M2 : W.heap.size < w1.heap.size := by have := HC.out.below.size; rw [hz] at this; omega
  have OK := Lib.hid ok
  have O2 := Lib.hid (ownsRow_setCell_below o2 (a := ⟨W.heap.size, 0, none⟩) M2 (.slice p 12 c))
  obtain ⟨_, y1, yf⟩ := X2.out
  obtain ⟨_, x1, _⟩ := one_set (u := .slice p 12 c) X2.out
  clear ok o2 hc2 hg2 hz
  go_wp2_with fail
  exact bodyPost_ret (v := cirV (.slice p 12 c)) (by simp [results, Try.results12, go_sem, x1]) rfl ⟨xs, _, _, OK.out, rfl, own_base O2.out (by omega), B2.out.setCell (Nat.le_refl _) _⟩
end Go.Proofs.Ytjfeeppbbckneab
