/- Contracts of spec.l21Scale and spec.DrawScale: a drawn scale is valid and lies in memory of its own. -/
import Derived.Test.YtppbcjpabmllnaaDrawTone
import Derived.Test.YtppbcjpabmllnaaSScale
import Derived.Deep.DeepCutAuto
import Derived.Deep.RegionLaw
namespace Go.Proofs.Ytppbcjpabmllnaa
open Go.RowKit Go.Joins
set_option linter.unusedVariables false
/-- A drawn scale: the major one, or up to eight sizes from 1 to 3. -/
def SmallSc (xs : List Int) : Prop := (1 ≤ xs.length ∧ xs.length ≤ 8) ∧ ∀ j, j < xs.length → 1 ≤ xs.getD j 0 ∧ xs.getD j 0 ≤ 3
theorem sum_bd3 {xs : List Int} {n : Nat} (h : ∀ j, j < n → 1 ≤ xs.getD j 0 ∧ xs.getD j 0 ≤ 3) : ∀ k, k ≤ n → 0 ≤ sumTo xs k ∧ sumTo xs k ≤ 3 * k
  | 0, _ => by simp [sumTo]
  | k + 1, hk => by
    have e := sum_bd3 h k (by omega)
    have f := h k (by omega)
    unfold sumTo
    omega
theorem smallSc_ok {xs : List Int} (h : SmallSc xs) : ScOk xs := by
  have b := sum_bd3 h.2 xs.length (Nat.le_refl _)
  have := h.1
  exact ⟨by omega, fun j hj => by have := h.2 j hj; omega, by omega⟩
theorem maj_small : SmallSc majL := by unfold SmallSc; decide
theorem small_snoc {xs : List Int} {x : Int} {k : Nat} (hl : xs.length = k) (hk : k < 8) (h : ∀ j, j < k → 1 ≤ xs.getD j 0 ∧ xs.getD j 0 ≤ 3) (hx : 1 ≤ x ∧ x ≤ 3) : (xs ++ [x]).length = k + 1 ∧ ∀ j, j < k + 1 → 1 ≤ (xs ++ [x]).getD j 0 ∧ (xs ++ [x]).getD j 0 ≤ 3 := by
  subst hl
  refine ⟨by simp, fun j hj => ?_⟩
  rcases (show j < xs.length ∨ j = xs.length from by omega) with e | e
  · have := h j e
    rw [List.getD_eq_getElem?_getD, List.getElem?_append_left e, ← List.getD_eq_getElem?_getD]
    exact this
  · subst e
    rw [List.getD_eq_getElem?_getD, List.getElem?_append_right (Nat.le_refl _)]
    simpa using hx
/-- A scale that is being drawn: the cursor at b, the result at n, the scale's box at m, its sizes behind. -/
structure ScSt (T : TypeId) (W : World) (a : Option Addr) (len cap : Nat) (zs : List Int) (b : Nat) (w : World) (n m k : Nat) (v : Value) (ps : List Int) (X : World) : Prop where
  cur : Cur T W a len cap zs b X
  grown : w.grownBy X (some b)
  res : One n (.slice none 0 0) X
  box : One m v X
  row : X.ownsRow (m + 1) 3 1 v k (intCs ps)
  size : ps.length = k ∧ ∀ j, j < k → 1 ≤ ps.getD j 0 ∧ ps.getD j 0 ≤ 3
  old : b < w.heap.size ∧ w.heap.size ≤ n ∧ W.heap.size ≤ w.heap.size ∧ n < m
section
variable {T : TypeId} {W : World} {a : Option Addr} {len cap : Nat} {zs : List Int} {b : Nat} {w : World} {n m k : Nat} {v : Value} {ps : List Int} {X X' : World}
theorem curS_below {w w' : World} (h : Cur T W a len cap zs b w) (hb : Below w.heap.size w w') : Cur T W a len cap zs b w' := by
  have hl := h.lt
  obtain ⟨i, x, hi, hc⟩ := h.cells
  exact ⟨h.row, h.below.trans (hb.mono h.below.size), h.ge, i, x, hi, (hb.block b hl).trans hc⟩
theorem grownS_below {w w1 w2 : World} {r : Option Nat} (h : w.grownBy w1 r) (hb : Below w1.heap.size w1 w2) : w.grownBy w2 r :=
  ⟨hb.os.trans h.os, hb.tape.trans h.tape, hb.output.trans h.output, Nat.le_trans h.size hb.size, fun k hk hn => (hb.block k (Nat.lt_of_lt_of_le hk h.size)).trans (h.block k hk hn)⟩
theorem ScSt.draw (h : ScSt T W a len cap zs b w n m k v ps X) (hc : Cur T W a len cap zs b X') (hg : X.grownBy X' (some b)) : ScSt T W a len cap zs b w n m k v ps X' := by
  obtain ⟨h1, h2, h3, h4⟩ := h.old
  exact ⟨hc, grown_trans h.grown hg, one_grown h.res hg (fun e => by injection e; omega), one_grown h.box hg (fun e => by injection e; omega), own_grownC h.row hg (fun g hg' e => by have := (h.row.lt g hg').1; injection e; omega), h.size, h.old⟩
theorem ScSt.keep (h : ScSt T W a len cap zs b w n m k v ps X) (hb : Below X.heap.size X X') : ScSt T W a len cap zs b w n m k v ps X' :=
  ⟨curS_below h.cur hb, grownS_below h.grown hb, one_keep hb h.res, one_keep hb h.box, own_below h.row hb, h.size, h.old⟩
theorem oneS_lt {W w : World} {B r : Nat} {u : Value} (hr : r < B) (hb : Below B W w) (h : One r u W) : One r u w :=
  ⟨Nat.lt_of_lt_of_le h.1 hb.size, (hb.cell (p := ⟨r, 0, none⟩) hr).trans h.2.1, fun o => (hb.frozen (p := ⟨r, o, none⟩) hr).trans (h.2.2 o)⟩
theorem intCs_snocS (ps : List Int) (x : Int) : intCs ps ++ [.int .i64 x] = intCs (ps ++ [x]) := by simp [intCs]
/-- One size more. -/
theorem ScSt.put {g1 cap1 : Nat} {x : Int} (h : ScSt T W a len cap zs b w n m k v ps X) (hb : Below (m + 1) X X') (ho : X'.ownsRow (m + 1) 3 1 (.slice (some ⟨g1, 0, none⟩) (k + 1) cap1) (k + 1) (intCs ps ++ [.int .i64 x])) (hk : k < 8) (hx : 1 ≤ x ∧ x ≤ 3) :
    ScSt T W a len cap zs b w n m (k + 1) (.slice (some ⟨g1, 0, none⟩) (k + 1) cap1) (ps ++ [x]) (X'.setCell ⟨m, 0, none⟩ (.slice (some ⟨g1, 0, none⟩) (k + 1) cap1)) := by
  obtain ⟨h1, h2, h3, h4⟩ := h.old
  have hc : Cur T W a len cap zs b X' := by
    obtain ⟨i, x, hi, hc⟩ := h.cur.cells
    exact ⟨h.cur.row, h.cur.below.trans (hb.mono (by omega)), h.cur.ge, i, x, hi, (hb.block b (by omega)).trans hc⟩
  have hg : w.grownBy X' (some b) := ⟨hb.os.trans h.grown.os, hb.tape.trans h.grown.tape, hb.output.trans h.grown.output, Nat.le_trans h.grown.size hb.size, fun j hj hn => (hb.block j (by omega)).trans (h.grown.block j hj hn)⟩
  rw [intCs_snocS] at ho
  exact ⟨hc.setOther (n := m) (by omega) (by omega) 0 _, grown_setNew hg (n := m) (by omega) 0 _, one_oth (by omega) (oneS_lt (by omega) hb h.res), one_set (oneS_lt (by omega) hb h.box), ownsRow_setCell_below ho (by simp only; omega) _, small_snoc h.size.1 hk h.size.2 hx, h.old⟩
end
/-- What l21Scale leaves. -/
def DrawnSc (T : TypeId) (W : World) (a : Option Addr) (len cap : Nat) (zs : List Int) (b : Nat) (w : World) (e : Ending) (w' : World) : Prop :=
  ∃ xs p c, SmallSc xs ∧ e = .returned (cirV (.slice p xs.length c)) ∧ w'.ownsRow w.heap.size 3 1 (.slice p xs.length c) xs.length (intCs xs) ∧ Cur T W a len cap zs b w' ∧ w.grownBy w' (some b)
theorem scSt_done {T : TypeId} {W : World} {a : Option Addr} {len cap : Nat} {zs : List Int} {b : Nat} {w : World} {n m k : Nat} {p : Option Addr} {c : Nat} {ps : List Int} {X : World} (h : ScSt T W a len cap zs b w n m k (.slice p k c) ps X) (hk : 1 ≤ k ∧ k ≤ 8) :
    ∃ Y, Y = X.setCell ⟨n, 0, none⟩ (.slice p k c) ∧ Y.cell? ⟨n, 0, none⟩ = some (.slice p k c) ∧ DrawnSc T W a len cap zs b w (.returned (cirV (.slice p k c))) Y := by
  obtain ⟨h1, h2, h3, h4⟩ := h.old
  have hl := h.size.1
  have hg := h.size.2
  refine ⟨_, rfl, (one_set h.res).2.1, ps, p, c, ⟨by omega, fun j hj => hg j (by omega)⟩, by rw [hl], ?_, h.cur.setOther (n := n) (by omega) (by omega) 0 _, grown_setNew h.grown (n := n) (by omega) 0 _⟩
  rw [hl]
  exact own_base (ownsRow_setCell_below h.row (by simp only; omega) _) (by omega)
set_option maxRecDepth 100000 in
set_option maxHeartbeats 4000000 in
theorem scale_any {W : World} {a : Option Addr} {len cap : Nat} {zs : List Int} {b : Nat} {w : World} (hc : Cur 55 W a len cap zs b w) :
    Calls Try.prog 29 #[.pointer (some ⟨b, 0, none⟩)] w (DrawnSc 55 W a len cap zs b w) := by
  obtain ⟨i0, hif, hz0, hz1, hz2⟩ := info_parts infoInt
  obtain ⟨W0, hW0⟩ : ∃ W0, W0 = w.alloc (.cells #[.slice none 0 0] 26) := ⟨_, rfl⟩
  have A0 : Below w.heap.size w W0 := by rw [hW0]; exact below_alloc1 w _
  have HC0 := Lib.hid (curS_below hc A0)
  have HC := Lib.hid hc
  have R0 : Hid (One w.heap.size (.slice none 0 0) W0) := Lib.hid (by rw [hW0]; exact one_alloc)
  have B0 := Lib.hid A0
  clear hc A0
  go_enter Try.func29, Try.ntmps29
  go_upto_region 1 with fail
  rw [← hW0]
  clear hW0
  obtain ⟨n, hn⟩ : ∃ n, n = w.heap.size := ⟨_, rfl⟩
  rw [← hn] at R0 ⊢
  have HN := Lib.hid hn
  clear hn
  go_wp2_with fail
  refine (once_any HC0.out _).mono ?_
  rintro e w1 ⟨z, rfl, hc1, hg1⟩
  have HC1 := Lib.hid hc1
  have HG1 := Lib.hid (grown_trans (grownS_below (World.grownBy.refl w (some b)) B0.out) hg1)
  have hbn : b < n := by have := HC.out.lt; have := HN.out; omega
  have R1 := Lib.hid (one_grown R0.out hg1 (fun e => by injection e; omega))
  have HS1 : n < w1.heap.size := R1.out.1
  clear hc1 hg1 R0 HC0 B0
  cases z
  · have A2 := below_alloc1 w1 (.cells #[.slice none 0 0] 26)
    obtain ⟨W2, hW2⟩ : ∃ W2, W2 = w1.alloc (.cells #[.slice none 0 0] 26) := ⟨_, rfl⟩
    rw [← hW2] at A2
    have X2 : One w1.heap.size (.slice none 0 0) W2 := by rw [hW2]; exact one_alloc
    have S2 : Hid (ScSt 55 W a len cap zs b w n w1.heap.size 0 (.slice none 0 0) [] W2) := Lib.hid ⟨curS_below HC1.out A2, grownS_below HG1.out A2, one_keep A2 R1.out, X2, World.ownsRow_nil _ _ _ _, ⟨rfl, fun j hj => by omega⟩, ⟨HC.out.lt, by have := HN.out; omega, HC.out.below.size, HS1⟩⟩
    clear A2 X2 R1 HC1 HG1
    go_upto_region 4 with fail
    rw [← hW2]
    clear hW2
    obtain ⟨m, hm⟩ : ∃ m, m = w1.heap.size := ⟨_, rfl⟩
    rw [← hm] at S2 ⊢
    clear hm HS1
    go_wp2_with fail
    refine (below_any S2.out.cur _).mono ?_
    rintro e w3 ⟨y, hy, rfl, hc3, hg3⟩
    have S3 := Lib.hid (S2.out.draw hc3 hg3)
    obtain ⟨c, rfl⟩ : ∃ c : Nat, y = (c : Int) := ⟨y.toNat, by have := hy.1; omega⟩
    have hc8 : c < 8 := by have := hy.2.2 (by omega); omega
    clear hy hc3 hg3 S2
    go_wp2_with fail
    go_loopw [5] (fun x wr => ∃ (k : Nat) (v : Value) (ps : List Int), k ≤ c + 1 ∧ x = .int .i64 (k : Int) ∧ Hid (ScSt 55 W a len cap zs b w n m k v ps wr)) (fun x _ => 9 - (intOf x).toNat)
    case atStart => exact ⟨0, _, _, Nat.zero_le _, by go_num, S3⟩
    case round =>
      clear S3
      obtain ⟨k, v, ps, hk, rfl, S4⟩ := hrel
      by_cases hlt : k < c + 1
      · have q3 : (k : Int) < 1 + (c : Int) := by omega
        have S5 := Lib.hid (S4.out.keep (below_alloc1 wr (.cells #[.int .i64 1, .int .i64 2, .int .i64 2, .int .i64 3] 3)))
        have hwb : b ≠ wr.heap.size := by have := S4.out.cur.lt; omega
        go_wp2_with fail
        refine (pickInt_any S5.out.cur wr.heap.size 4 4 [1, 2, 2, 3] 3 rfl (by omega) (by omega) hwb.symm (heap_alloc_new _ _)).mono ?_
        rintro e w6 ⟨x, hx, rfl, hc6, hg6⟩
        have S6 := Lib.hid (S5.out.draw hc6 hg6)
        have hx3 : Hid (1 ≤ x ∧ x ≤ 3) := Lib.hid (by simp only [List.mem_cons, List.not_mem_nil, or_false] at hx; omega)
        clear hx hc6 hg6 S5 S4 hwb
        obtain ⟨pv, cv, rfl⟩ := own_slice S6.out.row
        obtain ⟨_, x6, x6f⟩ := S6.out.box
        have HLT := Lib.hid hlt
        have O6 := Lib.hid S6.out.row
        have M6 : m + 1 ≤ w6.heap.size := S6.out.box.1
        clear hlt
        go_wp2_with (at_builtin; refine wpList_append_lies _ rfl (.tmp 23) (.tmp 25) 24 rfl (m + 1) 3 i0 (.int .i64 0) 1 8 Try.underlying24 hif hz0 hz1 hz2 rfl (by decide) _ k _ rfl (O6.out.alloc _) ⟨_, 0, none⟩ 1 1 _ rfl rfl (World.news_of_block (heap_alloc_new _ _)) (by simp [Value.oneCell']) (by decide) (by unfold maxLen; omega) (by omega) (by simp; omega) _ rfl ?_; intro g1 cap1 w7 hown' hgrow hat hgt; obtain ⟨_, y7, y7f⟩ := one_grown (one_al S6.out.box) hgrow (fun e => by have := (O6.out.lt _ e).1; omega))
        have B7 : Below (m + 1) w6 w7 := (((below_alloc1 w6 _).mono M6).grown hgrow (by simp; omega) (fun j hj => (O6.out.lt j hj).1))
        have S7 := Lib.hid (S6.out.put B7 hown' (by have := HLT.out; omega) hx3.out)
        clear hown' hgrow hat hgt S6 O6 x6 x6f B7
        go_wp2_with fail
        go_roundw
        case rel => exact ⟨k + 1, _, _, HLT.out, by go_num, S7⟩
        case measure => simp [intOf]; have := HLT.out; omega
      · have q3 : ¬ (k : Int) < 1 + (c : Int) := by omega
        obtain rfl : k = c + 1 := by omega
        obtain ⟨pv, cv, rfl⟩ := own_slice S4.out.row
        obtain ⟨_, x4, _⟩ := S4.out.box
        obtain ⟨_, r4, r4f⟩ := S4.out.res
        obtain ⟨Y, hY, y1, hD⟩ := scSt_done S4.out ⟨by omega, by omega⟩
        clear S4
        go_wp2_with fail
        rw [← hY]
        exact bodyPost_ret (v := cirV (.slice pv (c + 1) cv)) (by simp [results, Try.results29, go_sem, y1]) rfl hD
  · go_wp2_with fail
    refine (major_spec _).mono ?_
    rintro e w2 ⟨v, rfl, o2, b2⟩
    have o2' : w2.ownsRow w1.heap.size 3 1 v 7 (intCs majL) := o2
    obtain ⟨pv, cv, rfl⟩ := own_slice o2'
    have R2 := Lib.hid (one_keep b2 R1.out)
    obtain ⟨_, r2, r2f⟩ := R2.out
    have HC2 := Lib.hid (curS_below HC1.out b2)
    have HG2 := Lib.hid (grownS_below HG1.out b2)
    obtain ⟨Y, hY⟩ : ∃ Y, Y = w2.setCell ⟨n, 0, none⟩ (.slice pv 7 cv) := ⟨_, rfl⟩
    have y1 : Y.cell? ⟨n, 0, none⟩ = some (.slice pv 7 cv) := by rw [hY]; exact (one_set R2.out).2.1
    have hD : DrawnSc 55 W a len cap zs b w (.returned (cirV (.slice pv 7 cv))) Y := by
      rw [hY]
      have hw : W.heap.size ≤ n := by have := HC.out.below.size; have := HN.out; omega
      refine ⟨majL, pv, cv, maj_small, rfl, own_base (ownsRow_setCell_below o2' (a := ⟨n, 0, none⟩) (by simp only; omega) _) (by have := HN.out; omega), HC2.out.setOther (n := n) (by omega) hw 0 _, grown_setNew HG2.out (n := n) (by have := HN.out; omega) 0 _⟩
    clear o2 o2' b2 R1 R2 HC1 HG1 HC2 HG2
    go_wp2_with fail
    rw [← hY]
    exact bodyPost_ret (v := cirV (.slice pv 7 cv)) (by simp [results, Try.results29, go_sem, y1]) rfl hD
/-- What DrawScale leaves. -/
def DrawnScale (W : World) (e : Ending) (w' : World) : Prop :=
  ∃ xs p c, SmallSc xs ∧ e = .returned (cirV (.slice p xs.length c)) ∧ w'.ownsRow W.heap.size 3 1 (.slice p xs.length c) xs.length (intCs xs) ∧ Below W.heap.size W w'
set_option maxHeartbeats 1000000 in
theorem drawScale_any {W : World} {a : Option Addr} {len cap : Nat} {zs : List Int} (hr : IsRow .u8 W a len cap zs) :
    Calls Try.prog 9 #[.slice a len cap] W (DrawnScale W) := by
  have HR := Lib.hid hr
  clear hr
  go_enter Try.func9, Try.ntmps9
  go_wp2_with fail
  refine (new_any (HR.out.below (below_alloc1 W _))).mono ?_
  rintro e w1 ⟨b, rfl, hc1⟩
  have HC := Lib.hid hc1
  clear hc1
  go_wp2_with fail
  refine (scale_any HC.out).mono ?_
  rintro e w2 ⟨xs, p, c, ok, rfl, o2, hc2, hg2⟩
  have hz : (W.alloc (.cells #[.slice none 0 0] 26)).heap.size = W.heap.size + 1 := by simp
  have X2 := Lib.hid (one_keep hc2.below (one_alloc (w := W) (v := .slice none 0 0) (t := 26)))
  have B2 := Lib.hid ((below_alloc1 W (.cells #[.slice none 0 0] 26)).trans (hc2.below.mono (by simp)))
  have M2 : W.heap.size < w1.heap.size := by have := HC.out.below.size; rw [hz] at this; omega
  have OK := Lib.hid ok
  obtain ⟨l, hl⟩ : ∃ l, l = xs.length := ⟨_, rfl⟩
  have O2 := Lib.hid (ownsRow_setCell_below o2 (a := ⟨W.heap.size, 0, none⟩) M2 (.slice p xs.length c))
  rw [← hl] at O2 ⊢
  have HL := Lib.hid hl
  obtain ⟨_, y1, yf⟩ := X2.out
  obtain ⟨_, x1, _⟩ := one_set (u := .slice p l c) X2.out
  clear ok o2 hc2 hg2 hz hl
  go_wp2_with fail
  exact bodyPost_ret (v := cirV (.slice p l c)) (by simp [results, Try.results9, go_sem, x1]) rfl ⟨xs, p, c, OK.out, by rw [HL.out], by rw [← HL.out]; exact own_base O2.out (by omega), B2.out.setCell (Nat.le_refl _) _⟩
end Go.Proofs.Ytppbcjpabmllnaa
