/- Contracts of spec.l09Map and spec.DrawMaps. -/
import Derived.Test.YtfhefakacjkmiaaDoorCurWalks
import Derived.Test.YtfhefakacjkmiaaDoorBestMap
import Derived.Test.YtfhefakacjkmiaaDoorDrawTone
import Derived.Deep.DeepCutAuto
namespace Go.Proofs.YtfhefakacjkmiaaDoor
open Go.RowKit Go.Joins
set_option linter.unusedVariables false
/-- A drawn map's numbers: those of a best map, but for the last one, which may be more by 1 or 2. -/
def MI (a b c : Int) : Prop := 1 ≤ a ∧ a ≤ 24 ∧ 0 ≤ b ∧ b ≤ 96 ∧ 0 ≤ c ∧ c ≤ 143 ∧ ∃ k, BestAt a a b k ∧ k ≤ c ∧ c ≤ k + 2
theorem mi_ok {a b c : Int} (h : MI a b c) : okM a b c = true := by
  obtain ⟨h1, h2, h3, h4, h5, h6, _⟩ := h
  exact okM_mk ⟨h1, by omega, h3, by omega, h5, by omega⟩
def DrawnMap (T : TypeId) (W : World) (a : Option Addr) (len cap : Nat) (zs : List Int) (b : Nat) (w : World) (e : Ending) (w' : World) : Prop :=
  ∃ p q r : Int, MI p q r ∧ e = .returned (mapV p q r) ∧ Cur T W a len cap zs b w' ∧ w.grownBy w' (some b)
theorem cur_below {T : TypeId} {W : World} {a : Option Addr} {len cap : Nat} {zs : List Int} {b : Nat} {w w' : World} (h : Cur T W a len cap zs b w) (hb : Below w.heap.size w w') : Cur T W a len cap zs b w' := by
  have hl := h.lt
  obtain ⟨i, x, hi, hc⟩ := h.cells
  exact ⟨h.row, h.below.trans (hb.mono h.below.size), h.ge, i, x, hi, (hb.block b hl).trans hc⟩
theorem cur_drew {T : TypeId} {W : World} {a : Option Addr} {len cap : Nat} {zs : List Int} {b : Nat} {w : World} (h : Cur T W a len cap zs b w) : Cur T W a len cap zs b w.drew := ⟨h.row, h.below.drew, h.ge, h.cells⟩
theorem grown_below {w w1 w2 : World} {r : Option Nat} (h : w.grownBy w1 r) (hb : Below w1.heap.size w1 w2) : w.grownBy w2 r :=
  ⟨hb.os.trans h.os, hb.tape.trans h.tape, hb.output.trans h.output, Nat.le_trans h.size hb.size, fun k hk hn => (hb.block k (Nat.lt_of_lt_of_le hk h.size)).trans (h.block k hk hn)⟩
theorem grown_drew1 {w w' : World} {r : Option Nat} (h : w.drew.grownBy w' r) : w.grownBy w' r := ⟨h.os, h.tape, h.output, h.size, h.block⟩
/-- A map lies at block m and may be written. -/
def Wri (m : Nat) (p q r : Int) (w : World) : Prop := Tri m p q r w ∧ ∀ o, w.frozen? ⟨m, o, none⟩ = false
theorem wri_alloc {w : World} {p q r : Int} {t : TypeId} : Wri w.heap.size p q r (w.alloc (.cells #[.int .i64 p, .int .i64 q, .int .i64 r] t)) := ⟨tri_alloc, fun o => by simp [go_sem]⟩
theorem wri_below {W w : World} {m : Nat} {p q r : Int} (hb : Below W.heap.size W w) (h : Wri m p q r W) : Wri m p q r w :=
  ⟨tri_keep hb h.1, fun o => (hb.frozen (p := ⟨m, o, none⟩) h.1.1).trans (h.2 o)⟩
theorem wri_al {w : World} {m : Nat} {p q r : Int} {o : Obj} (h : Wri m p q r w) : Wri m p q r (w.alloc o) := wri_below ((Below.refl _ _).alloc (Nat.le_refl _) o) h
theorem wri_drew {w : World} {m : Nat} {p q r : Int} (h : Wri m p q r w) : Wri m p q r w.drew := h
theorem wri_grown {w w' : World} {m b : Nat} {p q r : Int} (hg : w.grownBy w' (some b)) (hm : m ≠ b) (h : Wri m p q r w) : Wri m p q r w' := by
  have e := hg.block m h.1.1 (fun e => hm (by injection e))
  exact ⟨⟨Nat.lt_of_lt_of_le h.1.1 hg.size, (World.cell?_of_block (a := ⟨m, 0, none⟩) e).trans h.1.2.1, (World.cell?_of_block (a := ⟨m, 1, none⟩) e).trans h.1.2.2.1, (World.cell?_of_block (a := ⟨m, 2, none⟩) e).trans h.1.2.2.2⟩, fun o => (World.frozen?_of_block (a := ⟨m, o, none⟩) e).trans (h.2 o)⟩
theorem wri_set2 {w : World} {m : Nat} {p q r s : Int} (h : Wri m p q r w) : Wri m p q s (w.setCell ⟨m, 2, none⟩ (.int .i64 s)) := by
  obtain ⟨⟨hm, z0, z1, z2⟩, zf⟩ := h
  exact ⟨⟨by simpa using hm, by simp [go_sem, z0], by simp [go_sem, z1], by simp [go_sem, z2]⟩, fun o => by simp [go_sem, zf]⟩
theorem wri_other {w : World} {n m j : Nat} {p q r : Int} {v : Value} (hn : n ≠ m) (h : Wri n p q r w) : Wri n p q r (w.setCell ⟨m, j, none⟩ v) := by
  have e := Below.heap_setCell w ⟨m, j, none⟩ v n hn
  exact ⟨⟨by have := h.1.1; simpa using this, (World.cell?_of_block (a := ⟨n, 0, none⟩) e).trans h.1.2.1, (World.cell?_of_block (a := ⟨n, 1, none⟩) e).trans h.1.2.2.1, (World.cell?_of_block (a := ⟨n, 2, none⟩) e).trans h.1.2.2.2⟩, fun o => (World.frozen?_of_block (a := ⟨n, o, none⟩) e).trans (h.2 o)⟩
/-- The drawn map is stored into the result's block. -/
theorem map_store {T : TypeId} {W : World} {a : Option Addr} {len cap : Nat} {zs : List Int} {b z : Nat} {w w6 : World} {p q r : Int} (hC : Cur T W a len cap zs b w6) (hG : w.grownBy w6 (some b)) (hz : Tri z 0 0 0 w6) (hzb : z ≠ b) (hzW : W.heap.size ≤ z) (hzw : w.heap.size ≤ z) :
    ∃ X, X = (((w6.setCell ⟨z, 0, none⟩ (.int .i64 p)).setCell ⟨z, 1, none⟩ (.int .i64 q)).setCell ⟨z, 2, none⟩ (.int .i64 r)) ∧ Tri z p q r X ∧ Cur T W a len cap zs b X ∧ w.grownBy X (some b) :=
  ⟨_, rfl, tri_set hz, ((hC.setOther hzb hzW _ _).setOther hzb hzW _ _).setOther hzb hzW _ _, grown_setNew (grown_setNew (grown_setNew hG hzw _ _) hzw _ _) hzw _ _⟩
set_option maxHeartbeats 2000000 in
theorem map_any {W : World} {a : Option Addr} {len cap : Nat} {zs : List Int} {b : Nat} {w : World} (hc : Cur 77 W a len cap zs b w) :
    Calls Tryd.prog 29 #[.pointer (some ⟨b, 0, none⟩)] w (DrawnMap 77 W a len cap zs b w) := by
  have hnb : w.heap.size ≠ b := by have := hc.lt; omega
  have hW : W.heap.size ≤ w.heap.size := hc.below.size
  have HC := Lib.hid hc
  have HW := Lib.hid hW
  have HNB := Lib.hid hnb
  clear hc hW hnb
  go_enter Tryd.func29, Tryd.ntmps29
  go_wp2_with fail
  refine (below_any (HC.out.alloc _) _).mono ?_
  rintro e w1 ⟨x1, hx1, rfl, hc1, hg1⟩
  have k1 : 0 ≤ x1 ∧ x1 < 24 := ⟨hx1.1, hx1.2.2 (by omega)⟩
  obtain ⟨k10, k11⟩ := k1
  have Z1 := Lib.hid (wri_grown hg1 HNB.out (wri_alloc (w := w) (p := 0) (q := 0) (r := 0) (t := 25)))
  have HC1 := Lib.hid hc1
  have HG1 := Lib.hid (grown_alloc_first hg1)
  clear hx1 hc1 hg1 HC
  obtain ⟨p, q, r, hbest⟩ := bestAt_ex (1 + x1)
  obtain ⟨i1, ⟨i2, i3⟩, i4, i5⟩ := best_okM hbest (by omega)
  have MM : Hid (∀ y : Int, 0 ≤ y → y < 3 → MI p q (r + y)) := Lib.hid (fun y y0 y1 => ⟨by omega, by omega, i2, i3, by omega, by omega, r, by rw [i1]; rw [i1] at hbest; exact hbest, by omega, by omega⟩)
  have M0 : Hid (MI p q r) := Lib.hid ⟨by omega, by omega, i2, i3, by omega, by omega, r, by rw [i1]; rw [i1] at hbest; exact hbest, by omega, by omega⟩
  have HB := Lib.hid hbest
  clear hbest i1
  go_wp2_with fail
  refine (best_spec HB.out _).mono ?_
  rintro e w2 ⟨rfl, hb2⟩
  have Z2 := Lib.hid (wri_al (o := .cells #[.int .i64 p, .int .i64 q, .int .i64 r] 25) (wri_below hb2 Z1.out))
  have HC2 := Lib.hid ((cur_below HC1.out hb2).alloc (.cells #[.int .i64 p, .int .i64 q, .int .i64 r] 25))
  have HG2 := Lib.hid (grown_below (grown_below HG1.out hb2) (below_alloc1 w2 (.cells #[.int .i64 p, .int .i64 q, .int .i64 r] 25)))
  have T2 := Lib.hid (wri_alloc (w := w2) (p := p) (q := q) (r := r) (t := 25))
  have HM2 : Hid (w2.heap.size ≠ b ∧ W.heap.size ≤ w2.heap.size ∧ w.heap.size ≤ w2.heap.size ∧ w.heap.size ≠ w2.heap.size) := Lib.hid (by
    have h1 := (cur_below HC1.out hb2).lt
    have h2 := (cur_below HC1.out hb2).below.size
    have h3 := (grown_below HG1.out hb2).size
    have h4 := (wri_below hb2 Z1.out).1.1
    exact ⟨by omega, h2, h3, by omega⟩)
  clear hb2 HC1 HG1 Z1
  go_upto_region 2 with fail
  obtain ⟨W2, hW2⟩ : ∃ X, X = w2.alloc (.cells #[.int .i64 p, .int .i64 q, .int .i64 r] 25) := ⟨_, rfl⟩
  rw [← hW2] at Z2 HC2 HG2 T2 ⊢
  clear hW2
  generalize w2.heap.size = m at T2 HM2 ⊢
  generalize hz : w.heap.size = z at *
  go_wp2_with fail
  refine (once_any HC2.out _).mono ?_
  rintro e w3 ⟨x, rfl, hc3, hg3⟩
  have Z3 := Lib.hid (wri_grown hg3 HNB.out Z2.out)
  have T3 := Lib.hid (wri_grown hg3 HM2.out.1 T2.out)
  have HC3 := Lib.hid hc3
  have HG3 := Lib.hid (grown_trans HG2.out hg3)
  clear hc3 hg3 Z2 T2 HC2 HG2
  cases x
  · obtain ⟨⟨tm, t0, t1, t2⟩, tf⟩ := T3.out
    obtain ⟨⟨zm, z0, z1, z2⟩, zf⟩ := Z3.out
    go_wp2_with fail
    obtain ⟨X, hX, ⟨xm, x0, x1, x2⟩, hC, hG⟩ := map_store (p := p) (q := q) (r := r) HC3.out HG3.out ⟨zm, z0, z1, z2⟩ HNB.out HW.out (by omega)
    rw [← hX]
    exact bodyPost_ret (v := mapV p q r) (by simp [results, Tryd.results29, go_sem, x0, x1, x2]) rfl ⟨_, _, _, M0.out, rfl, hC, hG⟩
  · obtain ⟨⟨tm, t0, t1, t2⟩, tf⟩ := T3.out
    go_upto_region 3 with fail
    go_region_with (go_at_call 53; refine (below_any (cur_drew HC3.out) _).mono ?_; rintro e5 w5 ⟨y, hy, rfl, hc5, hg5⟩; obtain ⟨⟨sm, s0, s1, s2⟩, sf⟩ := wri_grown hg5 HM2.out.1 (wri_drew T3.out))
    all_goals
      have y0 := hy.1
      have y1 : y < 3 := hy.2.2 (by omega)
      have T5 := Lib.hid (wri_set2 (s := r + y) (wri_grown hg5 HM2.out.1 (wri_drew T3.out)))
      have Z5 := Lib.hid (wri_other (j := 2) (v := .int .i64 (r + y)) HM2.out.2.2.2 (wri_grown hg5 HNB.out (wri_drew Z3.out)))
      have HC5 := Lib.hid (hc5.setOther HM2.out.1 HM2.out.2.1 2 (.int .i64 (r + y)))
      have HG5 := Lib.hid (grown_setNew (grown_trans HG3.out (grown_drew1 hg5)) (hz ▸ HM2.out.2.2.1) 2 (.int .i64 (r + y)))
      have M5 := Lib.hid (MM.out y y0 y1)
      clear hg5 hc5 hy
      clear s0 s1 s2 sm sf t0 t1 t2 tm tf
      go_upto_region 4 with fail
      rw [show IntKind.i64.wrap (r + y) = r + y from IntWalk.i64_in _ (by omega)]
      obtain ⟨W5, hW⟩ : ∃ X, X = w5.setCell ⟨m, 2, none⟩ (.int .i64 (r + y)) := ⟨_, rfl⟩
      rw [← hW] at T5 Z5 HC5 HG5 ⊢
      clear hW
      obtain ⟨⟨tm, t0, t1, t2⟩, tf⟩ := T5.out
      obtain ⟨⟨zm, z0, z1, z2⟩, zf⟩ := Z5.out
      go_wp2_with fail
      obtain ⟨X, hX, ⟨xm, x0, x1, x2⟩, hC, hG⟩ := map_store (p := p) (q := q) (r := r + y) HC5.out HG5.out ⟨zm, z0, z1, z2⟩ HNB.out HW.out (by omega)
      rw [← hX]
      exact bodyPost_ret (v := mapV p q (r + y)) (by simp [results, Tryd.results29, go_sem, x0, x1, x2]) rfl ⟨_, _, _, M5.out, rfl, hC, hG⟩
/-- Two drawn maps. -/
def DrawnMaps (w : World) (e : Ending) (w' : World) : Prop :=
  ∃ p q r p' q' r' : Int, MI p q r ∧ MI p' q' r' ∧ e = .returned (.tuple #[mapV p q r, mapV p' q' r']) ∧ Below w.heap.size w w'
theorem heap_cells3 {w : World} {n : Nat} {x y z : Int} {T : TypeId} (h : w.heap[n]? = some (.cells #[.int .i64 x, .int .i64 y, .int .i64 z] T (0, 0))) : Wri n x y z w :=
  ⟨⟨lt_of_block h, by rw [cell_of_row w n 0 _ T _ h]; rfl, by rw [cell_of_row w n 1 _ T _ h]; rfl, by rw [cell_of_row w n 2 _ T _ h]; rfl⟩, fun o => frozen_of_row w n o _ T h⟩
theorem heap_new2a (w : World) (o1 o2 : Obj) : ((w.alloc o1).alloc o2).heap[w.heap.size]? = some o1 :=
  (Below.heap_alloc _ o2 _ (by simp)).trans (heap_alloc_new w o1)
theorem heap_new2b (w : World) (o1 o2 : Obj) : ((w.alloc o1).alloc o2).heap[w.heap.size + 1]? = some o2 := by
  have h := heap_alloc_new (w.alloc o1) o2
  simpa using h
theorem row_below2 {W : World} {k : IntKind} {a : Option Addr} {len cap : Nat} {zs : List Int} (h : IsRow k W a len cap zs) {o1 o2 : Obj} : IsRow k ((W.alloc o1).alloc o2) a len cap zs := h.below (below_alloc2 W _ _)
set_option maxHeartbeats 2000000 in
theorem drawMaps_any {W : World} {a : Option Addr} {len cap : Nat} {zs : List Int} (hr : IsRow .u8 W a len cap zs) :
    Calls Tryd.prog 8 #[.slice a len cap] W (DrawnMaps W) := by
  have HR := Lib.hid hr
  clear hr
  go_enter Tryd.func8, Tryd.ntmps8
  go_wp2_with fail
  refine (new_any (row_below2 HR.out)).mono ?_
  rintro e w1 ⟨b, rfl, hc1⟩
  have HC1 := Lib.hid hc1
  clear hc1
  go_wp2_with fail
  refine (map_any HC1.out).mono ?_
  rintro e w2 ⟨p, q, r, ht1, rfl, hc2, _⟩
  have HC2 := Lib.hid hc2
  have HT1 := Lib.hid ht1
  clear hc2 HC1 ht1
  go_wp2_with fail
  refine (map_any HC2.out).mono ?_
  rintro e w3 ⟨p', q', r', ht2, rfl, hc3, _⟩
  have HT2 := Lib.hid ht2
  have hb := hc3.below
  obtain ⟨F1, f1⟩ := heap_cells3 ((hb.block W.heap.size (by simp; omega)).trans (heap_new2a W _ _))
  obtain ⟨F2, f2⟩ := heap_cells3 ((hb.block (W.heap.size + 1) (by simp)).trans (heap_new2b W _ _))
  have K1 := Lib.hid F1
  have K2 := Lib.hid F2
  have HB := Lib.hid (Below.trans (below_alloc2 W _ _) (hb.mono (by simp; omega)))
  clear hc3 HC2 ht2 hb
  obtain ⟨q9, q0, q1, q2⟩ := F1
  obtain ⟨r9, r0, r1, r2⟩ := F2
  go_wp2_with fail
  have G1 := tri_other (n := W.heap.size) (m := W.heap.size + 1) (v0 := .int .i64 p') (v1 := .int .i64 q') (v2 := .int .i64 r') (by omega) (tri_set (p' := p) (q' := q) (r' := r) K1.out)
  have G2 := tri_set (p' := p') (q' := q') (r' := r') (tri_other (n := W.heap.size + 1) (m := W.heap.size) (v0 := .int .i64 p) (v1 := .int .i64 q) (v2 := .int .i64 r) (by omega) K2.out)
  have BF := below_set3 (m := W.heap.size + 1) (v0 := .int .i64 p') (v1 := .int .i64 q') (v2 := .int .i64 r') (by omega) (below_set3 (m := W.heap.size) (v0 := .int .i64 p) (v1 := .int .i64 q) (v2 := .int .i64 r) (by omega) HB.out)
  clear q0 q1 q2 q9 r0 r1 r2 r9 f1 f2 K1 K2 HB
  generalize hwf : World.setCell _ ⟨W.heap.size + 1, 2, none⟩ _ = wf at G1 G2 BF ⊢
  clear hwf
  obtain ⟨_, q0, q1, q2⟩ := G1
  obtain ⟨_, r0, r1, r2⟩ := G2
  exact bodyPost_ret (v := .tuple #[mapV p q r, mapV p' q' r']) (by simp [results, Tryd.results8, go_sem, q0, q1, q2, r0, r1, r2]) rfl ⟨_, _, _, _, _, _, HT1.out, HT2.out, rfl, BF⟩
end Go.Proofs.YtfhefakacjkmiaaDoor
