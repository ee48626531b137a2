/- Contracts of spec.l17Pitch and spec.DrawPitches. -/
import Derived.Test.YtgoaofkbegfinaaDrawTone
import Derived.Test.YtgoaofkbegfinaaSPitch
namespace Go.Proofs.Ytgoaofkbegfinaa
open Go.RowKit Go.Joins
set_option linter.unusedVariables false
theorem cur_belowP {T : TypeId} {W : World} {a : Option Addr} {len cap : Nat} {zs : List Int} {b : Nat} {w w' : World} (h : Cur T W a len cap zs b w) (hb : Below w.heap.size w w') : Cur T W a len cap zs b w' := by
  have hl := h.lt
  obtain ⟨i, x, hi, hc⟩ := h.cells
  exact ⟨h.row, h.below.trans (hb.mono h.below.size), h.ge, i, x, hi, (hb.block b hl).trans hc⟩
theorem grown_belowP {w w1 w2 : World} {r : Option Nat} (h : w.grownBy w1 r) (hb : Below w1.heap.size w1 w2) : w.grownBy w2 r :=
  ⟨hb.os.trans h.os, hb.tape.trans h.tape, hb.output.trans h.output, Nat.le_trans h.size hb.size, fun k hk hn => (hb.block k (Nat.lt_of_lt_of_le hk h.size)).trans (h.block k hk hn)⟩
theorem drp_of {n d p q : Int} {z : Bool} (hn : 100 ≤ n ∧ n ≤ 999) (hd : 1 ≤ d ∧ d ≤ 4) (h : MakeAt n d p q z) : z = true ∧ DrP p q := by
  obtain ⟨_, _, ⟨q1, q2⟩, hg⟩ := gcd_facts (n := n) (d := d) (by omega) (by omega)
  have u1 : n / gcdI n d ≤ n := Int.ediv_le_self _ (by omega)
  have u2 : d / gcdI n d ≤ d := Int.ediv_le_self _ (by omega)
  have ok : MkOk n d := ⟨⟨⟨by omega, by omega⟩, by omega, by omega⟩, ⟨⟨by omega, by omega⟩, by omega, by omega⟩, hg⟩
  rcases h with ⟨_, rfl, rfl, rfl⟩ | ⟨h, _⟩
  · exact ⟨rfl, ok.2, by omega, by omega⟩
  · exact absurd ok h
def DrawnPitch (T : TypeId) (W : World) (a : Option Addr) (len cap : Nat) (zs : List Int) (b : Nat) (w : World) (e : Ending) (w' : World) : Prop :=
  ∃ p q : Int, DrP p q ∧ e = .returned (pchV p q) ∧ Cur T W a len cap zs b w' ∧ w.grownBy w' (some b)
/-- A pitch lies at block m and may be written. -/
def Wri2 (m : Nat) (p q : Int) (w : World) : Prop := Duo m p q w ∧ ∀ o, w.frozen? ⟨m, o, none⟩ = false
theorem wri2_alloc {w : World} {p q : Int} {t : TypeId} : Wri2 w.heap.size p q (w.alloc (.cells #[.int .i64 p, .int .i64 q] t)) := ⟨duo_alloc, fun o => by simp [go_sem]⟩
theorem wri2_below {W w : World} {m : Nat} {p q : Int} (hb : Below W.heap.size W w) (h : Wri2 m p q W) : Wri2 m p q w := ⟨duo_keep hb h.1, fun o => (hb.frozen (p := ⟨m, o, none⟩) h.1.1).trans (h.2 o)⟩
theorem wri2_al {w : World} {m : Nat} {p q : Int} {o : Obj} (h : Wri2 m p q w) : Wri2 m p q (w.alloc o) := wri2_below ((Below.refl _ _).alloc (Nat.le_refl _) o) h
theorem wri2_grown {w w' : World} {m b : Nat} {p q : Int} (hg : w.grownBy w' (some b)) (hm : m ≠ b) (h : Wri2 m p q w) : Wri2 m p q w' := by
  have e := hg.block m h.1.1 (fun e => hm (by injection e))
  exact ⟨⟨Nat.lt_of_lt_of_le h.1.1 hg.size, (World.cell?_of_block (a := ⟨m, 0, none⟩) e).trans h.1.2.1, (World.cell?_of_block (a := ⟨m, 1, none⟩) e).trans h.1.2.2⟩, fun o => (World.frozen?_of_block (a := ⟨m, o, none⟩) e).trans (h.2 o)⟩
theorem pitch_store {T : TypeId} {W : World} {a : Option Addr} {len cap : Nat} {zs : List Int} {b z : Nat} {w w6 : World} {p q : Int} (hC : Cur T W a len cap zs b w6) (hG : w.grownBy w6 (some b)) (hz : Duo z 0 0 w6) (hzb : z ≠ b) (hzW : W.heap.size ≤ z) (hzw : w.heap.size ≤ z) :
    ∃ X, X = ((w6.setCell ⟨z, 0, none⟩ (.int .i64 p)).setCell ⟨z, 1, none⟩ (.int .i64 q)) ∧ Duo z p q X ∧ Cur T W a len cap zs b X ∧ w.grownBy X (some b) :=
  ⟨_, rfl, duo_set hz, (hC.setOther hzb hzW _ _).setOther hzb hzW _ _, grown_setNew (grown_setNew hG hzw _ _) hzw _ _⟩
set_option maxHeartbeats 2000000 in
theorem pitch_any {W : World} {a : Option Addr} {len cap : Nat} {zs : List Int} {b : Nat} {w : World} (hc : Cur 56 W a len cap zs b w) :
    Calls Try.prog 23 #[.pointer (some ⟨b, 0, none⟩)] w (DrawnPitch 56 W a len cap zs b w) := by
  have hnb : w.heap.size ≠ b := by have := hc.lt; omega
  have hW : W.heap.size ≤ w.heap.size := hc.below.size
  have HC := Lib.hid hc
  have HW := Lib.hid hW
  have HNB := Lib.hid hnb
  clear hc hW hnb
  go_enter Try.func23, Try.ntmps23
  go_wp2_with fail
  refine (below_any (HC.out.alloc _) _).mono ?_
  rintro e w1 ⟨x1, hx1, rfl, hc1, hg1⟩
  have k1 : 0 ≤ x1 ∧ x1 < 900 := ⟨hx1.1, hx1.2.2 (by omega)⟩
  obtain ⟨k10, k11⟩ := k1
  have Z1 := Lib.hid (wri2_grown hg1 HNB.out (wri2_alloc (w := w) (p := 0) (q := 0) (t := 25)))
  have HC1 := Lib.hid hc1
  have HG1 := Lib.hid (grown_alloc_first hg1)
  clear hx1 hc1 hg1 HC
  go_wp2_with fail
  refine (below_any HC1.out _).mono ?_
  rintro e w2 ⟨x2, hx2, rfl, hc2, hg2⟩
  have k2 : 0 ≤ x2 ∧ x2 < 4 := ⟨hx2.1, hx2.2.2 (by omega)⟩
  obtain ⟨k20, k21⟩ := k2
  have Z2 := Lib.hid (wri2_grown hg2 HNB.out Z1.out)
  have HC2 := Lib.hid hc2
  have HG2 := Lib.hid (grown_trans HG1.out hg2)
  clear hx2 hc2 hg2 HC1 HG1 Z1
  obtain ⟨p, q, z, hf⟩ := make_ex (100 + x1) (1 + x2)
  obtain ⟨hz, hd⟩ := drp_of (by omega) (by omega) hf
  subst hz
  have HD := Lib.hid hd
  have MK := Lib.hid (fun w => make_spec hf w)
  clear hf hd
  go_wp2_with fail
  refine (MK.out _).mono ?_
  rintro e w3 ⟨rfl, hb3⟩
  have Z3 := Lib.hid (wri2_al (o := .cells #[.int .i64 p, .int .i64 q] 25) (wri2_below hb3 Z2.out))
  have HC3 := Lib.hid ((cur_belowP HC2.out hb3).alloc (.cells #[.int .i64 p, .int .i64 q] 25))
  have HG3 := Lib.hid (grown_belowP (grown_belowP HG2.out hb3) (below_alloc1 w3 (.cells #[.int .i64 p, .int .i64 q] 25)))
  have T3 := Lib.hid (wri2_alloc (w := w3) (p := p) (q := q) (t := 25))
  clear hb3 HC2 HG2 Z2
  go_upto_region 2 with fail
  obtain ⟨W3, hW3⟩ : ∃ X, X = w3.alloc (.cells #[.int .i64 p, .int .i64 q] 25) := ⟨_, rfl⟩
  rw [← hW3] at Z3 HC3 HG3 T3 ⊢
  clear hW3
  generalize w3.heap.size = m at T3 ⊢
  generalize hz : w.heap.size = z at *
  obtain ⟨⟨tm, t0, t1⟩, tf⟩ := T3.out
  obtain ⟨⟨zm, z0, z1⟩, zf⟩ := Z3.out
  go_wp2_with fail
  obtain ⟨X, hX, ⟨xm, x0, x1⟩, hC, hG⟩ := pitch_store (p := p) (q := q) HC3.out HG3.out ⟨zm, z0, z1⟩ HNB.out HW.out (by omega)
  rw [← hX]
  exact bodyPost_ret (v := pchV p q) (by simp [results, Try.results23, go_sem, x0, x1]) rfl ⟨_, _, HD.out, rfl, hC, hG⟩
/-- Two drawn pitches. -/
def DrawnPitches (w : World) (e : Ending) (w' : World) : Prop :=
  ∃ p q p' q' : Int, DrP p q ∧ DrP p' q' ∧ e = .returned (.tuple #[pchV p q, pchV p' q']) ∧ Below w.heap.size w w'
theorem heap_cells2 {w : World} {n : Nat} {x y : Int} {T : TypeId} (h : w.heap[n]? = some (.cells #[.int .i64 x, .int .i64 y] T (0, 0))) : Wri2 n x y w :=
  ⟨⟨lt_of_block h, by rw [cell_of_row w n 0 _ T _ h]; rfl, by rw [cell_of_row w n 1 _ T _ h]; rfl⟩, fun o => frozen_of_row w n o _ T h⟩
theorem heap_newP1 (w : World) (o1 o2 : Obj) : ((w.alloc o1).alloc o2).heap[w.heap.size]? = some o1 := (Below.heap_alloc _ o2 _ (by simp)).trans (heap_alloc_new w o1)
theorem heap_newP2 (w : World) (o1 o2 : Obj) : ((w.alloc o1).alloc o2).heap[w.heap.size + 1]? = some o2 := by
  have h := heap_alloc_new (w.alloc o1) o2
  simpa using h
theorem row_belowP {W : World} {k : IntKind} {a : Option Addr} {len cap : Nat} {zs : List Int} (h : IsRow k W a len cap zs) {o1 o2 : Obj} : IsRow k ((W.alloc o1).alloc o2) a len cap zs := h.below (below_alloc2 W _ _)
set_option maxHeartbeats 2000000 in
theorem drawPitches_any {W : World} {a : Option Addr} {len cap : Nat} {zs : List Int} (hr : IsRow .u8 W a len cap zs) :
    Calls Try.prog 9 #[.slice a len cap] W (DrawnPitches W) := by
  have HR := Lib.hid hr
  clear hr
  go_enter Try.func9, Try.ntmps9
  go_wp2_with fail
  refine (new_any (row_belowP HR.out)).mono ?_
  rintro e w1 ⟨b, rfl, hc1⟩
  have HC1 := Lib.hid hc1
  clear hc1
  go_wp2_with fail
  refine (pitch_any HC1.out).mono ?_
  rintro e w2 ⟨p, q, ht1, rfl, hc2, _⟩
  have HC2 := Lib.hid hc2
  have HT1 := Lib.hid ht1
  clear hc2 HC1 ht1
  go_wp2_with fail
  refine (pitch_any HC2.out).mono ?_
  rintro e w3 ⟨p', q', ht2, rfl, hc3, _⟩
  have HT2 := Lib.hid ht2
  have hb := hc3.below
  obtain ⟨F1, f1⟩ := heap_cells2 ((hb.block W.heap.size (by simp; omega)).trans (heap_newP1 W _ _))
  obtain ⟨F2, f2⟩ := heap_cells2 ((hb.block (W.heap.size + 1) (by simp)).trans (heap_newP2 W _ _))
  have K1 := Lib.hid F1
  have K2 := Lib.hid F2
  have HB := Lib.hid (Below.trans (below_alloc2 W _ _) (hb.mono (by simp; omega)))
  clear hc3 HC2 ht2 hb
  obtain ⟨q9, q0, q1⟩ := F1
  obtain ⟨r9, r0, r1⟩ := F2
  go_wp2_with fail
  have G1 := duo_other (n := W.heap.size) (m := W.heap.size + 1) (v0 := .int .i64 p') (v1 := .int .i64 q') (by omega) (duo_set (p' := p) (q' := q) K1.out)
  have G2 := duo_set (p' := p') (q' := q') (duo_other (n := W.heap.size + 1) (m := W.heap.size) (v0 := .int .i64 p) (v1 := .int .i64 q) (by omega) K2.out)
  have BF := ((((HB.out.setCell (p := ⟨W.heap.size, 0, none⟩) (Nat.le_refl _) (.int .i64 p)).setCell (p := ⟨W.heap.size, 1, none⟩) (Nat.le_refl _) (.int .i64 q)).setCell (p := ⟨W.heap.size + 1, 0, none⟩) (by simp only; omega) (.int .i64 p')).setCell (p := ⟨W.heap.size + 1, 1, none⟩) (by simp only; omega) (.int .i64 q'))
  clear q0 q1 q9 r0 r1 r9 f1 f2 K1 K2 HB
  generalize hwf : World.setCell _ ⟨W.heap.size + 1, 1, none⟩ _ = wf at G1 G2 BF ⊢
  clear hwf
  obtain ⟨_, q0, q1⟩ := G1
  obtain ⟨_, r0, r1⟩ := G2
  exact bodyPost_ret (v := .tuple #[pchV p q, pchV p' q']) (by simp [results, Try.results9, go_sem, q0, q1, r0, r1]) rfl ⟨_, _, _, _, HT1.out, HT2.out, rfl, BF⟩
end Go.Proofs.Ytgoaofkbegfinaa
