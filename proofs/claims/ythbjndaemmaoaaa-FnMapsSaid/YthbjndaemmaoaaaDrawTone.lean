/- Contracts of spec.l03Interval and spec.DrawIntervals. -/
import Derived.Test.YthbjndaemmaoaaaCurWalks
import Derived.Test.YthbjndaemmaoaaaToneWalks
import Derived.Test.YthbjndaemmaoaaaNumBase
namespace Go.Proofs.Ythbjndaemmaoaaa
open Go.RowKit Go.Joins
set_option linter.unusedVariables false
theorem heap_cells4 {w : World} {n : Nat} {x y z u : Value} {T : TypeId} (h : w.heap[n]? = some (.cells #[x, y, z, u] T (0, 0))) :
    w.cell? ⟨n, 0, none⟩ = some x ∧ w.cell? ⟨n, 1, none⟩ = some y ∧ w.cell? ⟨n, 2, none⟩ = some z ∧ w.cell? ⟨n, 3, none⟩ = some u ∧ ∀ o, w.frozen? ⟨n, o, none⟩ = false :=
  ⟨by rw [cell_of_row w n 0 _ T _ h]; rfl, by rw [cell_of_row w n 1 _ T _ h]; rfl, by rw [cell_of_row w n 2 _ T _ h]; rfl, by rw [cell_of_row w n 3 _ T _ h]; rfl, fun o => frozen_of_row w n o _ T h⟩
theorem Cur.setOther {T : TypeId} {W : World} {a : Option Addr} {len cap : Nat} {zs : List Int} {b : Nat} {w : World} (h : Cur T W a len cap zs b w) {n : Nat} (hn : n ≠ b) (hW : W.heap.size ≤ n) (j : Nat) (v : Value) : Cur T W a len cap zs b (w.setCell ⟨n, j, none⟩ v) := by
  obtain ⟨i, x, hi, hb⟩ := h.cells
  exact ⟨h.row, h.below.setCell (p := ⟨n, j, none⟩) hW v, h.ge, i, x, hi, by rw [Below.heap_setCell _ _ _ _ (fun e => hn e.symm)]; exact hb⟩
theorem grown_setNew {w w' : World} {r : Option Nat} (h : w.grownBy w' r) {n : Nat} (hn : w.heap.size ≤ n) (j : Nat) (v : Value) : w.grownBy (w'.setCell ⟨n, j, none⟩ v) r :=
  ⟨h.os, h.tape, h.output, by have := h.size; simpa using this, fun k hk hne => by rw [Below.heap_setCell _ _ _ _ (fun e => by have : k = n := e; omega)]; exact h.block k hk hne⟩
theorem heap_new3a (w : World) (o1 o2 o3 : Obj) : (((w.alloc o1).alloc o2).alloc o3).heap[w.heap.size]? = some o1 :=
  (Below.heap_alloc _ o3 _ (by simp; omega)).trans ((Below.heap_alloc _ o2 _ (by simp)).trans (heap_alloc_new w o1))
theorem heap_new3b (w : World) (o1 o2 o3 : Obj) : (((w.alloc o1).alloc o2).alloc o3).heap[w.heap.size + 1]? = some o2 := by
  have h := (Below.heap_alloc ((w.alloc o1).alloc o2) o3 (w.alloc o1).heap.size (by simp)).trans (heap_alloc_new (w.alloc o1) o2)
  simpa using h
theorem heap_new3c (w : World) (o1 o2 o3 : Obj) : (((w.alloc o1).alloc o2).alloc o3).heap[w.heap.size + 2]? = some o3 := by
  have h := heap_alloc_new ((w.alloc o1).alloc o2) o3
  simpa using h
theorem row_below3 {W : World} {k : IntKind} {a : Option Addr} {len cap : Nat} {zs : List Int} (h : IsRow k W a len cap zs) {o1 o2 o3 : Obj} : IsRow k (((W.alloc o1).alloc o2).alloc o3) a len cap zs := h.below (below_alloc3 W _ _ _)
theorem below_set4x {w w' : World} {B m : Nat} {v0 v1 v2 v3 : Value} (hm : B ≤ m) (h : Below B w w') : Below B w ((((w'.setCell ⟨m, 0, none⟩ v0).setCell ⟨m, 1, none⟩ v1).setCell ⟨m, 2, none⟩ v2).setCell ⟨m, 3, none⟩ v3) :=
  (((h.setCell hm _).setCell hm _).setCell hm _).setCell hm _
/-- A drawn interval's numbers. -/
def TI (a b c d : Int) : Prop := 1 ≤ d ∧ d ≤ 12 ∧ -12 ≤ a ∧ a ≤ 12 ∧ -6 ≤ b ∧ b ≤ 6 ∧ -3 ≤ c ∧ c ≤ 3
theorem ti_loose {a b c d : Int} (h : TI a b c d) : 1 ≤ d ∧ d ≤ 12 ∧ -100 ≤ a ∧ a ≤ 100 ∧ -100 ≤ b ∧ b ≤ 100 ∧ -100 ≤ c ∧ c ≤ 100 := by
  obtain ⟨h1, h2, h3, h4, h5, h6, h7, h8⟩ := h
  exact ⟨h1, h2, by omega, by omega, by omega, by omega, by omega, by omega⟩
def DrawnTone (T : TypeId) (W : World) (a : Option Addr) (len cap : Nat) (zs : List Int) (b : Nat) (w : World) (e : Ending) (w' : World) : Prop :=
  ∃ p q r s : Int, TI p q r s ∧ e = .returned (ivV p q r s) ∧ Cur T W a len cap zs b w' ∧ w.grownBy w' (some b)
set_option maxHeartbeats 1000000 in
theorem tone_any {W : World} {a : Option Addr} {len cap : Nat} {zs : List Int} {b : Nat} {w : World} (hc : Cur 70 W a len cap zs b w) :
    Calls Try.prog 32 #[.pointer (some ⟨b, 0, none⟩)] w (DrawnTone 70 W a len cap zs b w) := by
  have hnb : w.heap.size ≠ b := by have := hc.lt; omega
  have hW : W.heap.size ≤ w.heap.size := hc.below.size
  have HC := Lib.hid hc
  have HW := Lib.hid hW
  have HNB := Lib.hid hnb
  clear hc hW hnb
  go_enter Try.func32, Try.ntmps32
  go_wp2_with fail
  refine (below_any (HC.out.alloc _) _).mono ?_
  rintro e w1 ⟨x1, hx1, rfl, hc1, hg1⟩
  have k1 : 0 ≤ x1 ∧ x1 < 25 := ⟨hx1.1, hx1.2.2 (by omega)⟩
  obtain ⟨k10, k11⟩ := k1
  have HC1 := Lib.hid hc1
  have HG1 := Lib.hid hg1
  clear hx1 hc1 hg1
  go_wp2_with fail
  refine (below_any HC1.out _).mono ?_
  rintro e w2 ⟨x2, hx2, rfl, hc2, hg2⟩
  have k2 : 0 ≤ x2 ∧ x2 < 13 := ⟨hx2.1, hx2.2.2 (by omega)⟩
  obtain ⟨k20, k21⟩ := k2
  have HC2 := Lib.hid hc2
  have HG2 := Lib.hid (grown_trans HG1.out hg2)
  clear hx2 hc2 hg2 HC1 HG1
  go_wp2_with fail
  refine (below_any HC2.out _).mono ?_
  rintro e w3 ⟨x3, hx3, rfl, hc3, hg3⟩
  have k3 : 0 ≤ x3 ∧ x3 < 7 := ⟨hx3.1, hx3.2.2 (by omega)⟩
  obtain ⟨k30, k31⟩ := k3
  have HC3 := Lib.hid hc3
  have HG3 := Lib.hid (grown_trans HG2.out hg3)
  clear hx3 hc3 hg3 HC2 HG2
  have hne : w3.heap.size ≠ b := by have := HC3.out.lt; omega
  have HNE := Lib.hid hne
  clear hne
  go_wp2_with fail
  refine (pickInt_any (HC3.out.alloc _) w3.heap.size 6 6 [1, 1, 1, 2, 4, 12] 3 rfl (by omega) (by omega) HNE.out (heap_alloc_new w3 _)).mono ?_
  rintro e w4 ⟨x4, hx4, rfl, hc4, hg4⟩
  have k4 : 1 ≤ x4 ∧ x4 ≤ 12 := by simp only [List.mem_cons, List.not_mem_nil, or_false] at hx4; omega
  obtain ⟨k40, k41⟩ := k4
  have G4 := grown_trans HG3.out (grown_alloc_first hg4)
  have hz : w4.heap[w.heap.size]? = some (.cells #[.int .i64 0, .int .i64 0, .int .i64 0, .int .i64 0] 29 (0, 0)) := (G4.block w.heap.size (by simp) (by simpa using HNB.out)).trans (heap_alloc_new w _)
  obtain ⟨q0, q1, q2, q3, qf⟩ := heap_cells4 hz
  have HC4 := Lib.hid hc4
  have HG4 := Lib.hid (grown_alloc_first G4)
  clear hx4 hc4 hg4 HC3 HG3 G4 hz HNE
  go_wp2_with fail
  obtain ⟨y1, e1⟩ : ∃ y, y = x1 - 12 := ⟨_, rfl⟩
  obtain ⟨y2, e2⟩ : ∃ y, y = x2 - 6 := ⟨_, rfl⟩
  obtain ⟨y3, e3⟩ : ∃ y, y = x3 - 3 := ⟨_, rfl⟩
  rw [← e1, ← e2, ← e3]
  have HR : TI y1 y2 y3 x4 := by rw [e1, e2, e3]; exact ⟨k40, k41, by omega, by omega, by omega, by omega, by omega, by omega⟩
  have HR := Lib.hid HR
  clear e1 e2 e3 k10 k11 k20 k21 k30 k31 k40 k41
  refine bodyPost_ret (v := ivV y1 y2 y3 x4) (by simp [results, Try.results32, go_sem, q0, q1, q2, q3]) rfl ⟨_, _, _, _, HR.out, rfl, ?_, ?_⟩
  · exact (((HC4.out.setOther HNB.out HW.out _ _).setOther HNB.out HW.out _ _).setOther HNB.out HW.out _ _).setOther HNB.out HW.out _ _
  · exact grown_setNew (grown_setNew (grown_setNew (grown_setNew HG4.out (Nat.le_refl _) _ _) (Nat.le_refl _) _ _) (Nat.le_refl _) _ _) (Nat.le_refl _) _ _
/-- Three drawn intervals. -/
def DrawnTones (w : World) (e : Ending) (w' : World) : Prop :=
  ∃ a b c d a' b' c' d' a'' b'' c'' d'' : Int, TI a b c d ∧ TI a' b' c' d' ∧ TI a'' b'' c'' d'' ∧ e = .returned (.tuple #[ivV a b c d, ivV a' b' c' d', ivV a'' b'' c'' d'']) ∧ Below w.heap.size w w'
set_option maxHeartbeats 1000000 in
theorem drawTones_any {W : World} {a : Option Addr} {len cap : Nat} {zs : List Int} (hr : IsRow .u8 W a len cap zs) :
    Calls Try.prog 12 #[.slice a len cap] W (DrawnTones W) := by
  have HR := Lib.hid hr
  clear hr
  go_enter Try.func12, Try.ntmps12
  go_wp2_with fail
  refine (new_any (row_below3 HR.out)).mono ?_
  rintro e w1 ⟨b, rfl, hc1⟩
  have HC1 := Lib.hid hc1
  clear hc1
  go_wp2_with fail
  refine (tone_any HC1.out).mono ?_
  rintro e w2 ⟨p, q, r, s, ht1, rfl, hc2, _⟩
  have HC2 := Lib.hid hc2
  have HT1 := Lib.hid ht1
  clear hc2 HC1 ht1
  go_wp2_with fail
  refine (tone_any HC2.out).mono ?_
  rintro e w3 ⟨p', q', r', s', ht2, rfl, hc3, _⟩
  have HC3 := Lib.hid hc3
  have HT2 := Lib.hid ht2
  clear hc3 HC2 ht2
  go_wp2_with fail
  refine (tone_any HC3.out).mono ?_
  rintro e w4 ⟨p'', q'', r'', s'', ht3, rfl, hc4, _⟩
  have HT3 := Lib.hid ht3
  have hb := hc4.below
  have hz1 := (hb.block W.heap.size (by simp; omega)).trans (heap_new3a W _ _ _)
  have hz2 := (hb.block (W.heap.size + 1) (by simp)).trans (heap_new3b W _ _ _)
  have hz3 := (hb.block (W.heap.size + 2) (by simp)).trans (heap_new3c W _ _ _)
  obtain ⟨q0, q1, q2, q3, qf⟩ := heap_cells4 hz1
  obtain ⟨r0, r1, r2, r3, rf⟩ := heap_cells4 hz2
  obtain ⟨s0, s1, s2, s3, sf⟩ := heap_cells4 hz3
  have F1 : Hid (Four W.heap.size 0 0 0 0 w4) := Lib.hid ⟨lt_of_block hz1, q0, q1, q2, q3⟩
  have F2 : Hid (Four (W.heap.size + 1) 0 0 0 0 w4) := Lib.hid ⟨lt_of_block hz2, r0, r1, r2, r3⟩
  have F3 : Hid (Four (W.heap.size + 1 + 1) 0 0 0 0 w4) := Lib.hid ⟨lt_of_block hz3, s0, s1, s2, s3⟩
  have HB := Lib.hid (Below.trans (below_alloc3 W _ _ _) (hb.mono (by simp; omega)))
  clear hc4 HC3 ht3 hb hz1 hz2 hz3
  go_wp2_with fail
  have G1 := four_other (n := W.heap.size) (m := W.heap.size + 1 + 1) (v0 := .int .i64 p'') (v1 := .int .i64 q'') (v2 := .int .i64 r'') (v3 := .int .i64 s'') (by omega) (four_other (m := W.heap.size + 1) (v0 := .int .i64 p') (v1 := .int .i64 q') (v2 := .int .i64 r') (v3 := .int .i64 s') (by omega) (four_set (p' := p) (q' := q) (r' := r) (s' := s) F1.out))
  have G2 := four_other (n := W.heap.size + 1) (m := W.heap.size + 1 + 1) (v0 := .int .i64 p'') (v1 := .int .i64 q'') (v2 := .int .i64 r'') (v3 := .int .i64 s'') (by omega) (four_set (p' := p') (q' := q') (r' := r') (s' := s') (four_other (m := W.heap.size) (v0 := .int .i64 p) (v1 := .int .i64 q) (v2 := .int .i64 r) (v3 := .int .i64 s) (by omega) F2.out))
  have G3 := four_set (p' := p'') (q' := q'') (r' := r'') (s' := s'') (four_other (n := W.heap.size + 1 + 1) (m := W.heap.size + 1) (v0 := .int .i64 p') (v1 := .int .i64 q') (v2 := .int .i64 r') (v3 := .int .i64 s') (by omega) (four_other (m := W.heap.size) (v0 := .int .i64 p) (v1 := .int .i64 q) (v2 := .int .i64 r) (v3 := .int .i64 s) (by omega) F3.out))
  have BF := below_set4x (m := W.heap.size + 1 + 1) (v0 := .int .i64 p'') (v1 := .int .i64 q'') (v2 := .int .i64 r'') (v3 := .int .i64 s'') (by omega) (below_set4x (m := W.heap.size + 1) (v0 := .int .i64 p') (v1 := .int .i64 q') (v2 := .int .i64 r') (v3 := .int .i64 s') (by omega) (below_set4x (m := W.heap.size) (v0 := .int .i64 p) (v1 := .int .i64 q) (v2 := .int .i64 r) (v3 := .int .i64 s) (by omega) HB.out))
  clear q0 q1 q2 q3 qf r0 r1 r2 r3 rf s0 s1 s2 s3 sf F1 F2 F3 HB
  generalize hwf : World.setCell _ ⟨W.heap.size + 1 + 1, 3, none⟩ _ = wf at G1 G2 G3 BF ⊢
  clear hwf
  obtain ⟨_, q0, q1, q2, q3⟩ := G1
  obtain ⟨_, r0, r1, r2, r3⟩ := G2
  obtain ⟨_, s0, s1, s2, s3⟩ := G3
  refine bodyPost_ret (v := .tuple #[ivV p q r s, ivV p' q' r' s', ivV p'' q'' r'' s'']) (by simp [results, Try.results12, go_sem, q0, q1, q2, q3, r0, r1, r2, r3, s0, s1, s2, s3]) rfl ⟨_, _, _, _, _, _, _, _, _, _, _, _, HT1.out, HT2.out, HT3.out, rfl, BF⟩
end Go.Proofs.Ythbjndaemmaoaaa
