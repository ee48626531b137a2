/- What the walks say of the cursor of a draw, without any Go text. -/
import Derived.Test.YtppbcjpabmllnaaNumBase
import Derived.Test.YtppbcjpabmllnaaProg
import Derived.Laws.Rows
import Derived.OneCell
import Derived.Deep.QuietTactic
import Derived.OpenShut
import Derived.WalkKit
import Derived.Below
import Derived.Lib.Hide
import Derived.BigQuiet
namespace Go.Proofs.Ytppbcjpabmllnaa
open Go.RowKit
/-- Block b of the world w is a cursor (its three cells) over the slice of bytes that came in in the world W; what was there in W is as it was. -/
structure Cur (T : TypeId) (W : World) (a : Option Addr) (len cap : Nat) (zs : List Int) (b : Nat) (w : World) : Prop where
  row : IsRow .u8 W a len cap zs
  below : Below W.heap.size W w
  ge : W.heap.size ≤ b
  cells : ∃ (i : Nat) (h : Int), i ≤ len ∧ w.heap[b]? = some (.cells #[.slice a len cap, .int .i64 i, .int .i64 h] T (0, 0))
theorem Cur.lt {T : TypeId} {W : World} {a : Option Addr} {len cap : Nat} {zs : List Int} {b : Nat} {w : World} (h : Cur T W a len cap zs b w) : b < w.heap.size := by
  obtain ⟨i, x, _, hb⟩ := h.cells
  exact lt_of_block hb
theorem Cur.len_le {T : TypeId} {W : World} {a : Option Addr} {len cap : Nat} {zs : List Int} {b : Nat} {w : World} (h : Cur T W a len cap zs b w) : len ≤ 9223372036854775807 := by
  rcases h.row with ⟨_, h1, _⟩ | ⟨x, _, h1, h2, _⟩
  · omega
  · unfold maxLen at h2; omega
/-- A byte of a slice that came in. -/
theorem row_byte {W : World} {a : Option Addr} {len cap : Nat} {zs : List Int} (h : IsRow .u8 W a len cap zs) (i : Nat) (hi : i < len) :
    ∃ g off z, a = some ⟨g, off, none⟩ ∧ g < W.heap.size ∧ 0 ≤ z ∧ z ≤ 255 ∧ W.cell? ⟨g, off + i, none⟩ = some (.int .u8 z) := by
  rcases h with ⟨_, h1, _⟩ | ⟨⟨g, off, sp⟩, ha, hl, hm, hz, hc, hw⟩
  · omega
  · have hsp : sp = none := by simpa [Addr.add] using World.cell?_spot (hc 0 (by omega))
    subst hsp
    have hadd : (⟨g, off, none⟩ : Addr).add i = ⟨g, off + i, none⟩ := by unfold Addr.add; split <;> simp_all
    have hc1 := hc i (by omega)
    rw [hadd] at hc1
    have hmem : zs.getD i 0 ∈ zs := by rw [List.getD_eq_getElem?_getD, List.getElem?_eq_getElem (by omega)]; exact List.getElem_mem _
    have hb := bounds_u8 (hw _ hmem)
    have hlt : g < W.heap.size := by
      rcases Nat.lt_or_ge g W.heap.size with h' | h'
      · exact h'
      · simp [World.cell?, Array.getElem?_eq_none h'] at hc1
    exact ⟨g, off, zs.getD i 0, ha, hlt, hb.1, hb.2, hc1⟩
theorem Cur.byte {T : TypeId} {W : World} {a : Option Addr} {len cap : Nat} {zs : List Int} {b : Nat} {w : World} (h : Cur T W a len cap zs b w) (i : Nat) (hi : i < len) :
    ∃ g off z, a = some ⟨g, off, none⟩ ∧ g < W.heap.size ∧ 0 ≤ z ∧ z ≤ 255 ∧ W.cell? ⟨g, off + i, none⟩ = some (.int .u8 z) := row_byte h.row i hi
/-- The cursor's cells for the walk. -/
theorem cur_cells {T : TypeId} {w : World} {b : Nat} {x y z : Value} (h : w.heap[b]? = some (.cells #[x, y, z] T (0, 0))) :
    w.cell? ⟨b, 0, none⟩ = some x ∧ w.cell? ⟨b, 1, none⟩ = some y ∧ w.cell? ⟨b, 2, none⟩ = some z ∧ w.frozen? ⟨b, 1, none⟩ = false ∧ w.frozen? ⟨b, 2, none⟩ = false :=
  ⟨by rw [cell_of_row w b 0 _ T _ h]; rfl, by rw [cell_of_row w b 1 _ T _ h]; rfl, by rw [cell_of_row w b 2 _ T _ h]; rfl, frozen_of_row w b 1 _ T h, frozen_of_row w b 2 _ T h⟩
theorem Cur.drewN {T : TypeId} {W : World} {a : Option Addr} {len cap : Nat} {zs : List Int} {b : Nat} {w : World} (h : Cur T W a len cap zs b w) (n : Nat) : Cur T W a len cap zs b (w.drewN n) :=
  ⟨h.row, ⟨h.below.os, h.below.tape, h.below.output, h.below.size, h.below.block⟩, h.ge, h.cells⟩
theorem grown_drewN {w w' : World} {r : Option Nat} (h : w.grownBy w' r) (n : Nat) : w.grownBy (w'.drewN n) r := ⟨h.os, h.tape, h.output, h.size, h.block⟩
theorem grown_set {w w' : World} {b : Nat} (h : w.grownBy w' (some b)) (j : Nat) (v : Value) : w.grownBy (w'.setCell ⟨b, j, none⟩ v) (some b) :=
  ⟨h.os, h.tape, h.output, by have := h.size; simpa using this, fun k hk hne => by rw [Below.heap_setCell _ _ _ _ (fun e => hne (by rw [e]))]; exact h.block k hk hne⟩
theorem grown_trans {w w1 w2 : World} {r : Option Nat} (h : w.grownBy w1 r) (k : w1.grownBy w2 r) : w.grownBy w2 r :=
  ⟨k.os.trans h.os, k.tape.trans h.tape, k.output.trans h.output, Nat.le_trans h.size k.size, fun j hj hne => (k.block j (Nat.lt_of_lt_of_le hj h.size) hne).trans (h.block j hj hne)⟩
theorem Cur.set2 {T : TypeId} {W : World} {a : Option Addr} {len cap : Nat} {zs : List Int} {b : Nat} {w : World} {i : Nat} {h : Int} (hc : Cur T W a len cap zs b w) (hi : i ≤ len)
    (hb : w.heap[b]? = some (.cells #[.slice a len cap, .int .i64 i, .int .i64 h] T (0, 0))) (v : Int) : Cur T W a len cap zs b (w.setCell ⟨b, 2, none⟩ (.int .i64 v)) ∧ (w.setCell ⟨b, 2, none⟩ (.int .i64 v)).heap[b]? = some (.cells #[.slice a len cap, .int .i64 i, .int .i64 v] T (0, 0)) := by
  have e := heap_setCell_same w b 2 _ T (.int .i64 v) hb
  exact ⟨⟨hc.row, hc.below.setCell (p := ⟨b, 2, none⟩) hc.ge _, hc.ge, i, v, hi, e⟩, e⟩
theorem Cur.set1 {T : TypeId} {W : World} {a : Option Addr} {len cap : Nat} {zs : List Int} {b : Nat} {w : World} {i : Nat} {h : Int} (hc : Cur T W a len cap zs b w) (hi : i < len)
    (hb : w.heap[b]? = some (.cells #[.slice a len cap, .int .i64 i, .int .i64 h] T (0, 0))) : Cur T W a len cap zs b (w.setCell ⟨b, 1, none⟩ (.int .i64 ((i : Int) + 1))) := by
  have e := heap_setCell_same w b 1 _ T (.int .i64 ((i : Int) + 1)) hb
  exact ⟨hc.row, hc.below.setCell (p := ⟨b, 1, none⟩) hc.ge _, hc.ge, i + 1, h, hi, e⟩
theorem and_bd (x : Int) (m : Nat) (hm : m < 4294967296) : 0 ≤ bits .and .i64 x (m : Int) ∧ bits .and .i64 x (m : Int) ≤ m := by
  have e : bits .and .i64 x (m : Int) = IntKind.i64.wrap ((BitVec.ofInt 64 x &&& BitVec.ofInt 64 (m : Int)).toNat : Int) := rfl
  have h1 : (BitVec.ofInt 64 x &&& BitVec.ofInt 64 (m : Int)).toNat ≤ m := by
    rw [BitVec.toNat_and]
    have h2 : (BitVec.ofInt 64 (m : Int)).toNat = m := by rw [BitVec.toNat_ofInt]; omega
    rw [h2]
    exact Nat.and_le_right
  rw [e, IntWalk.i64_in _ ⟨by omega, by omega⟩]
  omega
/-- What a draw leaves: a number with P, the cursor, and nothing else changed. -/
def Drawn (T : TypeId) (W : World) (a : Option Addr) (len cap : Nat) (zs : List Int) (b : Nat) (w : World) (P : Int → Prop) (e : Ending) (w' : World) : Prop :=
  ∃ n : Int, P n ∧ e = .returned (.int .i64 n) ∧ Cur T W a len cap zs b w' ∧ w.grownBy w' (some b)
end Go.Proofs.Ytppbcjpabmllnaa
/- Contracts of the functions that draw from a cursor: spec.l01Byte, l01Below, l01Once, l01New. -/
namespace Go.Proofs.Ytppbcjpabmllnaa
open Go.RowKit
set_option linter.unusedVariables false
set_option maxHeartbeats 400000 in
theorem byte_any {W : World} {a : Option Addr} {len cap : Nat} {zs : List Int} {b : Nat} {w : World} (hc : Cur 55 W a len cap zs b w) :
    Calls Try.prog 54 #[.pointer (some ⟨b, 0, none⟩)] w (Drawn 55 W a len cap zs b w fun n => 0 ≤ n ∧ n ≤ 255) := by
  obtain ⟨i, h, hi, hb⟩ := hc.cells
  obtain ⟨c0, c1, c2, f1, f2⟩ := cur_cells hb
  have hlen := hc.len_le
  have HB := Lib.hid hb
  have HC := Lib.hid hc
  clear hb hc
  by_cases hlt : i < len
  · obtain ⟨g, off, z, rfl, hg, z0, z1, hz⟩ := HC.out.byte i hlt
    have hne : ¬ g = b := by have := HC.out.ge; omega
    have hz' : w.cell? ⟨g, off + i, none⟩ = some (.int .u8 z) := (HC.out.below.cell (p := ⟨g, off + i, none⟩) hg).trans hz
    have q1 : IntKind.i64.wrap z = z := IntWalk.i64_in _ ⟨by omega, by omega⟩
    have q2 : (i : Int) < len := by omega
    clear hz hg
    go_enter Try.func54, Try.ntmps54
    go_wp2_with fail
    go_quiet (fail)
    go_wp2_with fail
    go_quiet (fail)
    go_wp2_with fail
    go_quiet (fail)
    go_wp2_with fail
    go_ret
    have k1 := HC.out.set2 hi HB.out (wrap64 (wrap64 (h * 6364136223846793005) + 1442695040888963407))
    exact ⟨_, and_bd _ 255 (by omega), rfl, (k1.1.drewN _).set1 hlt k1.2, grown_set (grown_drewN (grown_set (World.grownBy.refl _ _) 2 _) _) 1 _⟩
  · go_enter Try.func54, Try.ntmps54
    go_wp2_with fail
    go_quiet (fail)
    go_wp2_with fail
    go_quiet (fail)
    go_wp2_with fail
    go_ret
    have k1 := HC.out.set2 hi HB.out (wrap64 (wrap64 (h * 6364136223846793005) + 1442695040888963407))
    exact ⟨_, and_bd _ 255 (by omega), rfl, (k1.1.drewN _).drewN _, grown_drewN (grown_drewN (grown_set (World.grownBy.refl _ _) 2 _) _) _⟩
def BelowOf (n : Int) (v : Int) : Prop := 0 ≤ v ∧ (n ≤ 0 → v = 0) ∧ (0 < n → v < n)
theorem below_any {W : World} {a : Option Addr} {len cap : Nat} {zs : List Int} {b : Nat} {w : World} (hc : Cur 55 W a len cap zs b w) (n : Int) :
    Calls Try.prog 44 #[.pointer (some ⟨b, 0, none⟩), .int .i64 n] w (Drawn 55 W a len cap zs b w (BelowOf n)) := by
  rcases (show n ≤ 0 ∨ (0 < n ∧ n ≤ 256) ∨ 256 < n from by omega) with h | ⟨h, h2⟩ | h
  · go_enter Try.func44, Try.ntmps44
    go_wp2_with fail
    go_ret
    exact ⟨0, ⟨by omega, fun _ => rfl, fun h' => by omega⟩, rfl, hc, World.grownBy.refl _ _⟩
  · have hne : (n == 0) = false := by simp; omega
    go_enter Try.func44, Try.ntmps44
    go_wp2_with fail
    refine (byte_any hc).mono ?_
    rintro e w1 ⟨x, ⟨hx, hx'⟩, rfl, hc1, hg1⟩
    go_wp2_with fail
    go_ret
    exact ⟨x % n, ⟨Int.emod_nonneg _ (by omega), fun h' => by omega, fun h' => Int.emod_lt_of_pos _ h'⟩, rfl, hc1, hg1⟩
  · have hne : (n == 0) = false := by simp; omega
    go_enter Try.func44, Try.ntmps44
    go_wp2_with fail
    refine (byte_any hc).mono ?_
    rintro e w1 ⟨x, ⟨hx, hx'⟩, rfl, hc1, hg1⟩
    go_wp2_with fail
    refine (byte_any hc1).mono ?_
    rintro e w2 ⟨y, ⟨hy, hy'⟩, rfl, hc2, hg2⟩
    go_wp2_with fail
    refine (byte_any hc2).mono ?_
    rintro e w3 ⟨z, ⟨hz, hz'⟩, rfl, hc3, hg3⟩
    go_wp2_with fail
    refine (byte_any hc3).mono ?_
    rintro e w4 ⟨u, ⟨hu, hu'⟩, rfl, hc4, hg4⟩
    go_wp2_with fail
    go_ret
    exact ⟨(x * 16777216 + y * 65536 + z * 256 + u) % n, ⟨Int.emod_nonneg _ (by omega), fun h' => by omega, fun h' => Int.emod_lt_of_pos _ h'⟩, rfl, hc4, grown_trans (grown_trans (grown_trans hg1 hg2) hg3) hg4⟩
/-- What l01New leaves: a cursor in a new block. -/
def NewCur (T : TypeId) (W : World) (a : Option Addr) (len cap : Nat) (zs : List Int) (e : Ending) (w' : World) : Prop :=
  ∃ b : Nat, e = .returned (.pointer (some ⟨b, 0, none⟩)) ∧ Cur T W a len cap zs b w'
set_option maxHeartbeats 400000 in
theorem new_any {W : World} {a : Option Addr} {len cap : Nat} {zs : List Int} (hr : IsRow .u8 W a len cap zs) :
    Calls Try.prog 30 #[.slice a len cap] W (NewCur 55 W a len cap zs) := by
  have hlen : len ≤ 9223372036854775807 := by
    rcases hr with ⟨_, h1, _⟩ | ⟨x, _, h1, h2, _⟩
    · omega
    · unfold maxLen at h2; omega
  have HR := Lib.hid hr
  clear hr
  go_enter Try.func30, Try.ntmps30
  go_wp2
  go_loop [3, 4] (fun h i => ∃ k : Nat, ∃ x : Int, k ≤ len ∧ k ≤ 4000 ∧ i = .int .i64 k ∧ h = .int .i64 x) (fun _ i => len - (intOf i).toNat)
  case atStart => exact ⟨0, _, Nat.zero_le _, by omega, rfl, rfl⟩
  case round =>
    obtain ⟨k, x, hk, hk', rfl, rfl⟩ := hrel
    by_cases hlt : k < len
    · by_cases hlt' : k < 4000
      · obtain ⟨g, off, z, rfl, hg, z0, z1, hz⟩ := row_byte HR.out k hlt
        have q1 : IntKind.i64.wrap z = z := IntWalk.i64_in _ ⟨by omega, by omega⟩
        have q2 : (k : Int) < len := by omega
        have q3 : (k : Int) < 4000 := by omega
        go_wp2
        go_round
        case rel => exact ⟨k + 1, _, by omega, by omega, by go_num, rfl⟩
        case measure => simp [intOf]; omega
      · have q2 : (k : Int) < len := by omega
        have q3 : ¬ (k : Int) < 4000 := by omega
        go_wp2
        go_ret
        exact ⟨_, rfl, HR.out, (Below.refl _ _).alloc (Nat.le_refl _) _, Nat.le_refl _, 0, x, Nat.zero_le _, heap_alloc_new W _⟩
    · have q2 : ¬ (k : Int) < len := by omega
      go_wp2
      go_ret
      exact ⟨_, rfl, HR.out, (Below.refl _ _).alloc (Nat.le_refl _) _, Nat.le_refl _, 0, x, Nat.zero_le _, heap_alloc_new W _⟩
end Go.Proofs.Ytppbcjpabmllnaa
/- Contract of spec.l01PickInt. -/
namespace Go.Proofs.Ytppbcjpabmllnaa
open Go.RowKit
set_option linter.unusedVariables false
theorem pickInt_any {W : World} {a : Option Addr} {len cap : Nat} {zs : List Int} {b : Nat} {w : World} (hc : Cur 55 W a len cap zs b w) (L m cp : Nat) (xs : List Int) (t : TypeId) (hm : xs.length = m) (h0 : 0 < m) (hm' : m ≤ 1000) (hL : L ≠ b)
    (hcs : w.heap[L]? = some (.cells (xs.map (Value.int .i64)).toArray t (0, 0))) :
    Calls Try.prog 45 #[.pointer (some ⟨b, 0, none⟩), .slice (some ⟨L, 0, none⟩) m cp] w (Drawn 55 W a len cap zs b w fun v => v ∈ xs) := by
  have HM := Lib.hid hm
  have HCS := Lib.hid hcs
  clear hm hcs
  go_enter Try.func45, Try.ntmps45
  go_wp2_with fail
  refine (below_any hc _).mono ?_
  rintro e w1 ⟨x, ⟨hx0, _, hx1⟩, rfl, hc1, hg1⟩
  obtain ⟨j, rfl⟩ := Int.eq_ofNat_of_zero_le hx0
  have hj : j < m := by have := hx1 (by omega); omega
  have hq : (j : Int) < m := by omega
  clear hx0 hx1
  have hcell : w1.cell? ⟨L, j, none⟩ = some (.int .i64 (xs.getD j 0)) := by
    have e1 : w1.heap[L]? = some (.cells (xs.map (Value.int .i64)).toArray t (0, 0)) := (hg1.block L (lt_of_block HCS.out) (by simpa using hL)).trans HCS.out
    rw [cell_of_row w1 L j _ t _ e1]
    have hl := HM.out
    simp [List.getElem?_eq_getElem (show j < xs.length by omega)]
  have hmem : xs.getD j 0 ∈ xs := by
    have hl := HM.out
    rw [List.getD_eq_getElem?_getD, List.getElem?_eq_getElem (by omega)]; exact List.getElem_mem _
  generalize xs.getD j 0 = v at hcell hmem
  go_wp2_with fail
  go_ret
  exact ⟨v, hmem, rfl, hc1, hg1⟩
def InI64 (v : Int) : Prop := -9223372036854775808 ≤ v ∧ v ≤ 9223372036854775807
theorem grown_alloc_first {w w' : World} {o : Obj} {r : Option Nat} (h : (w.alloc o).grownBy w' r) : w.grownBy w' r :=
  ⟨h.os, h.tape, h.output, Nat.le_trans (by simp) h.size, fun k hk hne => (h.block k (by simp; omega) hne).trans (Below.heap_alloc w o k hk)⟩
theorem Cur.alloc {T : TypeId} {W : World} {a : Option Addr} {len cap : Nat} {zs : List Int} {b : Nat} {w : World} (h : Cur T W a len cap zs b w) (o : Obj) : Cur T W a len cap zs b (w.alloc o) := by
  obtain ⟨i, x, hi, hb⟩ := h.cells
  exact ⟨h.row, h.below.alloc (Nat.le_trans h.ge (Nat.le_of_lt h.lt)) o, h.ge, i, x, hi, by rw [Below.heap_alloc w o b h.lt]; exact hb⟩
end Go.Proofs.Ytppbcjpabmllnaa
/- Contract of spec.l01Once. -/
namespace Go.Proofs.Ytppbcjpabmllnaa
open Go.RowKit
set_option linter.unusedVariables false
/-- l01Once: some bool. -/
def DrawnB (T : TypeId) (W : World) (a : Option Addr) (len cap : Nat) (zs : List Int) (b : Nat) (w : World) (e : Ending) (w' : World) : Prop :=
  ∃ x : Bool, e = .returned (.bool x) ∧ Cur T W a len cap zs b w' ∧ w.grownBy w' (some b)
theorem once_any {W : World} {a : Option Addr} {len cap : Nat} {zs : List Int} {b : Nat} {w : World} (hc : Cur 55 W a len cap zs b w) (n : Int) :
    Calls Try.prog 42 #[.pointer (some ⟨b, 0, none⟩), .int .i64 n] w (DrawnB 55 W a len cap zs b w) := by
  go_enter Try.func42, Try.ntmps42
  go_wp2_with fail
  refine (below_any hc n).mono ?_
  rintro e w1 ⟨x, hx, rfl, hc1, hg1⟩
  go_wp2_with fail
  go_ret
  exact ⟨_, rfl, hc1, hg1⟩
end Go.Proofs.Ytppbcjpabmllnaa
