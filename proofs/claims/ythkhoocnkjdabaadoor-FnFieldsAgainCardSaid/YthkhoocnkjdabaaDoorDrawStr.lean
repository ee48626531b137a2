/- Contracts of spec.l01Long and spec.l01Text: drawn strings. -/
import Derived.Test.YthkhoocnkjdabaaDoorDrawNum
import Derived.Test.YthkhoocnkjdabaaDoorHexMath
import Derived.Laws.OwnMore
import Derived.Deep.AppendLies
namespace Go.Proofs.YthkhoocnkjdabaaDoor
open Go.RowKit
set_option linter.unusedVariables false
theorem infoU8l : (Tryd.prog.info? 5).map (fun i => (i.zero, i.size, i.bytes)) = some (some (.int .u8 0), 1, 1) := by kernel_rfl
/-- k cells are filled, the rest is 0. -/
def filled (k n : Nat) (x : Int) : List Value := List.replicate k (.int .u8 x) ++ List.replicate (n - k) (.int .u8 0)
theorem filled_set (k n : Nat) (x : Int) (h : k < n) : (filled k n x).set k (.int .u8 x) = filled (k + 1) n x := by
  unfold filled
  rw [List.set_append_right _ _ (by simp), List.length_replicate, Nat.sub_self, show n - k = (n - (k + 1)) + 1 from by omega, List.replicate_succ, List.set_cons_zero, List.replicate_succ']
  simp
theorem filled_get (k n : Nat) (x : Int) (h : k < n) : (filled k n x)[k]? = some (.int .u8 0) := by
  unfold filled
  rw [List.getElem?_append_right (by simp), List.length_replicate, Nat.sub_self, show n - k = (n - (k + 1)) + 1 from by omega, List.replicate_succ]
  rfl
theorem filled_all (n : Nat) (x : Int) (h0 : 0 ≤ x) (h1 : x ≤ 255) : filled n n x = Lib.byteCells (List.replicate n (UInt8.ofNat x.toNat)) := by
  have e : ((UInt8.ofNat x.toNat).toNat : Int) = x := by rw [UInt8.toNat_ofNat']; omega
  simp [filled, Lib.byteCells]
  right; omega
/-- The text of n bytes x. -/
def longL (n x : Int) : List UInt8 := List.replicate n.toNat (UInt8.ofNat x.toNat)
theorem byte_snoc {w1 : World} {B : Nat} {e : TypeId} {v : Value} {l : List UInt8} {y : Int} (h0 : 0 ≤ y) (h1 : y ≤ 255) (h : w1.ownsRow B e 1 v (l.length + 1) (Lib.byteCells l ++ #[Value.int .u8 y].toList)) : w1.ownsRow B e 1 v (l ++ [UInt8.ofNat y.toNat]).length (Lib.byteCells (l ++ [UInt8.ofNat y.toNat])) := by
  have e1 : Lib.byteCells [UInt8.ofNat y.toNat] = #[Value.int .u8 y].toList := by
    have : ((UInt8.ofNat y.toNat).toNat : Int) = y := by rw [UInt8.toNat_ofNat']; omega
    simp only [Lib.byteCells, List.map_cons, List.map_nil, this]
  rw [Lib.byteCells_append, e1, List.length_append]
  exact h
set_option maxHeartbeats 400000 in
theorem long_any (n x : Int) (w : World) (hn0 : 0 ≤ n) (hn1 : n ≤ 100000) (hx0 : 0 ≤ x) (hx1 : x ≤ 255) : Calls Tryd.prog 21 #[.int .i64 n, .int .u8 x] w fun e w' => e = .returned (.string ⟨(longL n x).toArray⟩) ∧ Below w.heap.size w w' := by
  obtain ⟨m, rfl⟩ := Int.eq_ofNat_of_zero_le hn0
  obtain ⟨i0, hi, hz0, hz1, hz2⟩ := info_parts infoU8l
  go_enter Tryd.func21, Tryd.ntmps21
  go_wp2_with (at_make; refine wpList_make_full _ rfl _ _ 22 rfl w.heap.size 5 i0 (.int .u8 0) 1 Tryd.underlying22 hi hz0 hz1 _ _ _ _ m rfl rfl rfl rfl (by rw [hz2]; omega) (by unfold maxLen; omega) (Nat.le_refl _) ?_; intro w1 hown1 hgrow1)
  go_loopw [6] (fun i wr => ∃ k : Nat, k ≤ m ∧ i = .int .i64 k ∧ wr.ownsRow w.heap.size 5 1 (.slice (some ⟨w.heap.size, 0, none⟩) m m) m (filled k m x) ∧ Below w.heap.size w wr) (fun i _ => m - (intOf i).toNat)
  case atStart => exact ⟨0, Nat.zero_le _, rfl, by simpa [filled, toList_madeCells_one, Value.cells] using hown1, (Below.refl _ _).grown hgrow1 (Nat.le_refl _) (by simp)⟩
  case round =>
    obtain ⟨k, hk, rfl, hown, hb⟩ := hrel
    clear hown1 hgrow1
    by_cases hlt : k < m
    · have q3 : (k : Int) < m := by omega
      have q1 : wr.cell? ⟨w.heap.size, k, none⟩ = some (.int .u8 0) := by rw [hown.cellAt k (by omega), filled_get k m x hlt]
      have q2 := hown.frozenAt k
      have R1 := (hown.stored k (.int .u8 x)).1
      rw [filled_set k m x hlt] at R1
      have R2 : Below w.heap.size w (wr.setCell ⟨w.heap.size, k, none⟩ (.int .u8 x)) := hb.setCell (p := ⟨w.heap.size, k, none⟩) (Nat.le_refl _) _
      clear hown hb
      go_wp2
      go_roundw
      case rel => exact ⟨k + 1, by omega, by go_num, R1, R2⟩
      case measure => simp [intOf]; omega
    · obtain rfl : k = m := by omega
      have q3 : ¬ (k : Int) < k := by omega
      rw [filled_all k x hx0 hx1, show List.replicate k (UInt8.ofNat x.toNat) = longL (k : Int) x from by unfold longL; rw [Int.toNat_natCast]] at hown
      have hconv := conv_own (P := Tryd.prog) (src := 22) (dst := 9) Tryd.underlying22 Tryd.underlying5 Tryd.underlying9 hown
      clear hown
      go_wp2
      go_ret
      exact ⟨rfl, hb⟩
/-- What l01Text leaves: a string of n drawn bytes. -/
def DrawnS (T : TypeId) (W : World) (a : Option Addr) (len cap : Nat) (zs : List Int) (b : Nat) (w : World) (n : Nat) (e : Ending) (w' : World) : Prop :=
  ∃ l : List UInt8, l.length = n ∧ e = .returned (.string ⟨l.toArray⟩) ∧ Cur T W a len cap zs b w' ∧ w.grownBy w' (some b)
theorem grown_alloc {w w' : World} {r : Option Nat} (h : w.grownBy w' r) (o : Obj) : w.grownBy (w'.alloc o) r :=
  ⟨h.os, h.tape, h.output, Nat.le_trans h.size (by simp), fun k hk hne => (Below.heap_alloc w' o k (Nat.lt_of_lt_of_le hk h.size)).trans (h.block k hk hne)⟩
/-- Growth by writes to a new row is no change of what was there. -/
theorem grown_new {w w1 w2 : World} {b : Nat} {r : Option Nat} (h : w.grownBy w1 (some b)) (k : w1.grownBy w2 r) (hr : ∀ j, r = some j → w.heap.size ≤ j) : w.grownBy w2 (some b) :=
  ⟨k.os.trans h.os, k.tape.trans h.tape, k.output.trans h.output, Nat.le_trans h.size k.size, fun j hj hne => (k.block j (Nat.lt_of_lt_of_le hj h.size) (fun e => by have := hr j e.symm; omega)).trans (h.block j hj hne)⟩
theorem Cur.grown {T : TypeId} {W : World} {a : Option Addr} {len cap : Nat} {zs : List Int} {b : Nat} {w w' : World} {r : Option Nat} (h : Cur T W a len cap zs b w) (hg : w.grownBy w' r) (hr : ∀ j, r = some j → b < j) : Cur T W a len cap zs b w' := by
  obtain ⟨i, x, hi, hb⟩ := h.cells
  exact ⟨h.row, h.below.grown hg (Nat.le_trans h.ge (Nat.le_of_lt h.lt)) (fun j hj => by have := hr j hj; have := h.ge; omega), h.ge, i, x, hi, (hg.block b h.lt (fun e => by have := hr b e.symm; omega)).trans hb⟩
set_option maxHeartbeats 1000000 in
theorem text_any {W : World} {a : Option Addr} {len cap : Nat} {zs : List Int} {b : Nat} {w : World} (hc : Cur 49 W a len cap zs b w) (n : Int) (hn0 : 0 ≤ n) (hn1 : n ≤ 5000) :
    Calls Tryd.prog 23 #[.pointer (some ⟨b, 0, none⟩), .int .i64 n] w (DrawnS 49 W a len cap zs b w n.toNat) := by
  obtain ⟨m, rfl⟩ := Int.eq_ofNat_of_zero_le hn0
  rw [Int.toNat_natCast]
  obtain ⟨i0, hi, hz0, hz1, hz2⟩ := info_parts infoU8l
  have q0 : ¬ (5000 : Int) < m := by omega
  have hbl := hc.lt
  go_enter Tryd.func23, Tryd.ntmps23
  go_wp2
  go_loopw [5, 6] (fun v i wr => ∃ (k : Nat) (l : List UInt8), k ≤ m ∧ l.length ≤ k ∧ k ≤ l.length ∧ i = .int .i64 k ∧ wr.ownsRow w.heap.size 5 1 v l.length (Lib.byteCells l) ∧ Cur 49 W a len cap zs b wr ∧ w.grownBy wr (some b)) (fun _ i _ => m - (intOf i).toNat)
  case atStart => exact ⟨0, [], Nat.zero_le _, Nat.le_refl _, Nat.le_refl _, rfl, World.ownsRow_lit w #[] 0 (Nat.le_refl _) (Nat.zero_le _) rfl, hc.alloc _, World.grownBy_alloc w _ _⟩
  case round =>
    obtain ⟨k, l, hk, hl1, hl2, rfl, hown, hcr, hgr⟩ := hrel
    clear hc
    by_cases hlt : k < m
    · have q3 : (k : Int) < m := by omega
      have n1 : l.length + 1 ≤ maxLen := by unfold maxLen; omega
      have n2 : (l.length + 1) * 1 ≤ 140737488355328 := by omega
      go_wp2_with fail
      refine (byte_any hcr).mono ?_
      rintro e w1 ⟨y, ⟨hy0, hy1⟩, rfl, hc1, hg1⟩
      have hown1 := hown.kept hg1 (by
        cases hv : u5.ownBlock with
        | none => exact .inl rfl
        | some g => exact .inr (by have := (hown.lt g hv).1; simp; omega))
      have hg2 := grown_trans hgr hg1
      have n3 : ∀ o, w.heap.size ≤ (w1.alloc o).heap.size := fun o => by have := hg2.size; simp; omega
      have q4 : IntKind.u8.wrap y = y := IntWalk.u8_in _ ⟨by omega, by omega⟩
      go_wp2_with (at_builtin; refine wpList_append_lies _ rfl (.tmp 15) (.tmp 19) 22 rfl w.heap.size 5 i0 (.int .u8 0) 1 1 Tryd.underlying22 hi hz0 hz1 hz2 rfl (by decide) u5 l.length _ rfl (hown1.alloc _) ⟨w1.heap.size, 0, none⟩ 1 1 _ rfl rfl (World.news_of_block (heap_alloc_new w1 _)) (by simp [Value.oneCell']) (by decide) n1 n2 (n3 _) _ rfl ?_; intro g cap2 w2 hown' hgrow hat hgt)
      have R1 := byte_snoc hy0 hy1 hown'
      have R2 := (hc1.alloc (.cells #[Value.int IntKind.u8 y] 5)).grown hgrow (fun j hj => by have := (hown1.lt j hj).1; omega)
      have R3 := grown_new (grown_alloc hg2 (.cells #[Value.int IntKind.u8 y] 5)) hgrow (fun j hj => (hown1.lt j hj).1)
      clear hown' hgrow hat hgt hown1 hg1 hg2 hown hcr hgr hc1
      go_roundw
      case rel => exact ⟨k + 1, l ++ [UInt8.ofNat y.toNat], by omega, by simp; omega, by simp; omega, by go_num, R1, R2, R3⟩
      case measure => simp [intOf]; omega
    · have q3 : ¬ (k : Int) < m := by omega
      have hconv := conv_own (P := Tryd.prog) (src := 22) (dst := 9) Tryd.underlying22 Tryd.underlying5 Tryd.underlying9 hown
      go_wp2
      go_ret
      exact ⟨l, by omega, rfl, hcr, hgr⟩
/-- A string of at most 20001 bytes; what was there is as it was. -/
def DrawnT (W : World) (e : Ending) (w' : World) : Prop := ∃ l : List UInt8, l.length ≤ 20001 ∧ e = .returned (.string ⟨l.toArray⟩) ∧ Below W.heap.size W w'
set_option maxHeartbeats 400000 in
theorem drawEncode_any {W : World} {a : Option Addr} {len cap : Nat} {zs : List Int} (hr : IsRow .u8 W a len cap zs) :
    Calls Tryd.prog 8 #[.slice a len cap] W (DrawnT W) := by
  go_enter Tryd.func8, Tryd.ntmps8
  go_wp2_with fail
  refine (new_any hr).mono ?_
  rintro e w1 ⟨b, rfl, hc1⟩
  go_wp2_with fail
  refine (once_any hc1 _).mono ?_
  rintro e w2 ⟨x, rfl, hc2, hg2⟩
  cases x
  · go_wp2_with fail
    refine (below_any hc2 _).mono ?_
    rintro e w3 ⟨y, ⟨hy0, _, hy1⟩, rfl, hc3, hg3⟩
    have hy2 := hy1 (by omega)
    clear hy1
    go_wp2_with fail
    refine (text_any hc3 y hy0 (by omega)).mono ?_
    rintro e w4 ⟨l, hl, rfl, hc4, hg4⟩
    go_wp2_with fail
    go_ret
    exact ⟨l, by omega, rfl, hc4.below⟩
  · go_wp2_with fail
    refine (below_any hc2 _).mono ?_
    rintro e w3 ⟨y, ⟨hy0, _, hy1⟩, rfl, hc3, hg3⟩
    have hy2 := hy1 (by omega)
    clear hy1
    go_wp2_with fail
    refine (long_any (20000 + y) 200 _ (by omega) (by omega) (by omega) (by omega)).mono ?_
    rintro e w4 ⟨rfl, hb4⟩
    go_wp2_with fail
    go_ret
    exact ⟨longL (20000 + y) 200, by unfold longL; rw [List.length_replicate]; omega, rfl, hc3.below.trans (hb4.mono hc3.below.size)⟩
end Go.Proofs.YthkhoocnkjdabaaDoor
