/- Texts of numbers, joined texts: what the walks of BigText and IntervalText share. -/
import Derived.Lib.SmallJoins
import Derived.Test.YtohfepcdgbgojabDoorSFormatWalks
import Derived.Deep.DeepCutAuto
import Derived.Lib.IndexBytes
namespace Go.Proofs.YtohfepcdgbgojabDoor
open Go.RowKit Go.Joins
set_option linter.unusedVariables false
theorem calls_fromT {P : Program} {k : FuncId} {args : Array Value} {W w : World} {v : Value} (h : Below W.heap.size W w) (hk : Calls P k args w fun e w' => e = .returned v ∧ Below w.heap.size w w') :
    Calls P k args w fun e w' => e = .returned v ∧ Below W.heap.size W w' :=
  hk.mono fun _ _ ⟨he, hb⟩ => ⟨he, h.trans (hb.mono h.size)⟩
/-- The text of a number. -/
def Fm (n : Int) (L : List UInt8) : Prop := L = Lib.itoa n ∧ -9223372036854775808 ≤ n ∧ n ≤ 9223372036854775807
theorem fm_get (n : Int) (h0 : -9223372036854775808 ≤ n) (h1 : n ≤ 9223372036854775807) : ∃ L, Fm n L ∧ L.length ≤ 100 :=
  ⟨Lib.itoa n, ⟨rfl, h0, h1⟩, by have := Lib.itoa_length_le n h0 h1; omega⟩
theorem ret_strT {a b : List UInt8} (h : a = b) : Ending.returned (.string ⟨a.toArray⟩) = .returned (.string ⟨b.toArray⟩) := by rw [h]
theorem fm_spec {n : Int} {L : List UInt8} (h : Fm n L) (w : World) : Calls Tryd.prog 46 #[.int .i64 n] w fun e w' => e = .returned (.string ⟨L.toArray⟩) ∧ Below w.heap.size w w' := by
  obtain ⟨rfl, h0, h1⟩ := h
  exact sformat_any n h0 h1 w
/-- Two strings are joined: the list of the bytes, and what '+' does. -/
theorem cat_run (P : Program) (x y : List UInt8) (m n : Nat) (hx : x.length ≤ m) (hy : y.length ≤ n) (hm : m + n ≤ 1000000) : ∃ z : List UInt8, z.length ≤ m + n ∧ z = x ++ y ∧ ∀ w, (Op.stringOp .add ⟨x.toArray⟩ ⟨y.toArray⟩).run P w = .ok (.string ⟨z.toArray⟩) w :=
  ⟨x ++ y, by simp; omega, rfl, fun w => by
    rw [run_string_add_sum w _ _ (by simp [ByteArray.size]; omega), ByteArray.mk_append_mk]⟩
theorem slice1_run (F : List UInt8) (h : 1 ≤ F.length) (w : World) : (Instr.slice 9 (.string ⟨F.toArray⟩) (some (.int .i64 1)) none none).run Tryd.prog w = .ok (.string ⟨(F.drop 1).toArray⟩) w := by
  rw [run_slice_string_l w 9 _ Tryd.underlying9 .i64 1 (by omega) (by simp [ByteArray.size]; omega)]
  have e : ByteArray.extract ⟨F.toArray⟩ (Int.toNat 1) (ByteArray.size ⟨F.toArray⟩) = ⟨(F.drop 1).toArray⟩ := by
    apply ByteArray.ext
    apply Array.ext'
    exact Lib.extract_to_end ⟨F.toArray⟩ 1
  rw [e]
end Go.Proofs.YtohfepcdgbgojabDoor
