/- What the walks of IntervalText share: texts of numbers, joined texts. -/
import Derived.Test.YtohhocheikdhlaaDoorToneOk
import Derived.Test.YtohhocheikdhlaaDoorFourMath
import Derived.Test.YtohhocheikdhlaaDoorSFormatWalks
import Derived.Deep.DeepCutAuto
namespace Go.Proofs.YtohhocheikdhlaaDoor
open Go.RowKit Go.Joins
set_option linter.unusedVariables false
theorem okI_bdT {a b c d : Int} (hx : okI a b c d = true) : 1 ≤ d ∧ d ≤ 12 ∧ -400 ≤ a ∧ a ≤ 400 ∧ -400 ≤ b ∧ b ≤ 400 ∧ -400 ≤ c ∧ c ≤ 400 := by unfold okI at hx; simpa using hx
theorem four_cells {w : World} {m : Nat} {p q r s : Int} (h : Four m p q r s w) : w.cell? ⟨m, 0, none⟩ = some (.int .i64 p) ∧ w.cell? ⟨m, 1, none⟩ = some (.int .i64 q) ∧ w.cell? ⟨m, 2, none⟩ = some (.int .i64 r) ∧ w.cell? ⟨m, 3, none⟩ = some (.int .i64 s) := h.2
theorem four_drewT {w : World} {m : Nat} {p q r s : Int} (h : Four m p q r s w) : Four m p q r s w.drew := h
theorem calls_fromT {P : Program} {k : FuncId} {args : Array Value} {W w : World} {v : Value} (h : Below W.heap.size W w) (hk : Calls P k args w fun e w' => e = .returned v ∧ Below w.heap.size w w') :
    Calls P k args w fun e w' => e = .returned v ∧ Below W.heap.size W w' :=
  hk.mono fun _ _ ⟨he, hb⟩ => ⟨he, h.trans (hb.mono h.size)⟩
/-- The text of a number. -/
def Fm (n : Int) (L : List UInt8) : Prop := L = Lib.itoa n ∧ -9223372036854775808 ≤ n ∧ n ≤ 9223372036854775807
theorem fm_get (n : Int) (h0 : -9223372036854775808 ≤ n) (h1 : n ≤ 9223372036854775807) : ∃ L, Fm n L ∧ L.length ≤ 100 :=
  ⟨Lib.itoa n, ⟨rfl, h0, h1⟩, by have := Lib.itoa_length_le n h0 h1; omega⟩
/-- The text of an interval. -/
def ivT (a b c d : Int) : List UInt8 := if okI a b c d = true then (if d = 1 then Lib.itoa a ++ [44] ++ Lib.itoa b ++ [44] ++ Lib.itoa c else Lib.itoa a ++ [44] ++ Lib.itoa b ++ [44] ++ Lib.itoa c ++ [47] ++ Lib.itoa d) else []
theorem ret_strT {a b : List UInt8} (h : a = b) : Ending.returned (.string ⟨a.toArray⟩) = .returned (.string ⟨b.toArray⟩) := by rw [h]
theorem fm_spec {n : Int} {L : List UInt8} (h : Fm n L) (w : World) : Calls Tryd.prog 31 #[.int .i64 n] w fun e w' => e = .returned (.string ⟨L.toArray⟩) ∧ Below w.heap.size w w' := by
  obtain ⟨rfl, h0, h1⟩ := h
  exact sformat_any n h0 h1 w
/-- Two strings are joined: the list of the bytes, and what '+' does. -/
theorem cat_run (P : Program) (x y : List UInt8) (m n : Nat) (hx : x.length ≤ m) (hy : y.length ≤ n) (hm : m + n ≤ 1000000) : ∃ z : List UInt8, z.length ≤ m + n ∧ z = x ++ y ∧ ∀ w, (Op.stringOp .add ⟨x.toArray⟩ ⟨y.toArray⟩).run P w = .ok (.string ⟨z.toArray⟩) w :=
  ⟨x ++ y, by simp; omega, rfl, fun w => by
    rw [run_string_add_sum w _ _ (by simp [ByteArray.size]; omega), ByteArray.mk_append_mk]⟩
end Go.Proofs.YtohhocheikdhlaaDoor
