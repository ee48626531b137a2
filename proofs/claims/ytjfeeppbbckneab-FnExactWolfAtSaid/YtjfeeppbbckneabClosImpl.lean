/- What chapter 16 asks of the program, a definition each. Written by closlaws.py. -/
import Derived.Test.YtjfeeppbbckneabClosMath
namespace Go.Proofs.Ytjfeeppbbckneab
open Go.RowKit Go.Joins
set_option linter.unusedVariables false
/-- The program's Closes answers as the model's. -/
def ClosesImpl : Prop := ∀ (xs : List Int) (w : World) (b : Nat) (e : TypeId) (v : Value), xs.length ≤ 2000000 → w.ownsRow b e 1 v xs.length (intCs xs) →
    Calls Try.prog 29 #[v] w fun en w' => en = .returned (.bool (closB xs)) ∧ Below w.heap.size w w'
/-- The program's WolfAt answers as the model's. -/
def WolfImpl : Prop := ∀ (xs : List Int) (y : Int), WolfTo xs y → ∀ (w : World) (b : Nat) (e : TypeId) (v : Value), xs.length ≤ 2000000 → w.ownsRow b e 1 v xs.length (intCs xs) →
    Calls Try.prog 26 #[cirV v] w fun en w' => en = .returned (.int .i64 y) ∧ Below w.heap.size w w'
/-- The program's IsRegular answers as the model's. -/
def RegularImpl : Prop := ∀ (xs : List Int) (y : Bool), RegTo xs y → ∀ (w : World) (b : Nat) (e : TypeId) (v : Value), xs.length ≤ 2000000 → w.ownsRow b e 1 v xs.length (intCs xs) →
    Calls Try.prog 30 #[cirV v] w fun en w' => en = .returned (.bool y) ∧ Below w.heap.size w w'
/-- The program's GroupSum answers as the model's. -/
def GroupSumImpl : Prop := ∀ (xs : List Int) (i p q r s : Int), GsAt xs i p q r s → ∀ (w : World) (b : Nat) (e : TypeId) (v : Value), xs.length ≤ 2000000 → w.ownsRow b e 1 v xs.length (intCs xs) →
    Calls Try.prog 27 #[cirV v, .int .i64 i] w fun en w' => en = .returned (ivV p q r s) ∧ Below w.heap.size w w'
/-- The program's GroupThirds answers as the model's. -/
def GroupThirdsImpl : Prop := ∀ (xs : List Int) (i p q r : Int), GtAt xs i p q r → ∀ (w : World) (b : Nat) (e : TypeId) (v : Value), xs.length ≤ 2000000 → w.ownsRow b e 1 v xs.length (intCs xs) →
    Calls Try.prog 24 #[cirV v, .int .i64 i] w fun en w' => en = .returned (.tuple #[.int .i64 p, .int .i64 q, .int .i64 r]) ∧ Below w.heap.size w w'
/-- What LastPart answers. -/
def LpAt (xs : List Int) (p : Int) (z : Bool) : Prop :=
  ((xs.length = 11 ∧ ∀ j, j < 11 → 0 ≤ xs.getD j 0 ∧ xs.getD j 0 ≤ 12) ∧ p = 12 - sumTo xs 11 ∧ z = true) ∨ (¬ (xs.length = 11 ∧ ∀ j, j < 11 → 0 ≤ xs.getD j 0 ∧ xs.getD j 0 ≤ 12) ∧ p = 0 ∧ z = false)
/-- The program's LastPart answers as the model's. -/
def LastImpl : Prop := ∀ (xs : List Int) (p : Int) (z : Bool), LpAt xs p z → ∀ (w : World) (b : Nat) (e : TypeId) (v : Value), xs.length ≤ 2000000 → w.ownsRow b e 1 v xs.length (intCs xs) →
    Calls Try.prog 25 #[v] w fun en w' => en = .returned (.tuple #[.int .i64 p, .bool z]) ∧ Below w.heap.size w w'
theorem take_getD {xs : List Int} {n : Nat} : ∀ j, j < n → (xs.take n).getD j 0 = xs.getD j 0 := fun j hj => by
  rw [List.getD_eq_getElem?_getD, List.getD_eq_getElem?_getD, List.getElem?_take_of_lt hj]
theorem take_sum {xs : List Int} {n : Nat} : ∀ k, k ≤ n → sumTo (xs.take n) k = sumTo xs k
  | 0, _ => rfl
  | k + 1, h => by
    unfold sumTo
    rw [take_sum k (by omega), take_getD k (by omega)]
/-- The last part follows from the eleven others. -/
theorem last_cir {xs : List Int} (h : CirOk xs) : LpAt (xs.take 11) (xs.getD 11 0) true := by
  refine .inl ⟨⟨by rw [List.length_take, h.1]; rfl, fun j hj => by rw [take_getD j hj]; exact h.2.1 j (by omega)⟩, ?_, rfl⟩
  rw [take_sum 11 (by omega)]
  have e : sumTo xs 11 + xs.getD 11 0 = 12 := h.2.2
  omega
end Go.Proofs.Ytjfeeppbbckneab
