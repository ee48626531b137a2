/- A circle that is turned, and turned back; what laws.FnTurned calls. -/
import Derived.Test.YtohfepcdgbgojabDoorThirdAt
import Derived.Test.YtohfepcdgbgojabDoorCirTurn
import Derived.Test.YtohfepcdgbgojabDoorCirText
namespace Go.Proofs.YtohfepcdgbgojabDoor
open Go.RowKit Go.Joins
set_option linter.unusedVariables false
theorem turn_sum (xs : List Int) {n : Nat} : ∀ k, k ≤ 12 → sumTo (turnTo xs n 12) k = cycTo xs n k
  | 0, _ => rfl
  | k + 1, h => by
    unfold sumTo cycTo
    rw [turn_sum xs k (by omega), turn_get xs n k 12 (by omega), Nat.add_comm k n]
theorem turn_ok {xs : List Int} (hc : CirOk xs) (n : Nat) : CirOk (turnTo xs n 12) := by
  refine ⟨turn_len xs n 12, fun j hj => ?_, ?_⟩
  · rw [turn_get xs n j 12 hj]
    exact cir_part hc (by omega)
  · rw [turn_sum xs 12 (Nat.le_refl _), cyc_all]
    exact hc.2.2
/-- Turning a circle turns its sums. -/
theorem turn_cyc (xs : List Int) (n i : Nat) : ∀ k, cycTo (turnTo xs n 12) i k = cycTo xs ((i + n) % 12) k
  | 0 => rfl
  | k + 1 => by
    unfold cycTo
    rw [turn_cyc xs n i k, turn_get xs n _ 12 (by omega), show ((i + k) % 12 + n) % 12 = ((i + n) % 12 + k) % 12 from by omega]
/-- The circle is turned back. -/
theorem turn_back {xs : List Int} (hl : xs.length = 12) {n : Nat} (hn : n < 12) : turnTo (turnTo xs n 12) ((12 - n) % 12) 12 = xs := by
  refine ext_getD (by rw [turn_len, hl]) fun j hj => ?_
  rw [turn_len] at hj
  rw [turn_get _ _ j 12 hj, turn_get xs n _ 12 (by omega), show ((j + (12 - n) % 12) % 12 + n) % 12 = j from by omega]
/-- A valid circle's text is not empty. -/
theorem text_some {xs : List Int} (hc : CirOk xs) : cirT xs ≠ [] := by
  unfold cirT
  rw [if_pos hc]
  show Lib.join (itTo xs 11 ++ [Lib.itoa (xs.getD 11 0)]) [44] ≠ []
  rw [join_snoc _ _ _ (fun e => by have := itTo_len xs 11; rw [e] at this; cases this)]
  simp
/-- A function of a circle and a key, told without a look inside. -/
def PtSay (W : World) (v : Value) (i y : Int) : Prop := ∀ X, Below W.heap.size W X → Calls Tryd.prog 11 #[cirV v, .int .i64 i] X fun e w' => e = .returned (.int .i64 y) ∧ Below X.heap.size X w'
theorem pt_run {W : World} {v : Value} {i y : Int} (h : PtSay W v i y) (X : World) (hX : Below W.heap.size W X) : Calls Tryd.prog 11 #[cirV v, .int .i64 i] X fun e w' => e = .returned (.int .i64 y) ∧ Below X.heap.size X w' := h X hX
def TvSay (W : World) (v : Value) (i a b c d : Int) : Prop := ∀ X, Below W.heap.size W X → Calls Tryd.prog 13 #[cirV v, .int .i64 i] X fun e w' => e = .returned (ivV a b c d) ∧ Below X.heap.size X w'
theorem tv_run {W : World} {v : Value} {i a b c d : Int} (h : TvSay W v i a b c d) (X : World) (hX : Below W.heap.size W X) : Calls Tryd.prog 13 #[cirV v, .int .i64 i] X fun e w' => e = .returned (ivV a b c d) ∧ Below X.heap.size X w' := h X hX
def TxSay (W : World) (v : Value) (s : ByteArray) : Prop := ∀ X, Below W.heap.size W X → Calls Tryd.prog 12 #[cirV v] X fun e w' => e = .returned (.string s) ∧ Below X.heap.size X w'
theorem tx_run {W : World} {v : Value} {s : ByteArray} (h : TxSay W v s) (X : World) (hX : Below W.heap.size W X) : Calls Tryd.prog 12 #[cirV v] X fun e w' => e = .returned (.string s) ∧ Below X.heap.size X w' := h X hX
section
variable {xs : List Int} {W : World} {B : Nat} {e : TypeId} {v : Value}
theorem own12 (hc : CirOk xs) (o : W.ownsRow B e 1 v 12 (intCs xs)) {X : World} (hX : Below W.heap.size W X) : X.ownsRow B e 1 v xs.length (intCs xs) := own_eq (own_below o hX) (rfl : xs = xs) hc.1.symm
theorem pt_of (hc : CirOk xs) (o : W.ownsRow B e 1 v 12 (intCs xs)) {i : Nat} (hi : i < 12) {y : Int} (hy : y = cycTo xs i 4) : PtSay W v i y := fun X hX =>
  parts_impl (.inl ⟨⟨hc, by omega, by omega⟩, hy⟩) X _ _ v (by rw [hc.1]; omega) (own12 hc o hX)
theorem tv_of (hc : CirOk xs) (o : W.ownsRow B e 1 v 12 (intCs xs)) {i : Nat} (hi : i < 12) {p : Int} (hp : p = cycTo xs i 4) : TvSay W v i (thV p).two (thV p).three (thV p).five (thV p).root := fun X hX => by
  subst hp
  exact thirdAt_impl (.inl ⟨⟨hc, by omega, by omega⟩, rfl, rfl, rfl, rfl⟩) X _ _ v (by rw [hc.1]; omega) (own12 hc o hX)
theorem tx_of (hc : CirOk xs) (o : W.ownsRow B e 1 v 12 (intCs xs)) (ht : ItoaTab W) : TxSay W v ⟨(cirT xs).toArray⟩ := fun X hX =>
  text_impl X _ _ v xs (by rw [hc.1]; omega) (own12 hc o hX) (ht.below hX ht.lt)
/-- TurnCircle of a valid circle. -/
theorem turn_of (hc : CirOk xs) (o : W.ownsRow B e 1 v 12 (intCs xs)) {n : Nat} (hn : n < 12) : Calls Tryd.prog 10 #[cirV v, .int .i64 n] W fun en w' => ∃ p c, en = .returned (cirV (.slice p 12 c)) ∧ w'.ownsRow W.heap.size 3 1 (.slice p 12 c) 12 (intCs (turnTo xs n 12)) ∧ Below W.heap.size W w' := by
  refine (turn_impl (.inl ⟨⟨hc, by omega, by omega⟩, rfl⟩ : TuAt xs (n : Int) (turnTo xs n 12)) W _ _ v (by rw [hc.1]; omega) (own12 hc o (Below.refl _ _))).mono ?_
  rintro en w' ⟨v', rfl, o', b'⟩
  rw [turn_len] at o'
  obtain ⟨p, c, rfl⟩ := own_slice o'
  exact ⟨p, c, rfl, o', b'⟩
end
end Go.Proofs.YtohfepcdgbgojabDoor
