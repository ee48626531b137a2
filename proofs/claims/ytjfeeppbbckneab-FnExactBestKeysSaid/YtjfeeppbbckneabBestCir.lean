/- A valid circle in a box; the four parts above a key by spec.l13Sum, told without a look inside. -/
import Derived.Test.YtjfeeppbbckneabThirdParts
namespace Go.Proofs.Ytjfeeppbbckneab
open Go.RowKit Go.Joins
set_option linter.unusedVariables false
/-- The sum of the four parts above a key. -/
def keyC (xs : List Int) (x : Int) : Int := cycTo xs x.toNat 4
/-- A valid circle lies at block m, its parts at block q. -/
def CirBox (xs : List Int) (m q c : Nat) (w : World) : Prop := (m < w.heap.size ∧ q < w.heap.size) ∧ w.cell? ⟨m, 0, none⟩ = some (.slice (some ⟨q, 0, none⟩) 12 c) ∧ ∀ j, j < 12 → w.cell? ⟨q, j, none⟩ = some (.int .i64 (xs.getD j 0))
theorem cirBox_below {xs : List Int} {m q c B : Nat} {w w' : World} (h : CirBox xs m q c w) (hB : m < B ∧ q < B) (hb : Below B w w') (hs : B ≤ w.heap.size) : CirBox xs m q c w' :=
  ⟨⟨Nat.lt_of_lt_of_le hB.1 (Nat.le_trans hs hb.size), Nat.lt_of_lt_of_le hB.2 (Nat.le_trans hs hb.size)⟩, (hb.cell (p := ⟨m, 0, none⟩) hB.1).trans h.2.1, fun j hj => (hb.cell (p := ⟨q, j, none⟩) hB.2).trans (h.2.2 j hj)⟩
theorem cirBox_keep {xs : List Int} {m q c : Nat} {w w' : World} (h : CirBox xs m q c w) (hb : Below w.heap.size w w') : CirBox xs m q c w' := cirBox_below h h.1 hb (Nat.le_refl _)
theorem cirBox_cell {xs : List Int} {m q c : Nat} {w : World} (h : CirBox xs m q c w) : w.cell? ⟨m, 0, none⟩ = some (.slice (some ⟨q, 0, none⟩) 12 c) := h.2.1
/-- The key of a place, as both sides reckon it. -/
theorem keyC_nat (xs : List Int) (a : Nat) : keyC xs (a : Int) = cycTo xs a 4 := by unfold keyC; rw [Int.toNat_natCast]
/-- l13Sum at one key, told without a look inside. -/
def SfSay (w : World) (q c : Nat) (a A : Int) : Prop := ∀ X, Below w.heap.size w X → Calls Try.prog 49 #[cirV (.slice (some ⟨q, 0, none⟩) 12 c), .int .i64 a, .int .i64 4] X fun e w' => e = .returned (.int .i64 A) ∧ Below X.heap.size X w'
theorem sf_run {w : World} {q c : Nat} {a A : Int} (h : SfSay w q c a A) (X : World) (hX : Below w.heap.size w X) : Calls Try.prog 49 #[cirV (.slice (some ⟨q, 0, none⟩) 12 c), .int .i64 a, .int .i64 4] X fun e w' => e = .returned (.int .i64 A) ∧ Below X.heap.size X w' := h X hX
theorem l13Sum_key {xs : List Int} (hc : CirOk xs) (a : Nat) (ha : a < 12) (w : World) (q c : Nat) (hq : q < w.heap.size) (hcl : ∀ j, j < 12 → w.cell? ⟨q, j, none⟩ = some (.int .i64 (xs.getD j 0))) :
    Calls Try.prog 49 #[cirV (.slice (some ⟨q, 0, none⟩) 12 c), .int .i64 (a : Int), .int .i64 4] w fun e w' => e = .returned (.int .i64 (keyC xs (a : Int))) ∧ Below w.heap.size w w' := by
  have k := l13Sum_any hc a 4 ha (by omega) w q c hq hcl
  rw [keyC_nat]
  exact k
theorem sfSay_at {xs : List Int} (hc : CirOk xs) {m q c a : Nat} (ha : a < 12) {w : World} (h : CirBox xs m q c w) : SfSay w q c a (keyC xs a) :=
  fun X hX => l13Sum_key hc a ha X q c (cirBox_keep h hX).1.2 (cirBox_keep h hX).2.2
end Go.Proofs.Ytjfeeppbbckneab
