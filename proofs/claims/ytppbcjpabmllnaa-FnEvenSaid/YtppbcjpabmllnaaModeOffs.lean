/- What chapter 22 asks of the program at rows that begin anywhere, a definition each. -/
import Derived.Test.YtppbcjpabmllnaaOffRows
import Derived.Test.YtppbcjpabmllnaaModeFacts2
namespace Go.Proofs.Ytppbcjpabmllnaa
open Go.RowKit Go.Joins
set_option linter.unusedVariables false
/-- A scale whose row is new, but may begin anywhere in its block. -/
def ModPost (ys : List Int) (w : World) (e : Ending) (w' : World) : Prop := ∃ u, e = .returned (cirV u) ∧ OffI w' w.heap.size u ys.length ys ∧ Below w.heap.size w w'
def ModeOff : Prop := ∀ (xs : List Int) (i : Int) (ys : List Int), ModAt xs i ys → ∀ (w : World) (b : Nat) (v : Value), xs.length ≤ 2000000 → OffI w b v xs.length xs →
    Calls Try.prog 35 #[cirV v, .int .i64 i] w (ModPost ys w)
def SmOff : Prop := ∀ (xs ys : List Int) (y : Int), y = smF xs ys → ∀ (w : World) (b b' : Nat) (v v' : Value), xs.length ≤ 2000000 → ys.length ≤ 2000000 → OffI w b v xs.length xs → OffI w b' v' ys.length ys →
    Calls Try.prog 14 #[cirV v, cirV v'] w fun en w' => en = .returned (.int .i64 y) ∧ Below w.heap.size w w'
/-- HasTwoSizes at a row that begins anywhere. -/
def TwoMOff : Prop := ∀ (xs : List Int) (y : Bool), TwoAt xs y → ∀ (w : World) (b : Nat) (v : Value), xs.length ≤ 2000000 → OffI w b v xs.length xs →
    Calls Try.prog 15 #[cirV v] w fun en w' => en = .returned (.bool y) ∧ Below w.heap.size w w'
set_option maxRecDepth 100000 in
theorem scFld (v : Value) (w : World) : Sem.run Try.prog (Instr.field 26 (cirV v) 0) w = .ok v w := by
  first | rfl | simp [go_sem]
/-- A function of two rows that answers a bool, behind a world that is named. -/
def Fn2 (f : FuncId) (u1 u2 : Value) (z : Bool) (W2 W : World) : Prop := ∀ X, Below W2.heap.size W2 X → Calls Try.prog f #[u1, u2] X fun e w' => e = .returned (.bool z) ∧ Below W.heap.size W w'
theorem fn2_run {f : FuncId} {u1 u2 : Value} {z : Bool} {W2 W : World} (h : Fn2 f u1 u2 z W2 W) (X : World) (hX : Below W2.heap.size W2 X) : Calls Try.prog f #[u1, u2] X fun e w' => e = .returned (.bool z) ∧ Below W.heap.size W w' := h X hX
/-- A mode and a function of its row and another row. -/
def Md2 (f : FuncId) (v : Value) (i : Int) (u2 : Value) (z : Bool) (W : World) : Prop := ∀ X, Below W.heap.size W X → Calls Try.prog 35 #[cirV v, .int .i64 i] X fun e w' => ∃ u, e = .returned (cirV u) ∧ Fn2 f u u2 z w' W ∧ Below W.heap.size W w'
theorem md2_run {f : FuncId} {v : Value} {i : Int} {u2 : Value} {z : Bool} {W : World} (h : Md2 f v i u2 z W) (X : World) (hX : Below W.heap.size W X) : Calls Try.prog 35 #[cirV v, .int .i64 i] X fun e w' => ∃ u, e = .returned (cirV u) ∧ Fn2 f u u2 z w' W ∧ Below W.heap.size W w' := h X hX
theorem md2_mk (MO : ModeOff) {f : FuncId} {xs ys : List Int} {W : World} {b b2 : Nat} {v u2 : Value} {i : Int} {z : Bool} (hl : xs.length ≤ 2000000) (h : OffI W b v xs.length xs) (h2 : OffI W b2 u2 ys.length ys)
    (hf : ∀ (X : World) (b1 b2 : Nat) (u1 u2 : Value), OffI X b1 u1 (modF xs i).length (modF xs i) → OffI X b2 u2 ys.length ys → Calls Try.prog f #[u1, u2] X fun e w' => e = .returned (.bool z) ∧ Below X.heap.size X w') : Md2 f v i u2 z W := fun X hX =>
  (MO xs i _ rfl X b v hl (off_below h hX)).mono fun e2 w2 ⟨u, he, ou, bu⟩ =>
    have h3 : Below W.heap.size W w2 := hX.trans (bu.mono hX.size)
    ⟨u, he, fun Z hZ => (hf Z _ _ u u2 (off_below ou hZ) (off_below h2 (h3.trans (hZ.mono h3.size)))).mono fun _ _ ⟨h5, h6⟩ => ⟨h5, h3.trans ((hZ.trans (h6.mono hZ.size)).mono h3.size)⟩, h3⟩
theorem off_cir {xs : List Int} {k : FuncId} {args : Array Value} {w : World} (h : Calls Try.prog k args w (CirPost xs w)) : Calls Try.prog k args w (ModPost xs w) :=
  h.mono fun _ _ ⟨v, he, o, b⟩ => ⟨v, he, off_own o, b⟩
theorem calls_mod {k : FuncId} {args : Array Value} {W w : World} {xs : List Int} (h : Below W.heap.size W w) (hk : Calls Try.prog k args w (ModPost xs w)) :
    Calls Try.prog k args w fun e w' => ∃ v, e = .returned (cirV v) ∧ OffI w' w.heap.size v xs.length xs ∧ Below W.heap.size W w' :=
  hk.mono fun _ _ ⟨v, he, o, b⟩ => ⟨v, he, o, h.trans (b.mono h.size)⟩
/-- A result that begins anywhere, laid into a block of its own. -/
theorem sc_laidO {W w1 : World} {v : Value} {xs : List Int} {n : Nat} (hW : W.heap.size ≤ w1.heap.size) (hn : xs.length = n) (o1 : OffI w1 W.heap.size v xs.length xs) :
    ∃ p c, v = .slice p n c ∧ One w1.heap.size (.slice p n c) (w1.alloc (.cells #[.slice p n c] 26)) ∧ OffI (w1.alloc (.cells #[.slice p n c] 26)) W.heap.size (.slice p n c) n xs ∧ ∀ g, (Value.slice p n c).ownBlock = some g → W.heap.size ≤ g ∧ g < w1.heap.size := by
  rw [hn] at o1
  obtain ⟨p, c, rfl⟩ := off_slice o1
  exact ⟨p, c, rfl, one_alloc, off_below o1 (below_alloc1 _ _), fun g hg => off_lt o1 hg⟩
end Go.Proofs.Ytppbcjpabmllnaa
