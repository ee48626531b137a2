/- What impl.SameSize and spec.SameSize are made of: contracts told without a look inside. -/
import Derived.Test.YtneblpplkidkfaaIfOkWalks
import Derived.Test.YtneblpplkidkfaaNumBase
import Derived.Deep.DeepCutAuto
import Derived.Deep.RegionWith
namespace Go.Proofs.Ytneblpplkidkfaa
open Go.RowKit Go.Joins
set_option linter.unusedVariables false
/-- A call from a world behind W, told from W. -/
theorem calls_fromS {P : Program} {k : FuncId} {args : Array Value} {W w : World} {v : Value} (h : Below W.heap.size W w) (hk : Calls P k args w fun e w' => e = .returned v ∧ Below w.heap.size w w') :
    Calls P k args w fun e w' => e = .returned v ∧ Below W.heap.size W w' :=
  hk.mono fun _ _ ⟨he, hb⟩ => ⟨he, h.trans (hb.mono h.size)⟩
theorem boxesS (w : World) (a b c d e f g h : Int) (T U : TypeId) : ∃ W, W = (w.alloc (.cells #[.int .i64 a, .int .i64 b, .int .i64 c, .int .i64 d] T)).alloc (.cells #[.int .i64 e, .int .i64 f, .int .i64 g, .int .i64 h] U) ∧ Four w.heap.size a b c d W ∧ Four (w.heap.size + 1) e f g h W ∧ Below w.heap.size w W := by
  refine ⟨_, rfl, four_alF four_alloc, ?_, below_alloc2 w _ _⟩
  have e : w.heap.size + 1 = (w.alloc (.cells #[.int .i64 a, .int .i64 b, .int .i64 c, .int .i64 d] T)).heap.size := by simp
  rw [e]
  exact four_alloc
def PairS (n : Nat) (a b c d e f g h : Int) (w : World) : Prop := Four n a b c d w ∧ Four (n + 1) e f g h w
theorem pairS_keep {W w : World} {n : Nat} {a b c d e f g h : Int} (hb : Below W.heap.size W w) (hp : PairS n a b c d e f g h W) : PairS n a b c d e f g h w := ⟨four_keep hb hp.1, four_keep hb hp.2⟩
theorem pairS_cells {w : World} {n : Nat} {a b c d e f g h : Int} (hp : PairS n a b c d e f g h w) : w.cell? ⟨n, 0, none⟩ = some (.int .i64 a) ∧ w.cell? ⟨n, 1, none⟩ = some (.int .i64 b) ∧ w.cell? ⟨n, 2, none⟩ = some (.int .i64 c) ∧ w.cell? ⟨n, 3, none⟩ = some (.int .i64 d) ∧ w.cell? ⟨n + 1, 0, none⟩ = some (.int .i64 e) ∧ w.cell? ⟨n + 1, 1, none⟩ = some (.int .i64 f) ∧ w.cell? ⟨n + 1, 2, none⟩ = some (.int .i64 g) ∧ w.cell? ⟨n + 1, 3, none⟩ = some (.int .i64 h) := eightF hp.1 hp.2
theorem pairS_drew {w : World} {n : Nat} {a b c d e f g h : Int} (hp : PairS n a b c d e f g h w) : PairS n a b c d e f g h w.drew := hp
/-- Valid, or not, without a look inside. -/
def OkAt (a b c d : Int) (y : Bool) : Prop := okI a b c d = y
/-- The simplest form, without a look inside. -/
def SimAt (a b c d p q r s : Int) : Prop := okI a b c d = true ∧ p = a.tdiv (gcd4 a b c d) ∧ q = b.tdiv (gcd4 a b c d) ∧ r = c.tdiv (gcd4 a b c d) ∧ s = d.tdiv (gcd4 a b c d)
theorem simAt_ex {a b c d : Int} (h : okI a b c d = true) : ∃ p q r s, SimAt a b c d p q r s := ⟨_, _, _, _, h, rfl, rfl, rfl, rfl⟩
/-- Have two intervals the same size? -/
def same8 (a b c d e f g h : Int) : Bool := okI a b c d && okI e f g h && (a.tdiv (gcd4 a b c d) == e.tdiv (gcd4 e f g h)) && (b.tdiv (gcd4 a b c d) == f.tdiv (gcd4 e f g h)) && (c.tdiv (gcd4 a b c d) == g.tdiv (gcd4 e f g h)) && (d.tdiv (gcd4 a b c d) == h.tdiv (gcd4 e f g h))
theorem same8_at {a b c d e f g h p q r s p' q' r' s' : Int} (h1 : SimAt a b c d p q r s) (h2 : SimAt e f g h p' q' r' s') : same8 a b c d e f g h = ((p == p') && (q == q') && (r == r') && (s == s')) := by
  obtain ⟨k1, rfl, rfl, rfl, rfl⟩ := h1
  obtain ⟨k2, rfl, rfl, rfl, rfl⟩ := h2
  unfold same8
  rw [k1, k2]
  rfl
theorem same8_no1 {a b c d e f g h : Int} (hx : okI a b c d = false) : same8 a b c d e f g h = false := by unfold same8; rw [hx]; simp
theorem same8_no2 {a b c d e f g h : Int} (hx : okI e f g h = false) : same8 a b c d e f g h = false := by unfold same8; rw [hx]; simp
end Go.Proofs.Ytneblpplkidkfaa
