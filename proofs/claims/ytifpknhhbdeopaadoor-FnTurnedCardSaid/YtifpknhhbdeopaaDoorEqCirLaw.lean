/- Contracts of impl.EqualCircle and spec.EqualCircle; the walk of laws.FnExactEqualCircle. -/
import Derived.Test.YtifpknhhbdeopaaDoorEqualCir
import Derived.Test.YtifpknhhbdeopaaDoorCirOkLaw
import Derived.Deep.DeepCutAuto
namespace Go.Proofs.YtifpknhhbdeopaaDoor
open Go.RowKit Go.Joins
set_option linter.unusedVariables false
theorem alloc_at {w : World} {o o' : Obj} : ((w.alloc o).alloc o').heap[w.heap.size + 1]? = some o' := by
  have := heap_alloc_new (w.alloc o) o'
  rwa [show (w.alloc o).heap.size = w.heap.size + 1 from by simp] at this
set_option maxHeartbeats 1000000 in
theorem equal_spec (w : World) : Calls Tryd.prog 25 #[] w (CirPost onesL w) := by
  go_enter Tryd.func25, Tryd.ntmps25
  go_wp2_with fail
  refine bodyPost_ret (v := cirV (.slice (some ⟨w.heap.size + 1, 0, none⟩) 12 12)) (by simp [results, Tryd.results25, go_sem]) rfl ⟨_, rfl, own_of_heap (xs := onesL) ?_ (by omega) rfl (by decide), below_alloc2 _ _ _⟩
  exact alloc_at
theorem calls_cir {P : Program} {k : FuncId} {args : Array Value} {W w : World} {xs : List Int} (h : Below W.heap.size W w) (hk : Calls P k args w (CirPost xs w)) :
    Calls P k args w fun e w' => ∃ v, e = .returned (cirV v) ∧ w'.ownsRow w.heap.size 3 1 v xs.length (intCs xs) ∧ Below W.heap.size W w' :=
  hk.mono fun _ _ ⟨v, he, o, b⟩ => ⟨v, he, o, h.trans (b.mono h.size)⟩
/-- A result that is a circle, laid into a block of its own. -/
theorem cir_laid {W w1 : World} {v : Value} {xs : List Int} {n : Nat} (hW : W.heap.size ≤ w1.heap.size) (hn : xs.length = n) (o1 : w1.ownsRow W.heap.size 3 1 v xs.length (intCs xs)) :
    ∃ p c, v = .slice p n c ∧ One w1.heap.size (.slice p n c) (w1.alloc (.cells #[.slice p n c] 26)) ∧ (w1.alloc (.cells #[.slice p n c] 26)).ownsRow W.heap.size 3 1 (.slice p n c) n (intCs xs) ∧ ∀ g, (Value.slice p n c).ownBlock = some g → W.heap.size ≤ g ∧ g < w1.heap.size := by
  rw [hn] at o1
  obtain ⟨p, c, rfl⟩ := own_slice o1
  exact ⟨p, c, rfl, one_alloc, own_below o1 (below_alloc1 _ _), fun g hg => o1.lt g hg⟩
theorem one_grown {w w' : World} {m : Nat} {v : Value} {r : Option Nat} (h : One m v w) (hg : w.grownBy w' r) (hr : r ≠ some m) : One m v w' := by
  have e := hg.block m h.1 (fun e => hr e.symm)
  exact ⟨Nat.lt_of_lt_of_le h.1 hg.size, (World.cell?_of_block (w := w) (a := ⟨m, 0, none⟩) e).trans h.2.1, fun o => (World.frozen?_of_block (w := w) (a := ⟨m, o, none⟩) e).trans (h.2.2 o)⟩
/-- A row is kept where another block is written. -/
theorem own_grownC {w w' : World} {base : Nat} {e : TypeId} {v : Value} {n : Nat} {xs : List Value} {r : Option Nat} (h : w.ownsRow base e 1 v n xs) (hg : w.grownBy w' r) (hr : ∀ g, v.ownBlock = some g → r ≠ some g) : w'.ownsRow base e 1 v n xs := by
  refine h.kept hg ?_
  cases hv : v.ownBlock
  · exact .inl rfl
  · exact .inr (fun e => hr _ hv e.symm)
end Go.Proofs.YtifpknhhbdeopaaDoor
