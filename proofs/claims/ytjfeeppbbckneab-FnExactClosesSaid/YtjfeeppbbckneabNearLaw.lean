/- The walk of laws.FnExactNearestHeard over the program's contract. -/
import Derived.Test.YtjfeeppbbckneabSNear
import Derived.Test.YtjfeeppbbckneabEqCirLaw
import Derived.Test.YtjfeeppbbckneabCirOkLaw
import Derived.Test.YtjfeeppbbckneabMarkOwn
namespace Go.Proofs.Ytjfeeppbbckneab
open Go.RowKit Go.Joins
set_option linter.unusedVariables false
/-- The circle that was answered, boxed. -/
theorem cirN_laid {w w1 : World} {v : Value} {xs : List Int} {n : Nat} (hs : w.heap.size ≤ w1.heap.size) (hn : n = xs.length) (o : w1.ownsRow w.heap.size 3 1 v xs.length (intCs xs)) :
    ∃ p c, v = .slice p n c ∧ One w1.heap.size (.slice p n c) (w1.alloc (.cells #[.slice p n c] 26)) ∧ (w1.alloc (.cells #[.slice p n c] 26)).ownsRow w.heap.size 3 1 (.slice p n c) n (intCs xs) ∧ (∀ g, (Value.slice p n c).ownBlock = some g → w.heap.size ≤ g ∧ g < w1.heap.size) := by
  rw [← hn] at o
  obtain ⟨p, c, rfl⟩ := own_slice o
  exact ⟨p, c, rfl, one_alloc, own_below o (below_alloc1 _ _), fun g e => o.lt g e⟩
theorem calls_toInts {W w : World} {a : Option Addr} {len cap : Nat} {zs ts : List Int} (h : Below W.heap.size W w) (hr : IsRow .i64 w a len cap zs) (hl : len ≤ 1048576) (hx : Hid (ts = zs.take len)) :
    Calls Try.prog 33 #[.slice a len cap] w fun e w' => ∃ v, e = .returned v ∧ w'.ownsRow w.heap.size 3 1 v ts.length (intCs ts) ∧ Below W.heap.size W w' := by
  rw [hx.out]
  exact (toInts_any w a len cap zs hr hl).mono fun e w' ⟨v, he, o, b⟩ => ⟨v, he, o, h.trans (b.mono h.size)⟩
end Go.Proofs.Ytjfeeppbbckneab
