/- Cells that are kept over calls in a drawn region; a fresh interval of zeros that lies there. -/
import Derived.Test.YtjfeeppbbckneabCirOk
namespace Go.Proofs.Ytjfeeppbbckneab
open Go.RowKit Go.Joins
set_option linter.unusedVariables false
/-- An interval at block n, a value at block m. -/
abbrev TC (n m : Nat) (a b c d : Int) (v : Value) (w : World) : Prop := w.cell? ⟨n, 0, none⟩ = some (.int .i64 a) ∧ w.cell? ⟨n, 1, none⟩ = some (.int .i64 b) ∧ w.cell? ⟨n, 2, none⟩ = some (.int .i64 c) ∧ w.cell? ⟨n, 3, none⟩ = some (.int .i64 d) ∧ w.cell? ⟨m, 0, none⟩ = some v
theorem tc_keep {W w : World} {n m : Nat} {a b c d : Int} {v : Value} (hn : n < W.heap.size ∧ m < W.heap.size) (hb : Below W.heap.size W w) (H : TC n m a b c d v W) : TC n m a b c d v w := by
  obtain ⟨h0, h1, h2, h3, h4⟩ := H
  exact ⟨(hb.cell hn.1).trans h0, (hb.cell hn.1).trans h1, (hb.cell hn.1).trans h2, (hb.cell hn.1).trans h3, (hb.cell hn.2).trans h4⟩
theorem below_alC {W X : World} {o : Obj} (h : Below W.heap.size W X) : Below W.heap.size W (X.alloc o) := h.alloc h.size o
theorem below_set4C {W w : World} {m : Nat} {v0 v1 v2 v3 : Value} (hm : W.heap.size ≤ m) (h : Below W.heap.size W w) : Below W.heap.size W ((((w.setCell ⟨m, 0, none⟩ v0).setCell ⟨m, 1, none⟩ v1).setCell ⟨m, 2, none⟩ v2).setCell ⟨m, 3, none⟩ v3) :=
  (((h.setCell hm _).setCell hm _).setCell hm _).setCell hm _
/-- A fresh interval of zeros lies at block m, behind B. -/
abbrev Zc (B m : Nat) (w : World) : Prop := B ≤ m ∧ m < w.heap.size ∧ w.cell? ⟨m, 0, none⟩ = some (.int .i64 0) ∧ w.cell? ⟨m, 1, none⟩ = some (.int .i64 0) ∧ w.cell? ⟨m, 2, none⟩ = some (.int .i64 0) ∧ w.cell? ⟨m, 3, none⟩ = some (.int .i64 0) ∧ ∀ o, w.frozen? ⟨m, o, none⟩ = false
theorem zc_alloc {W X : World} {t : TypeId} (h : Below W.heap.size W X) : Zc W.heap.size X.heap.size (X.alloc (.cells #[.int .i64 0, .int .i64 0, .int .i64 0, .int .i64 0] t)) :=
  ⟨h.size, by simp, by simp [go_sem], by simp [go_sem], by simp [go_sem], by simp [go_sem], fun o => by simp [go_sem]⟩
theorem zc_drew {X : World} {B m : Nat} (h : Zc B m X) : Zc B m X.drew := h
theorem calls_zc {P : Program} {k : FuncId} {args : Array Value} {W w : World} {v : Value} {B m : Nat} (h : Below W.heap.size W w) (hz : Zc B m w) (hk : Calls P k args w fun e w' => e = .returned v ∧ Below w.heap.size w w') :
    Calls P k args w fun e w' => e = .returned v ∧ Below W.heap.size W w' ∧ Zc B m w' :=
  hk.mono fun _ _ ⟨he, hb⟩ => ⟨he, h.trans (hb.mono h.size), hz.1, Nat.lt_of_lt_of_le hz.2.1 hb.size, (hb.cell hz.2.1).trans hz.2.2.1, (hb.cell hz.2.1).trans hz.2.2.2.1, (hb.cell hz.2.1).trans hz.2.2.2.2.1, (hb.cell hz.2.1).trans hz.2.2.2.2.2.1, fun o => (hb.frozen (p := ⟨m, o, none⟩) hz.2.1).trans (hz.2.2.2.2.2.2 o)⟩
theorem four_setC {w : World} {B m : Nat} {p q r s : Int} (hz : Zc B m w) :
    Four m p q r s ((((w.setCell ⟨m, 0, none⟩ (.int .i64 p)).setCell ⟨m, 1, none⟩ (.int .i64 q)).setCell ⟨m, 2, none⟩ (.int .i64 r)).setCell ⟨m, 3, none⟩ (.int .i64 s)) :=
  four_set ⟨hz.2.1, hz.2.2.1, hz.2.2.2.1, hz.2.2.2.2.1, hz.2.2.2.2.2.1⟩
end Go.Proofs.Ytjfeeppbbckneab
