/- A parameter that is a slice of intervals, opened. -/
import Derived.Test.YtbklnlmijkclmaaIvRows
import Derived.Deep.Slices
import Derived.Lib.SmallJoins
namespace Go.Proofs.Ytbklnlmijkclmaa
open Go.RowKit Go.Joins Go.Deep Go.ChangeShapes Go.WideShapes
set_option linter.unusedVariables false
theorem add_none (g off i : Nat) : (⟨g, off, none⟩ : Addr).add i = ⟨g, off + i, none⟩ := by unfold Addr.add; split <;> simp_all
theorem open_ivs {H : Type} {enc : TypeId × Value → H} {P : Program} {W : World} {base : Nat} {spare : Nat → Bool} {held : Bool} {t e : TypeId} {f0 f1 f2 f3 : Field} {a : Option Addr} {len cap : Nat} {d : DataW H} {p : List MemPlace}
    (ht : P.underlying t = some (.slice e)) (he : P.underlying e = some (.struct #[f0, f1, f2, f3])) (hone : oneCellFields P #[f0, f1, f2, f3] = true) (hC : P.cellsOf e = 4)
    (i0 : P.underlying f0.type = some (.int .i64)) (i1 : P.underlying f1.type = some (.int .i64)) (i2 : P.underlying f2.type = some (.int .i64)) (i3 : P.underlying f3.type = some (.int .i64))
    (h : DataW.Trod enc P W base spare held t (.slice a len cap) d p) : ∃ xs, IvRow W a len xs := by
  obtain ⟨fuel, hf⟩ := h
  rcases open_slice ht hf with ⟨hcs, _⟩ | ⟨x, l, c, m, n, D, Pl, hcs, hb, hl, hm, hmm, _, hx⟩
  · simp [Value.cells] at hcs
    obtain ⟨rfl, rfl, rfl⟩ := hcs
    exact ⟨[], rfl, by omega, fun i hi => by omega⟩
  · simp [Value.cells] at hcs
    obtain ⟨rfl, rfl, rfl⟩ := hcs
    have hlm : len ≤ m := by rw [hmm]; split <;> omega
    have each : ∀ i, i < len → ∃ X : Iv, ∃ g off, x = ⟨g, off, none⟩ ∧ g < W.heap.size ∧ W.cell? ⟨g, off + i * 4, none⟩ = some (.int .i64 X.two) ∧ W.cell? ⟨g, off + i * 4 + 1, none⟩ = some (.int .i64 X.three) ∧ W.cell? ⟨g, off + i * 4 + 2, none⟩ = some (.int .i64 X.five) ∧ W.cell? ⟨g, off + i * 4 + 3, none⟩ = some (.int .i64 X.root) := by
      intro i hi
      obtain ⟨cs', h1, h2⟩ := hx i (by omega)
      rw [hC] at h1
      obtain ⟨_, hlen, hcell⟩ := World.cells?_some h1
      obtain ⟨y0, y1, y2, y3, k, _, _, g0, g1, g2, g3⟩ := trod_struct4 he h2
      obtain ⟨o0, k0⟩ := hone_of hone 0 f0 rfl
      obtain ⟨o1, k1⟩ := hone_of hone 1 f1 rfl
      obtain ⟨o2, k2⟩ := hone_of hone 2 f2 rfl
      obtain ⟨o3, k3⟩ := hone_of hone 3 f3 rfl
      match cs', hlen with
      | [v0, v1, v2, v3], _ =>
        simp [o0, k0] at g0
        simp [o1, k1] at g1
        simp [o2, k2] at g2
        simp [o3, k3] at g3
        obtain ⟨z0, e0, _, _⟩ := DataW.trod_int i0 g0
        obtain ⟨z1, e1, _, _⟩ := DataW.trod_int i1 g1
        obtain ⟨z2, e2, _, _⟩ := DataW.trod_int i2 g2
        obtain ⟨z3, e3, _, _⟩ := DataW.trod_int i3 g3
        simp only [List.cons.injEq, and_true] at e0 e1 e2 e3
        subst e0 e1 e2 e3
        have c0 := hcell 0 (by omega)
        have c1 := hcell 1 (by omega)
        have c2 := hcell 2 (by omega)
        have c3 := hcell 3 (by omega)
        obtain ⟨g, off, sp⟩ := x
        have hsp : sp = none := by
          obtain ⟨cs2, k1', _⟩ := hx 0 (by omega)
          rw [hC] at k1'
          obtain ⟨_, hlen2, hcell2⟩ := World.cells?_some k1'
          have c9 := hcell2 0 (by omega)
          match cs2, hlen2 with
          | [u0, u1, u2, u3], _ => simpa [Addr.add] using World.cell?_spot (c9.trans rfl)
        subst hsp
        rw [add_none, add_none] at c0 c1 c2 c3
        have hlt : g < W.heap.size := by
          rcases Nat.lt_or_ge g W.heap.size with h' | h'
          · exact h'
          · simp [World.cell?, Array.getElem?_eq_none h'] at c0
        exact ⟨⟨z0, z1, z2, z3⟩, g, off, rfl, hlt, by simpa using c0, by simpa using c1, by simpa using c2, by simpa using c3⟩
    have : Inhabited Iv := ⟨⟨0, 0, 0, 0⟩⟩
    obtain ⟨f, hfx⟩ := choose_lt each
    refine ⟨(List.range len).map f, by simp, by unfold maxLen at hm; omega, fun i hi => ?_⟩
    obtain ⟨g, off, ha, hg, q0, q1, q2, q3⟩ := hfx i hi
    have hfi : ivAt ((List.range len).map f) i = f i := by simp [ivAt, hi]
    rw [hfi]
    exact ⟨g, off, by rw [ha], hg, q0, q1, q2, q3⟩
end Go.Proofs.Ytbklnlmijkclmaa
