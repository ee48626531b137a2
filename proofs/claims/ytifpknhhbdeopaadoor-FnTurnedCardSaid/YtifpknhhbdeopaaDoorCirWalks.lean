/- Circles: a struct of one row of ints. Contracts of laws.szCircle, laws.toCircle, laws.eqCircle, laws.markCircle, laws.heldCircle. -/
import Derived.Test.YtifpknhhbdeopaaDoorMarkOwn
import Derived.Test.YtifpknhhbdeopaaDoorToneWalks
import Derived.OpenShut
import Derived.Lib.SmallJoins
namespace Go.Proofs.YtifpknhhbdeopaaDoor
open Go.RowKit Go.Joins Go.WideShapes Go.ChangeShapes Go.ChangeAt
set_option linter.unusedVariables false
/-- The value of a circle. -/
abbrev cirV (v : Value) : Value := .agg #[v]
/-- One value lies at block m, and it may be written. -/
def One (m : Nat) (v : Value) (w : World) : Prop := m < w.heap.size ∧ w.cell? ⟨m, 0, none⟩ = some v ∧ ∀ o, w.frozen? ⟨m, o, none⟩ = false
theorem one_alloc {w : World} {v : Value} {t : TypeId} : One w.heap.size v (w.alloc (.cells #[v] t)) := ⟨by simp, by simp [go_sem], fun o => by simp [go_sem]⟩
theorem one_keep {W w : World} {m : Nat} {v : Value} (hb : Below W.heap.size W w) (h : One m v W) : One m v w :=
  ⟨Nat.lt_of_lt_of_le h.1 hb.size, (hb.cell h.1).trans h.2.1, fun o => (hb.frozen h.1).trans (h.2.2 o)⟩
theorem one_al {w : World} {m : Nat} {v : Value} {o : Obj} (h : One m v w) : One m v (w.alloc o) := one_keep ((Below.refl _ _).alloc (Nat.le_refl _) o) h
theorem one_set {w : World} {m : Nat} {v u : Value} (h : One m v w) : One m u (w.setCell ⟨m, 0, none⟩ u) :=
  ⟨by simpa using h.1, by simp [go_sem, h.2.1], fun o => by simp [go_sem, h.2.2]⟩
theorem one_oth {w : World} {n m j : Nat} {v u : Value} (hn : n ≠ m) (h : One m v w) : One m v (w.setCell ⟨n, j, none⟩ u) :=
  ⟨by simpa using h.1, (World.cell?_setCell_other _ _ _ _ (fun e => hn (by injection e))).trans h.2.1, fun o => by simp [go_sem, h.2.2]⟩
theorem own_base {w : World} {b b' : Nat} {e : TypeId} {size : Nat} {v : Value} {n : Nat} {xs : List Value} (h : w.ownsRow b' e size v n xs) (hb : b ≤ b') : w.ownsRow b e size v n xs := by
  refine ⟨h.1, ?_⟩
  rcases h.2 with h1 | ⟨g, cap, cur, h1, h2, h3⟩
  · exact .inl h1
  · exact .inr ⟨g, cap, cur, h1, Nat.le_trans hb h2, h3⟩
theorem own_slice {w : World} {base : Nat} {e : TypeId} {v : Value} {n : Nat} {xs : List Value} (h : w.ownsRow base e 1 v n xs) : ∃ p c, v = .slice p n c := by
  rcases own_shape h with ⟨h, h'⟩ | ⟨g, cap, h, _⟩
  · exact ⟨_, _, by rw [h, h']⟩
  · exact ⟨_, _, h⟩
theorem grown_row {w w' : World} (h : Below w.heap.size w w') (r : Option Nat) : w.grownBy w' r := ⟨h.os, h.tape, h.output, h.size, fun k hk _ => h.block k hk⟩
section
variable {H : Type} {enc : TypeId × Value → H} {P : Program} {w : World} {base : Nat} {held : Bool}
/-- A struct of one slice of ints, by value, opened. -/
theorem open_cir {r : Reach} {b0 : Nat} {t e i : TypeId} {f0 : Field} {v : Value} {d : DataW H} {p : List MemPlace} (hs : P.underlying t = some (.struct #[f0])) (ht : P.underlying e = some (.slice i)) (hi : P.underlying i = some (.int .i64)) (h1 : f0.type = e) (h2 : f0.offset = 0) (h3 : P.cellsOf e = 1) (hci : P.cellsOf i = 1) (hC : P.cellsOf t = 1)
    (hv : Value.okWide P w r b0 t v) (h : DataW.Trod enc P w base (fun _ => true) held t v d p) :
    ∃ a len cap zs, v = .agg #[.slice a len cap] ∧ IsRow .i64 w a len cap zs := by
  obtain ⟨cs, rfl, hsz⟩ := okWide_struct hs hv
  obtain ⟨c0, rfl⟩ : ∃ c0, cs = #[c0] := by
    have hz := hsz.trans hC
    obtain ⟨l⟩ := cs
    match l, hz with
    | [c0], _ => exact ⟨c0, rfl⟩
  obtain ⟨fuel, hf'⟩ := h
  obtain ⟨xs, n, _, _, hl, hlen, hg⟩ := DataW.trod_struct hs hf'
  match xs, hlen with
  | [y0], _ =>
    have k0 := hg 0 f0 rfl
    rw [h1, h2, h3] at k0
    have k1 : DataW.trod enc P w base (fun _ => true) held n e [c0] = some y0 := by simpa [Value.cells] using k0
    obtain ⟨a, len, cap, hcs⟩ := slice_form ht k1
    simp only [List.cons.injEq, and_true] at hcs
    subst hcs
    rcases open_ints ht hi hci k1 with ⟨hcs, _⟩ | ⟨x, l, c, zs, hcs, _, hl, hm, hz, _, hcell, hwz⟩
    · simp at hcs; obtain ⟨rfl, rfl, rfl⟩ := hcs; exact ⟨none, 0, 0, [], rfl, .inl ⟨rfl, rfl, rfl, rfl⟩⟩
    · simp at hcs; obtain ⟨rfl, rfl, rfl⟩ := hcs; exact ⟨_, _, _, zs, rfl, .inr ⟨_, rfl, hl, hm, by simpa using hz, hcell, hwz⟩⟩
end
/-- What a function that makes a circle leaves. -/
def CirPost (xs : List Int) (w : World) (e : Ending) (w' : World) : Prop :=
  ∃ v, e = .returned (cirV v) ∧ w'.ownsRow w.heap.size 3 1 v xs.length (intCs xs) ∧ Below w.heap.size w w'
end Go.Proofs.YtifpknhhbdeopaaDoor
