/- Contract of impl.GreatestOf over a row of intervals that the call owns. -/
import Derived.Test.YtbckbmcnakedcaaDoorCompareTone
import Derived.Test.YtbckbmcnakedcaaDoorSameTone
import Derived.Test.YtbckbmcnakedcaaDoorIvCells
namespace Go.Proofs.YtbckbmcnakedcaaDoor
open Go.RowKit Go.Joins
set_option linter.unusedVariables false
/-- The greatest of the first k; none if one of them is not valid. -/
def gTo (xs : List Iv) : Nat → Option Nat
  | 0 => some 0
  | k + 1 => match gTo xs k with
    | none => none
    | some g => if okV (ivAt xs k) = true ∧ okV (ivAt xs g) = true then (if 0 < cmpV (ivAt xs k) (ivAt xs g) then some k else some g) else none
def gList (xs : List Iv) : Int := if xs.length = 0 ∨ 20 < xs.length then -1 else match gTo xs xs.length with | none => -1 | some g => (g : Int)
theorem gTo_none {xs : List Iv} {k : Nat} (h : gTo xs k = none) : ∀ m, k ≤ m → gTo xs m = none
  | 0, hm => by have : k = 0 := by omega
                subst this; exact h
  | m + 1, hm => by
    rcases (show k = m + 1 ∨ k ≤ m from by omega) with rfl | h'
    · exact h
    · unfold gTo; rw [gTo_none h m h']
theorem gTo_up {xs : List Iv} {k g : Nat} (h : gTo xs k = some g) (hok : okV (ivAt xs k) = true ∧ okV (ivAt xs g) = true) (hc : 0 < cmpV (ivAt xs k) (ivAt xs g)) : gTo xs (k + 1) = some k := by
  show (match gTo xs k with | none => none | some g => _) = _
  rw [h]; simp only; rw [if_pos hok, if_pos hc]
theorem gTo_stay {xs : List Iv} {k g : Nat} (h : gTo xs k = some g) (hok : okV (ivAt xs k) = true ∧ okV (ivAt xs g) = true) (hc : ¬ 0 < cmpV (ivAt xs k) (ivAt xs g)) : gTo xs (k + 1) = some g := by
  show (match gTo xs k with | none => none | some g => _) = _
  rw [h]; simp only; rw [if_pos hok, if_neg hc]
theorem gTo_bad {xs : List Iv} {k g : Nat} (h : gTo xs k = some g) (hok : ¬ (okV (ivAt xs k) = true ∧ okV (ivAt xs g) = true)) : gTo xs (k + 1) = none := by
  show (match gTo xs k with | none => none | some g => _) = _
  rw [h]; simp only; rw [if_neg hok]
theorem gList_bad {xs : List Iv} {k : Nat} (h : gTo xs k = none) (hk : k ≤ xs.length) : gList xs = -1 := by
  unfold gList
  rw [gTo_none h _ hk]
  split <;> rfl
theorem gList_some {xs : List Iv} {g : Nat} (h : gTo xs xs.length = some g) (h1 : 0 < xs.length) (h2 : xs.length ≤ 20) : gList xs = (g : Int) := by
  unfold gList
  rw [if_neg (by omega), h]
/-- compared, told without a look inside. -/
def CmpdPick (A : Addr) (a b c d e f g h : Int) (x : Int) (er : Value) : Prop := ∀ w, SenAt A w → Calls Tryd.prog 33 #[ivV a b c d, ivV e f g h] w fun en w' => en = .returned (.tuple #[.int .i64 x, er]) ∧ Below w.heap.size w w'
theorem cmpd_ok (A : Addr) {a b c d e f g h : Int} (hx : okI a b c d = true ∧ okI e f g h = true) : CmpdPick A a b c d e f g h (cmp8 a b c d e f g h) .nilIface := fun w hs => (compared_any A a b c d e f g h w hs).mono fun en w' hp => cmpPost_ok hx hp
theorem cmpd_bad (A : Addr) {a b c d e f g h : Int} (hx : ¬ (okI a b c d = true ∧ okI e f g h = true)) : CmpdPick A a b c d e f g h 0 (.iface 96 (.pointer (some A))) := fun w hs => (compared_any A a b c d e f g h w hs).mono fun en w' hp => cmpPost_bad hx hp
theorem cmpd_pick {A : Addr} {a b c d e f g h x : Int} {er : Value} (hh : CmpdPick A a b c d e f g h x er) (w : World) (hs : SenAt A w) : Calls Tryd.prog 33 #[ivV a b c d, ivV e f g h] w fun en w' => en = .returned (.tuple #[.int .i64 x, er]) ∧ Below w.heap.size w w' := hh w hs
/-- An interval in its own block, and one in a row. -/
def Both (m g o : Nat) (p q r s e f g' h : Int) (w : World) : Prop := Four m p q r s w ∧ g < w.heap.size ∧ w.cell? ⟨g, o, none⟩ = some (.int .i64 e) ∧ w.cell? ⟨g, o + 1, none⟩ = some (.int .i64 f) ∧ w.cell? ⟨g, o + 2, none⟩ = some (.int .i64 g') ∧ w.cell? ⟨g, o + 3, none⟩ = some (.int .i64 h)
theorem both_keep {W w : World} {m g o : Nat} {p q r s e f g' h : Int} (hb : Below W.heap.size W w) (hp : Both m g o p q r s e f g' h W) : Both m g o p q r s e f g' h w :=
  ⟨four_keep hb hp.1, Nat.lt_of_lt_of_le hp.2.1 hb.size, (hb.cell hp.2.1).trans hp.2.2.1, (hb.cell hp.2.1).trans hp.2.2.2.1, (hb.cell hp.2.1).trans hp.2.2.2.2.1, (hb.cell hp.2.1).trans hp.2.2.2.2.2⟩
theorem both_drew {w : World} {m g o : Nat} {p q r s e f g' h : Int} (hp : Both m g o p q r s e f g' h w) : Both m g o p q r s e f g' h w.drew := hp
theorem both_cells {w : World} {m g o : Nat} {p q r s e f g' h : Int} (hp : Both m g o p q r s e f g' h w) : w.cell? ⟨m, 0, none⟩ = some (.int .i64 p) ∧ w.cell? ⟨m, 1, none⟩ = some (.int .i64 q) ∧ w.cell? ⟨m, 2, none⟩ = some (.int .i64 r) ∧ w.cell? ⟨m, 3, none⟩ = some (.int .i64 s) ∧ w.cell? ⟨g, o, none⟩ = some (.int .i64 e) ∧ w.cell? ⟨g, o + 1, none⟩ = some (.int .i64 f) ∧ w.cell? ⟨g, o + 2, none⟩ = some (.int .i64 g') ∧ w.cell? ⟨g, o + 3, none⟩ = some (.int .i64 h) :=
  ⟨hp.1.2.1, hp.1.2.2.1, hp.1.2.2.2.1, hp.1.2.2.2.2, hp.2.2⟩
end Go.Proofs.YtbckbmcnakedcaaDoor
