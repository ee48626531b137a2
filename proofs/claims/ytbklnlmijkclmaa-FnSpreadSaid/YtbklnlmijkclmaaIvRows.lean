/- Contracts of laws.szIntervalS, laws.toIntervalS and laws.eqIntervalS. -/
import Derived.Test.YtbklnlmijkclmaaIvCells
import Derived.Test.YtbklnlmijkclmaaToneWalks
import Derived.Test.YtbklnlmijkclmaaIntRows
import Derived.BigRegion
import Derived.Deep.RegionWith
import Derived.Deep.DeepCutAuto
import Derived.Test.YtbklnlmijkclmaaSameTone
namespace Go.Proofs.Ytbklnlmijkclmaa
open Go.RowKit Go.Joins
set_option linter.unusedVariables false
/-- A slice of intervals that came in, as it is read. -/
def IvRow (W : World) (a : Option Addr) (len : Nat) (xs : List Iv) : Prop := xs.length = len ∧ len ≤ 9223372036854775807 ∧ ∀ i, i < len → ∃ g off, a = some ⟨g, off, none⟩ ∧ g < W.heap.size ∧ W.cell? ⟨g, off + i * 4, none⟩ = some (.int .i64 (ivAt xs i).two) ∧ W.cell? ⟨g, off + i * 4 + 1, none⟩ = some (.int .i64 (ivAt xs i).three) ∧ W.cell? ⟨g, off + i * 4 + 2, none⟩ = some (.int .i64 (ivAt xs i).five) ∧ W.cell? ⟨g, off + i * 4 + 3, none⟩ = some (.int .i64 (ivAt xs i).root)
theorem ivRow_below {W w : World} {a : Option Addr} {len : Nat} {xs : List Iv} (h : IvRow W a len xs) (hb : Below W.heap.size W w) : IvRow w a len xs := by
  refine ⟨h.1, h.2.1, fun i hi => ?_⟩
  obtain ⟨g, off, ha, hg, h0, h1, h2, h3⟩ := h.2.2 i hi
  exact ⟨g, off, ha, Nat.lt_of_lt_of_le hg hb.size, (hb.cell hg).trans h0, (hb.cell hg).trans h1, (hb.cell hg).trans h2, (hb.cell hg).trans h3⟩
theorem info_parts4 {P : Program} {t : TypeId} {z : Value} {n b : Nat} (h : (P.info? t).map (fun i => (i.zero, i.size, i.bytes)) = some (some z, n, b)) : ∃ i, P.info? t = some i ∧ i.zero = some z ∧ i.size = n ∧ i.bytes = b := by
  obtain ⟨i, h1, h2⟩ := Option.map_eq_some_iff.1 h
  simp only [Prod.mk.injEq] at h2
  exact ⟨i, h1, h2.1, h2.2.1, h2.2.2⟩
theorem made4 (z : Value) (m : Nat) : (madeCells #[z, z, z, z] m).toList = List.replicate m z := by
  rw [List.eq_replicate_iff]
  refine ⟨by simp [madeCells], fun b hb => ?_⟩
  simp only [madeCells, Array.toList_map, List.mem_map] at hb
  obtain ⟨j, _, rfl⟩ := hb
  rcases (show j % 4 = 0 ∨ j % 4 = 1 ∨ j % 4 = 2 ∨ j % 4 = 3 from by omega) with h | h | h | h
  all_goals (show #[z, z, z, z][j % 4]! = z; rw [h]; rfl)
theorem ivCs_rep : ∀ n, ivCs (List.replicate n ⟨0, 0, 0, 0⟩) = List.replicate (n * 4) (.int .i64 0)
  | 0 => rfl
  | n + 1 => by
    rw [List.replicate_succ, show (n + 1) * 4 = n * 4 + 1 + 1 + 1 + 1 from by omega, List.replicate_succ, List.replicate_succ, List.replicate_succ, List.replicate_succ]
    unfold ivCs
    rw [ivCs_rep n]
theorem ivCs_set : ∀ (xs : List Iv) (k : Nat) (x : Iv), k < xs.length → ((((ivCs xs).set (k * 4) (.int .i64 x.two)).set (k * 4 + 1) (.int .i64 x.three)).set (k * 4 + 2) (.int .i64 x.five)).set (k * 4 + 3) (.int .i64 x.root) = ivCs (xs.set k x)
  | [], k, x, h => by simp at h
  | y :: xs, 0, x, _ => by simp [ivCs]
  | y :: xs, k + 1, x, h => by
    have ih := ivCs_set xs k x (by simpa using h)
    rw [List.set_cons_succ]
    unfold ivCs
    rw [← ih, show (k + 1) * 4 = k * 4 + 1 + 1 + 1 + 1 from by omega]
    simp only [List.set_cons_succ, show k * 4 + 1 + 1 + 1 + 1 + 1 = k * 4 + 1 + 1 + 1 + 1 + 1 from rfl, show k * 4 + 1 + 1 + 1 + 1 + 2 = k * 4 + 2 + 1 + 1 + 1 + 1 from by omega, show k * 4 + 1 + 1 + 1 + 1 + 3 = k * 4 + 3 + 1 + 1 + 1 + 1 from by omega]
def copiedIv (xs : List Iv) (k n : Nat) : List Iv := xs.take k ++ List.replicate (n - k) ⟨0, 0, 0, 0⟩
theorem copiedIv_len (xs : List Iv) (k n : Nat) (h : k ≤ n) (hx : xs.length = n) : (copiedIv xs k n).length = n := by simp [copiedIv]; omega
theorem copiedIv_set (xs : List Iv) (k n : Nat) (h : k < n) (hx : xs.length = n) : (copiedIv xs k n).set k (ivAt xs k) = copiedIv xs (k + 1) n := by
  unfold copiedIv
  have e : (xs.take k).length = k := by simp; omega
  have e4 : xs.take (k + 1) = xs.take k ++ [ivAt xs k] := by rw [List.take_succ_eq_append_getElem (by omega)]; congr 1; simp [ivAt, List.getElem?_eq_getElem (show k < xs.length by omega)]
  rw [List.set_append_right _ _ (by omega), e, Nat.sub_self, show n - k = (n - (k + 1)) + 1 from by omega, List.replicate_succ, List.set_cons_zero, e4, List.append_assoc]
  rfl
theorem ownIv_eq {w : World} {base : Nat} {e : TypeId} {v : Value} {n : Nat} {xs ys : List Iv} (h : w.ownsRow base e 4 v n (ivCs xs)) (hx : xs = ys) (hn : n = ys.length) : w.ownsRow base e 4 v ys.length (ivCs ys) := by subst hx; subst hn; exact h
/-- One element of two rows. -/
def TwoAt (g m o : Nat) (X : Iv) (w : World) : Prop := g < w.heap.size ∧ m < w.heap.size ∧ (w.cell? ⟨g, o, none⟩ = some (.int .i64 X.two) ∧ w.cell? ⟨g, o + 1, none⟩ = some (.int .i64 X.three) ∧ w.cell? ⟨g, o + 2, none⟩ = some (.int .i64 X.five) ∧ w.cell? ⟨g, o + 3, none⟩ = some (.int .i64 X.root)) ∧ (w.cell? ⟨m, o, none⟩ = some (.int .i64 X.two) ∧ w.cell? ⟨m, o + 1, none⟩ = some (.int .i64 X.three) ∧ w.cell? ⟨m, o + 2, none⟩ = some (.int .i64 X.five) ∧ w.cell? ⟨m, o + 3, none⟩ = some (.int .i64 X.root))
theorem twoAt_keep {W w : World} {g m o : Nat} {X : Iv} (hb : Below W.heap.size W w) (h : TwoAt g m o X W) : TwoAt g m o X w :=
  ⟨Nat.lt_of_lt_of_le h.1 hb.size, Nat.lt_of_lt_of_le h.2.1 hb.size, ⟨(hb.cell h.1).trans h.2.2.1.1, (hb.cell h.1).trans h.2.2.1.2.1, (hb.cell h.1).trans h.2.2.1.2.2.1, (hb.cell h.1).trans h.2.2.1.2.2.2⟩, ⟨(hb.cell h.2.1).trans h.2.2.2.1, (hb.cell h.2.1).trans h.2.2.2.2.1, (hb.cell h.2.1).trans h.2.2.2.2.2.1, (hb.cell h.2.1).trans h.2.2.2.2.2.2⟩⟩
theorem twoAt_drew {w : World} {g m o : Nat} {X : Iv} (h : TwoAt g m o X w) : TwoAt g m o X w.drew := h
theorem twoAt_cells {w : World} {g m o : Nat} {X : Iv} (h : TwoAt g m o X w) : w.cell? ⟨g, o, none⟩ = some (.int .i64 X.two) ∧ w.cell? ⟨g, o + 1, none⟩ = some (.int .i64 X.three) ∧ w.cell? ⟨g, o + 2, none⟩ = some (.int .i64 X.five) ∧ w.cell? ⟨g, o + 3, none⟩ = some (.int .i64 X.root) ∧ w.cell? ⟨m, o, none⟩ = some (.int .i64 X.two) ∧ w.cell? ⟨m, o + 1, none⟩ = some (.int .i64 X.three) ∧ w.cell? ⟨m, o + 2, none⟩ = some (.int .i64 X.five) ∧ w.cell? ⟨m, o + 3, none⟩ = some (.int .i64 X.root) := ⟨h.2.2.1.1, h.2.2.1.2.1, h.2.2.1.2.2.1, h.2.2.1.2.2.2, h.2.2.2⟩
end Go.Proofs.Ytbklnlmijkclmaa
