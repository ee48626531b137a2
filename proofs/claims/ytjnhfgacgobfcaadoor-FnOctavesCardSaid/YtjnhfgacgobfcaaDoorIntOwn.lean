/- Lemmas on slices of ints that the call owns, without any Go text. -/
import Derived.Test.YtjnhfgacgobfcaaDoorBase
import Derived.Test.YtjnhfgacgobfcaaDoorOwnStr
import Derived.OpenShut
namespace Go.Proofs.YtjnhfgacgobfcaaDoor
open Go.RowKit
set_option linter.unusedVariables false
def intCs (xs : List Int) : List Value := xs.map (Value.int .i64)
theorem intCs_len (xs : List Int) : (intCs xs).length = xs.length := by simp [intCs]
theorem intCs_get (xs : List Int) (j : Nat) (h : j < xs.length) : (intCs xs)[j]? = some (.int .i64 (xs.getD j 0)) := by simp [intCs, h]
theorem intCs_app (xs ys : List Int) : intCs (xs ++ ys) = intCs xs ++ intCs ys := by simp [intCs]
theorem own_icell {w : World} {base : Nat} {e : TypeId} {g n cap : Nat} {xs : List Int} (h : w.ownsRow base e 1 (.slice (some ⟨g, 0, none⟩) n cap) n (intCs xs)) (j : Nat) (hj : j < n) : w.cell? ⟨g, j, none⟩ = some (.int .i64 (xs.getD j 0)) := by
  have := h.1
  rw [intCs_len] at this
  rw [h.cellAt j (by omega), intCs_get xs j (by omega)]
/-- What a function that makes a slice of ints leaves. -/
def OwnPost (T : TypeId) (xs : List Int) (w : World) (e : Ending) (w' : World) : Prop :=
  ∃ v, e = .returned v ∧ w'.ownsRow w.heap.size T 1 v xs.length (intCs xs) ∧ Below w.heap.size w w'
def OwnPostB (T : TypeId) (xs : List Int) (b : Bool) (w : World) (e : Ending) (w' : World) : Prop :=
  ∃ v, e = .returned (.tuple #[v, .bool b]) ∧ w'.ownsRow w.heap.size T 1 v xs.length (intCs xs) ∧ Below w.heap.size w w'
theorem own_eq {w : World} {base : Nat} {e : TypeId} {v : Value} {n : Nat} {xs ys : List Int} (h : w.ownsRow base e 1 v n (intCs xs)) (hx : xs = ys) (hn : n = ys.length) : w.ownsRow base e 1 v ys.length (intCs ys) := by subst hx; subst hn; exact h
theorem ext_getD {xs ys : List Int} (hl : xs.length = ys.length) (h : ∀ i, i < xs.length → xs.getD i 0 = ys.getD i 0) : xs = ys := by
  refine List.ext_getElem hl fun i h1 h2 => ?_
  have := h i h1
  simpa [h1, h2] using this
/-- The marks k0, k0 + 1, .. -/
def marksI (k0 n : Nat) : List Int := (List.range n).map fun t => ((k0 + t : Nat) : Int)
theorem marksI_len (k0 n : Nat) : (marksI k0 n).length = n := by simp [marksI]
theorem marksI_get (k0 n j : Nat) (h : j < n) : (marksI k0 n).getD j 0 = ((k0 + j : Nat) : Int) := by simp [marksI, h]
theorem marksI_set (k0 j : Nat) (xs : List Int) (h : j < xs.length) : (intCs (marksI k0 j ++ xs.drop j)).set j (.int .i64 ((k0 + j : Nat) : Int)) = intCs (marksI k0 (j + 1) ++ xs.drop (j + 1)) := by
  have e1 : xs.drop j = xs[j] :: xs.drop (j + 1) := List.drop_eq_getElem_cons h
  have e2 : marksI k0 (j + 1) = marksI k0 j ++ [((k0 + j : Nat) : Int)] := by simp [marksI, List.range_succ]
  rw [e1, e2]
  unfold intCs
  have e3 : j - (List.map (Value.int .i64) (marksI k0 j)).length = 0 := by simp [marksI]
  rw [List.map_append, List.map_append, List.map_append, List.set_append_right _ _ (by simp [marksI]), e3, List.map_cons, List.set_cons_zero]
  simp
/-- k cells are copied, the rest is 0. -/
def copied (xs : List Int) (k n : Nat) : List Int := xs.take k ++ List.replicate (n - k) 0
theorem copied_len (xs : List Int) (k n : Nat) (h : k ≤ n) (hx : xs.length = n) : (copied xs k n).length = n := by simp [copied]; omega
theorem copied_set (xs : List Int) (k n : Nat) (h : k < n) (hx : xs.length = n) : (intCs (copied xs k n)).set k (.int .i64 (xs.getD k 0)) = intCs (copied xs (k + 1) n) := by
  unfold copied intCs
  have e : (List.map (Value.int .i64) (xs.take k)).length = k := by simp; omega
  rw [List.map_append, List.map_append, List.set_append_right _ _ (by omega), e, Nat.sub_self, show n - k = (n - (k + 1)) + 1 from by omega, List.replicate_succ, List.map_cons, List.set_cons_zero]
  have e4 : xs.take (k + 1) = xs.take k ++ [xs.getD k 0] := by rw [List.take_succ_eq_append_getElem (by omega)]; congr 1; simp [List.getElem?_eq_getElem (show k < xs.length by omega)]
  rw [e4, List.map_append, List.map_cons, List.map_nil, List.append_assoc]
  rfl
/-- A row that came in is there as long as nothing old is written. -/
theorem IsRow.below {k : IntKind} {w w' : World} {a : Option Addr} {len cap : Nat} {zs : List Int} (h : IsRow k w a len cap zs) (hb : Below w.heap.size w w') : IsRow k w' a len cap zs := by
  rcases h with h | ⟨x, ha, hl, hm, hz, hc, hw⟩
  · exact .inl h
  · refine .inr ⟨x, ha, hl, hm, hz, fun i hi => ?_, hw⟩
    have h1 := hc i hi
    have hlt : (x.add i).block < w.heap.size := by
      rcases Nat.lt_or_ge (x.add i).block w.heap.size with h' | h'
      · exact h'
      · simp [World.cell?, Array.getElem?_eq_none h'] at h1
    exact (hb.cell hlt).trans h1
theorem row_int {W : World} {a : Option Addr} {len cap : Nat} {zs : List Int} (h : IsRow .i64 W a len cap zs) (i : Nat) (hi : i < len) :
    ∃ g off, a = some ⟨g, off, none⟩ ∧ g < W.heap.size ∧ W.cell? ⟨g, off + i, none⟩ = some (.int .i64 ((zs.take len).getD i 0)) := by
  rcases h with ⟨_, h1, _⟩ | ⟨⟨g, off, sp⟩, ha, hl, hm, hz, hc, hw⟩
  · omega
  · have hsp : sp = none := by simpa [Addr.add] using World.cell?_spot (hc 0 (by omega))
    subst hsp
    have hadd : (⟨g, off, none⟩ : Addr).add i = ⟨g, off + i, none⟩ := by unfold Addr.add; split <;> simp_all
    have hc1 := hc i (by omega)
    rw [hadd] at hc1
    have hlt : g < W.heap.size := by
      rcases Nat.lt_or_ge g W.heap.size with h' | h'
      · exact h'
      · simp [World.cell?, Array.getElem?_eq_none h'] at hc1
    refine ⟨g, off, ha, hlt, ?_⟩
    rw [hc1]
    simp [hi]
theorem row_len {k : IntKind} {W : World} {a : Option Addr} {len cap : Nat} {zs : List Int} (h : IsRow k W a len cap zs) : (zs.take len).length = len ∧ len ≤ 9223372036854775807 := by
  rcases h with ⟨_, h1, _, h2⟩ | ⟨x, _, h1, h2, h3, _⟩
  · simp [h1, h2]
  · unfold maxLen at h2; simp; omega
theorem row_bd {W : World} {a : Option Addr} {len cap : Nat} {zs : List Int} (h : IsRow .i64 W a len cap zs) : ∀ x ∈ zs.take len, -9223372036854775808 ≤ x ∧ x ≤ 9223372036854775807 := by
  intro x hx
  have hx' := List.mem_of_mem_take hx
  rcases h with ⟨_, _, _, h2⟩ | ⟨y, _, h1, h2, h3, _, h4⟩
  · simp [h2] at hx'
  · exact bounds_i64 (h4 x hx')
end Go.Proofs.YtjnhfgacgobfcaaDoor
