/- Small lemmas that the walks of this seat share. -/
import Derived.WalkKit
import Derived.Below
import Derived.OneCell
import Derived.Laws.OwnMore
import Derived.OpenShut
namespace Go.Proofs.Ytppbcjpabmllnaa
open Go.RowKit
theorem ret_int {k : IntKind} {a b : Int} (h : a = b) : Ending.returned (.int k a) = .returned (.int k b) := by rw [h]
theorem ret_ib {k : IntKind} {a b : Int} {x y : Bool} (h : a = b) (h' : x = y) : Ending.returned (.tuple #[.int k a, .bool x]) = .returned (.tuple #[.int k b, .bool y]) := by rw [h, h']
theorem ret_sb {a b : List UInt8} {x y : Bool} (h : a = b) (h' : x = y) : Ending.returned (.tuple #[.string ⟨a.toArray⟩, .bool x]) = .returned (.tuple #[.string ⟨b.toArray⟩, .bool y]) := by rw [h, h']
/-- What a walk is told of a slice of integers that came in: it is nil, or it leads to a row of 'cap' cells. -/
def IsRow (k : IntKind) (w : World) (a : Option Addr) (len cap : Nat) (zs : List Int) : Prop :=
  (a = none ∧ len = 0 ∧ cap = 0 ∧ zs = []) ∨
  ∃ x, a = some x ∧ len ≤ cap ∧ cap ≤ maxLen ∧ zs.length = cap ∧ (∀ i, i < zs.length → w.cell? (x.add i) = some (.int k (zs.getD i 0))) ∧ ∀ n ∈ zs, (Lit.int k n).wf = true
end Go.Proofs.Ytppbcjpabmllnaa
/- Lemmas on slices of strings that the call owns, without any Go text. -/
namespace Go.Proofs.Ytppbcjpabmllnaa
open Go.RowKit
set_option linter.unusedVariables false
def strCs (xs : List ByteArray) : List Value := xs.map Value.string
theorem strCs_len (xs : List ByteArray) : (strCs xs).length = xs.length := by simp [strCs]
theorem strCs_get (xs : List ByteArray) (j : Nat) (h : j < xs.length) : (strCs xs)[j]? = some (.string xs[j]) := by simp [strCs, h]
/-- The shape of an owned slice of strings: nil, or the head of a row. -/
theorem own_shape {w : World} {base : Nat} {e : TypeId} {v : Value} {n : Nat} {xs : List Value} (h : w.ownsRow base e 1 v n xs) : (v = .slice none 0 0 ∧ n = 0) ∨ ∃ g cap, v = .slice (some ⟨g, 0, none⟩) n cap ∧ base ≤ g ∧ g < w.heap.size := by
  rcases h.2 with h1 | ⟨g, cap, cur, hv, hb, hg, _⟩
  · exact .inl h1
  · exact .inr ⟨g, cap, hv, hb, lt_of_block hg⟩
theorem own_zero {w : World} {base : Nat} {e : TypeId} {v : Value} {n : Nat} {xs : List Value} (h : w.ownsRow base e 1 v n xs) (h0 : n = 0) : ∃ p c, v = .slice p 0 c := by
  rcases own_shape h with ⟨rfl, _⟩ | ⟨g, cap, rfl, _⟩
  · exact ⟨_, _, rfl⟩
  · exact ⟨_, _, by rw [h0]⟩
theorem own_pos {w : World} {base : Nat} {e : TypeId} {v : Value} {n : Nat} {xs : List Value} (h : w.ownsRow base e 1 v n xs) (h0 : 0 < n) : ∃ g cap, v = .slice (some ⟨g, 0, none⟩) n cap ∧ base ≤ g ∧ g < w.heap.size := by
  rcases own_shape h with ⟨_, h'⟩ | h'
  · omega
  · exact h'
theorem own_cell {w : World} {base : Nat} {e : TypeId} {g n cap : Nat} {xs : List ByteArray} (h : w.ownsRow base e 1 (.slice (some ⟨g, 0, none⟩) n cap) n (strCs xs)) (hn : xs.length = n) (j : Nat) (hj : j < n) : w.cell? ⟨g, j, none⟩ = some (.string (xs[j]'(by omega))) := by
  rw [h.cellAt j (by omega), strCs_get xs j (by omega)]
theorem grown_of_below {w w' : World} (h : Below w.heap.size w w') : w.grownBy w' none := ⟨h.os, h.tape, h.output, h.size, fun k hk _ => h.block k hk⟩
theorem own_below {w w' : World} {base : Nat} {e : TypeId} {v : Value} {n : Nat} {xs : List Value} (h : w.ownsRow base e 1 v n xs) (hb : Below w.heap.size w w') : w'.ownsRow base e 1 v n xs := by
  refine h.kept (grown_of_below hb) ?_
  cases v.ownBlock
  · exact .inl rfl
  · exact .inr (by simp)
end Go.Proofs.Ytppbcjpabmllnaa
/- Lemmas on slices of ints that the call owns, without any Go text. -/
namespace Go.Proofs.Ytppbcjpabmllnaa
open Go.RowKit
set_option linter.unusedVariables false
def intCs (xs : List Int) : List Value := xs.map (Value.int .i64)
theorem intCs_len (xs : List Int) : (intCs xs).length = xs.length := by simp [intCs]
theorem intCs_get (xs : List Int) (j : Nat) (h : j < xs.length) : (intCs xs)[j]? = some (.int .i64 (xs.getD j 0)) := by simp [intCs, h]
theorem intCs_app (xs ys : List Int) : intCs (xs ++ ys) = intCs xs ++ intCs ys := by simp [intCs]
theorem own_icell {w : World} {base : Nat} {e : TypeId} {g n cap : Nat} {xs : List Int} (h : w.ownsRow base e 1 (.slice (some ⟨g, 0, none⟩) n cap) n (intCs xs)) (j : Nat) (hj : j < n) : w.cell? ⟨g, j, none⟩ = some (.int .i64 (xs.getD j 0)) := by
  have := h.1
  rw [intCs_len] at this
  rw [h.cellAt j (by omega), intCs_get xs j (by omega)]
/-- What a function that makes a slice of ints leaves. -/
def OwnPost (T : TypeId) (xs : List Int) (w : World) (e : Ending) (w' : World) : Prop :=
  ∃ v, e = .returned v ∧ w'.ownsRow w.heap.size T 1 v xs.length (intCs xs) ∧ Below w.heap.size w w'
def OwnPostB (T : TypeId) (xs : List Int) (b : Bool) (w : World) (e : Ending) (w' : World) : Prop :=
  ∃ v, e = .returned (.tuple #[v, .bool b]) ∧ w'.ownsRow w.heap.size T 1 v xs.length (intCs xs) ∧ Below w.heap.size w w'
theorem own_eq {w : World} {base : Nat} {e : TypeId} {v : Value} {n : Nat} {xs ys : List Int} (h : w.ownsRow base e 1 v n (intCs xs)) (hx : xs = ys) (hn : n = ys.length) : w.ownsRow base e 1 v ys.length (intCs ys) := by subst hx; subst hn; exact h
theorem ext_getD {xs ys : List Int} (hl : xs.length = ys.length) (h : ∀ i, i < xs.length → xs.getD i 0 = ys.getD i 0) : xs = ys := by
  refine List.ext_getElem hl fun i h1 h2 => ?_
  have := h i h1
  simpa [h1, h2] using this
/-- The marks k0, k0 + 1, .. -/
def marksI (k0 n : Nat) : List Int := (List.range n).map fun t => ((k0 + t : Nat) : Int)
theorem marksI_len (k0 n : Nat) : (marksI k0 n).length = n := by simp [marksI]
theorem marksI_get (k0 n j : Nat) (h : j < n) : (marksI k0 n).getD j 0 = ((k0 + j : Nat) : Int) := by simp [marksI, h]
theorem marksI_set (k0 j : Nat) (xs : List Int) (h : j < xs.length) : (intCs (marksI k0 j ++ xs.drop j)).set j (.int .i64 ((k0 + j : Nat) : Int)) = intCs (marksI k0 (j + 1) ++ xs.drop (j + 1)) := by
  have e1 : xs.drop j = xs[j] :: xs.drop (j + 1) := List.drop_eq_getElem_cons h
  have e2 : marksI k0 (j + 1) = marksI k0 j ++ [((k0 + j : Nat) : Int)] := by simp [marksI, List.range_succ]
  rw [e1, e2]
  unfold intCs
  have e3 : j - (List.map (Value.int .i64) (marksI k0 j)).length = 0 := by simp [marksI]
  rw [List.map_append, List.map_append, List.map_append, List.set_append_right _ _ (by simp [marksI]), e3, List.map_cons, List.set_cons_zero]
  simp
/-- k cells are copied, the rest is 0. -/
def copied (xs : List Int) (k n : Nat) : List Int := xs.take k ++ List.replicate (n - k) 0
theorem copied_len (xs : List Int) (k n : Nat) (h : k ≤ n) (hx : xs.length = n) : (copied xs k n).length = n := by simp [copied]; omega
theorem copied_set (xs : List Int) (k n : Nat) (h : k < n) (hx : xs.length = n) : (intCs (copied xs k n)).set k (.int .i64 (xs.getD k 0)) = intCs (copied xs (k + 1) n) := by
  unfold copied intCs
  have e : (List.map (Value.int .i64) (xs.take k)).length = k := by simp; omega
  rw [List.map_append, List.map_append, List.set_append_right _ _ (by omega), e, Nat.sub_self, show n - k = (n - (k + 1)) + 1 from by omega, List.replicate_succ, List.map_cons, List.set_cons_zero]
  have e4 : xs.take (k + 1) = xs.take k ++ [xs.getD k 0] := by rw [List.take_succ_eq_append_getElem (by omega)]; congr 1; simp [List.getElem?_eq_getElem (show k < xs.length by omega)]
  rw [e4, List.map_append, List.map_cons, List.map_nil, List.append_assoc]
  rfl
/-- A row that came in is there as long as nothing old is written. -/
theorem IsRow.below {k : IntKind} {w w' : World} {a : Option Addr} {len cap : Nat} {zs : List Int} (h : IsRow k w a len cap zs) (hb : Below w.heap.size w w') : IsRow k w' a len cap zs := by
  rcases h with h | ⟨x, ha, hl, hm, hz, hc, hw⟩
  · exact .inl h
  · refine .inr ⟨x, ha, hl, hm, hz, fun i hi => ?_, hw⟩
    have h1 := hc i hi
    have hlt : (x.add i).block < w.heap.size := by
      rcases Nat.lt_or_ge (x.add i).block w.heap.size with h' | h'
      · exact h'
      · simp [World.cell?, Array.getElem?_eq_none h'] at h1
    exact (hb.cell hlt).trans h1
theorem row_int {W : World} {a : Option Addr} {len cap : Nat} {zs : List Int} (h : IsRow .i64 W a len cap zs) (i : Nat) (hi : i < len) :
    ∃ g off, a = some ⟨g, off, none⟩ ∧ g < W.heap.size ∧ W.cell? ⟨g, off + i, none⟩ = some (.int .i64 ((zs.take len).getD i 0)) := by
  rcases h with ⟨_, h1, _⟩ | ⟨⟨g, off, sp⟩, ha, hl, hm, hz, hc, hw⟩
  · omega
  · have hsp : sp = none := by simpa [Addr.add] using World.cell?_spot (hc 0 (by omega))
    subst hsp
    have hadd : (⟨g, off, none⟩ : Addr).add i = ⟨g, off + i, none⟩ := by unfold Addr.add; split <;> simp_all
    have hc1 := hc i (by omega)
    rw [hadd] at hc1
    have hlt : g < W.heap.size := by
      rcases Nat.lt_or_ge g W.heap.size with h' | h'
      · exact h'
      · simp [World.cell?, Array.getElem?_eq_none h'] at hc1
    refine ⟨g, off, ha, hlt, ?_⟩
    rw [hc1]
    simp [hi]
theorem row_len {k : IntKind} {W : World} {a : Option Addr} {len cap : Nat} {zs : List Int} (h : IsRow k W a len cap zs) : (zs.take len).length = len ∧ len ≤ 9223372036854775807 := by
  rcases h with ⟨_, h1, _, h2⟩ | ⟨x, _, h1, h2, h3, _⟩
  · simp [h1, h2]
  · unfold maxLen at h2; simp; omega
theorem row_bd {W : World} {a : Option Addr} {len cap : Nat} {zs : List Int} (h : IsRow .i64 W a len cap zs) : ∀ x ∈ zs.take len, -9223372036854775808 ≤ x ∧ x ≤ 9223372036854775807 := by
  intro x hx
  have hx' := List.mem_of_mem_take hx
  rcases h with ⟨_, _, _, h2⟩ | ⟨y, _, h1, h2, h3, _, h4⟩
  · simp [h2] at hx'
  · exact bounds_i64 (h4 x hx')
end Go.Proofs.Ytppbcjpabmllnaa
/- A block of four ints (a struct of four fields), without any Go text. -/
namespace Go.Proofs.Ytppbcjpabmllnaa
open Go.RowKit
set_option linter.unusedVariables false
/-- An interval lies at block m. -/
def Four (m : Nat) (p q r s : Int) (w : World) : Prop := m < w.heap.size ∧ w.cell? ⟨m, 0, none⟩ = some (.int .i64 p) ∧ w.cell? ⟨m, 1, none⟩ = some (.int .i64 q) ∧ w.cell? ⟨m, 2, none⟩ = some (.int .i64 r) ∧ w.cell? ⟨m, 3, none⟩ = some (.int .i64 s)
theorem four_alloc {w : World} {p q r s : Int} {t : TypeId} : Four w.heap.size p q r s (w.alloc (.cells #[.int .i64 p, .int .i64 q, .int .i64 r, .int .i64 s] t)) :=
  ⟨by simp, by simp [go_sem], by simp [go_sem], by simp [go_sem], by simp [go_sem]⟩
theorem four_keep {W w : World} {m : Nat} {p q r s : Int} (hb : Below W.heap.size W w) (h : Four m p q r s W) : Four m p q r s w :=
  ⟨Nat.lt_of_lt_of_le h.1 hb.size, (hb.cell h.1).trans h.2.1, (hb.cell h.1).trans h.2.2.1, (hb.cell h.1).trans h.2.2.2.1, (hb.cell h.1).trans h.2.2.2.2⟩
theorem four_set {w : World} {m : Nat} {p q r s p' q' r' s' : Int} (h : Four m p q r s w) :
    Four m p' q' r' s' ((((w.setCell ⟨m, 0, none⟩ (.int .i64 p')).setCell ⟨m, 1, none⟩ (.int .i64 q')).setCell ⟨m, 2, none⟩ (.int .i64 r')).setCell ⟨m, 3, none⟩ (.int .i64 s')) := by
  obtain ⟨hm, z0, z1, z2, z3⟩ := h
  exact ⟨by simpa using hm, by simp [go_sem, z0], by simp [go_sem, z1], by simp [go_sem, z2], by simp [go_sem, z3]⟩
theorem four_other {w : World} {n m : Nat} {p q r s : Int} {v0 v1 v2 v3 : Value} (hn : n ≠ m) (h : Four n p q r s w) :
    Four n p q r s ((((w.setCell ⟨m, 0, none⟩ v0).setCell ⟨m, 1, none⟩ v1).setCell ⟨m, 2, none⟩ v2).setCell ⟨m, 3, none⟩ v3) := by
  obtain ⟨hm, z0, z1, z2, z3⟩ := h
  have k : ∀ i j : Nat, (⟨m, j, none⟩ : Addr) ≠ ⟨n, i, none⟩ := fun i j e => hn (by injection e with e1; exact e1.symm)
  have c : ∀ i, ((((w.setCell ⟨m, 0, none⟩ v0).setCell ⟨m, 1, none⟩ v1).setCell ⟨m, 2, none⟩ v2).setCell ⟨m, 3, none⟩ v3).cell? ⟨n, i, none⟩ = w.cell? ⟨n, i, none⟩ := fun i => by
    rw [World.cell?_setCell_other _ _ _ _ (k i 3), World.cell?_setCell_other _ _ _ _ (k i 2), World.cell?_setCell_other _ _ _ _ (k i 1), World.cell?_setCell_other _ _ _ _ (k i 0)]
  exact ⟨by simpa using hm, (c 0).trans z0, (c 1).trans z1, (c 2).trans z2, (c 3).trans z3⟩
theorem four_drewF {w : World} {m : Nat} {p q r s : Int} (h : Four m p q r s w) : Four m p q r s w.drew := h
theorem four_cellsF {w : World} {m : Nat} {p q r s : Int} (h : Four m p q r s w) : w.cell? ⟨m, 0, none⟩ = some (.int .i64 p) ∧ w.cell? ⟨m, 1, none⟩ = some (.int .i64 q) ∧ w.cell? ⟨m, 2, none⟩ = some (.int .i64 r) ∧ w.cell? ⟨m, 3, none⟩ = some (.int .i64 s) := h.2
theorem four_alF {w : World} {m : Nat} {p q r s : Int} {o : Obj} (h : Four m p q r s w) : Four m p q r s (w.alloc o) := four_keep ((Below.refl _ _).alloc (Nat.le_refl _) o) h
theorem eightF {w : World} {m n : Nat} {p q r s p' q' r' s' : Int} (h : Four m p q r s w) (k : Four n p' q' r' s' w) : w.cell? ⟨m, 0, none⟩ = some (.int .i64 p) ∧ w.cell? ⟨m, 1, none⟩ = some (.int .i64 q) ∧ w.cell? ⟨m, 2, none⟩ = some (.int .i64 r) ∧ w.cell? ⟨m, 3, none⟩ = some (.int .i64 s) ∧ w.cell? ⟨n, 0, none⟩ = some (.int .i64 p') ∧ w.cell? ⟨n, 1, none⟩ = some (.int .i64 q') ∧ w.cell? ⟨n, 2, none⟩ = some (.int .i64 r') ∧ w.cell? ⟨n, 3, none⟩ = some (.int .i64 s') :=
  ⟨h.2.1, h.2.2.1, h.2.2.2.1, h.2.2.2.2, k.2⟩
/-- A call behind others: what the walk knows is said of the world W. -/
theorem calls_fromF {P : Program} {k : FuncId} {args : Array Value} {W w : World} {v : Value} (h : Below W.heap.size W w) (hk : Calls P k args w fun e w' => e = .returned v ∧ Below w.heap.size w w') :
    Calls P k args w fun e w' => e = .returned v ∧ Below W.heap.size W w' :=
  hk.mono fun _ _ ⟨he, hb⟩ => ⟨he, h.trans (hb.mono h.size)⟩
end Go.Proofs.Ytppbcjpabmllnaa
/- Plain mathematics of intervals: the greatest common divisor, the simplest form; no Go in it. -/
namespace Go.Proofs.Ytppbcjpabmllnaa
open Go.RowKit
/-- The greatest common divisor as an integer; the walk does not look into it. -/
def gcdI (a b : Int) : Int := (Int.gcd a b : Int)
theorem gcdI_nonneg (a b : Int) : 0 ≤ gcdI a b := Int.natCast_nonneg _
theorem gcdI_zero (a : Int) : gcdI a 0 = (a.natAbs : Int) := by unfold gcdI; simp
theorem gcdI_step (a b : Int) : gcdI b (a.tmod b) = gcdI a b := by
  unfold gcdI Int.gcd
  rw [Int.natAbs_tmod, Nat.gcd_comm b.natAbs, ← Nat.gcd_rec, Nat.gcd_comm]
theorem gcdI_abs (a b : Int) : gcdI (a.natAbs : Int) (b.natAbs : Int) = gcdI a b := by unfold gcdI Int.gcd; simp
theorem gcdI_le (a b M : Int) (ha : -M ≤ a) (ha' : a ≤ M) (hb : -M ≤ b) (hb' : b ≤ M) : gcdI a b ≤ M := by
  unfold gcdI
  by_cases h : a = 0
  · subst h; simp [Int.gcd]; omega
  · have h1 : Int.gcd a b ∣ a.natAbs := Nat.gcd_dvd_left _ _
    have h2 := Nat.le_of_dvd (by omega) h1
    omega
theorem tmod_lt_abs (a b : Int) (h : b ≠ 0) : (a.tmod b).natAbs < b.natAbs := by
  rw [Int.natAbs_tmod]; exact Nat.mod_lt _ (by omega)
theorem tmod_bd (a b M : Int) (h : b ≠ 0) (hb : -M ≤ b) (hb' : b ≤ M) : -M ≤ a.tmod b ∧ a.tmod b ≤ M := by
  have := tmod_lt_abs a b h
  omega
end Go.Proofs.Ytppbcjpabmllnaa
