/- The circles with two parts; contracts of spec.l14Family and spec.FamilyOf. -/
import Derived.Test.YtjfeeppbbckneabCirRows
namespace Go.Proofs.Ytjfeeppbbckneab
open Go.RowKit Go.Joins
set_option linter.unusedVariables false
/-- The circles with the given first parts, k places being left. -/
def famL (p : Int) : Nat → List Int → Int → List (List Int)
  | 0, h, left => if 0 < left then [] else [h]
  | k + 1, h, left => famL p k (h ++ [0]) left ++ (if p ≤ left then famL p k (h ++ [p]) (left - p) else [])
theorem famL_len (p : Int) : ∀ k h left, (famL p k h left).length ≤ 2 ^ k
  | 0, h, left => by unfold famL; split <;> simp
  | k + 1, h, left => by
    have a := famL_len p k (h ++ [0]) left
    have b := famL_len p k (h ++ [p]) (left - p)
    unfold famL
    rw [List.length_append, Nat.pow_succ]
    split
    · omega
    · simp; omega
theorem pow_12 {k : Nat} (h : k ≤ 12) : 2 ^ k ≤ 4096 := Nat.pow_le_pow_right (n := 2) (by omega) h
theorem infoCir : (Try.prog.info? 26).map (fun i => (i.zero, i.size, i.bytes)) = some (some (cirV (.slice none 0 0)), 1, 24) := by kernel_rfl
theorem cs_oneCell {w : World} {B : Nat} {v : Value} {us : List Value} {L : List (List Int)} (h : CsRaw w B v us L) : ∀ u ∈ us, u.oneCell' = true := fun u hu => by
  obtain ⟨i, hi, rfl⟩ := List.getElem_of_mem hu
  have hl := h.len
  have o := h.els i (by omega)
  have e : uAt us i = us[i] := by unfold uAt; rw [List.getD_eq_getElem?_getD, List.getElem?_eq_getElem hi]; rfl
  rw [e] at o
  obtain ⟨p, c, h2⟩ := own_slice o
  rw [h2]
  rfl
theorem cs_cells {w : World} {B g n cap : Nat} {us : List Value} {L : List (List Int)} (h : CsRaw w B (.slice (some ⟨g, 0, none⟩) n cap) us L) (hn : n = L.length) : ∀ j u, us[j]? = some u → w.cell? ((⟨g, 0, none⟩ : Addr).add j) = some u := fun j u hu => by
  have hj : j < us.length := by
    rcases Nat.lt_or_ge j us.length with q | q
    · exact q
    · rw [List.getElem?_eq_none q] at hu; cases hu
  have hl := h.len
  rw [add_noneC, Nat.zero_add, cs_cell h hn (by omega)]
  unfold uAt
  rw [List.getD_eq_getElem?_getD, hu]
  rfl
/-- What a call leaves. -/
def FamPost (L : List (List Int)) (w : World) (e : Ending) (w' : World) : Prop :=
  ∃ g c us, e = .returned (.slice (some ⟨g, 0, none⟩) L.length c) ∧ CsRaw w' w.heap.size (.slice (some ⟨g, 0, none⟩) L.length c) us L ∧ Below w.heap.size w w'
theorem snoc_int {w : World} {B g cap n : Nat} {e : TypeId} {h : List Int} {x : Int} (o : w.ownsRow B e 1 (.slice (some ⟨g, 0, none⟩) (n + 1) cap) (n + 1) (intCs h ++ [.int .i64 x])) : w.ownsRow B e 1 (.slice (some ⟨g, 0, none⟩) (n + 1) cap) (n + 1) (intCs (h ++ [x])) := by
  rw [intCs_app]; exact o
/-- The parts that make a family. -/
def FamOk (p : Int) : Prop := (2 ≤ p ∧ p ≤ 12) ∧ (12 : Int).tmod p = 0
instance (p : Int) : Decidable (FamOk p) := by unfold FamOk; infer_instance
def famOf (p : Int) : List (List Int) := if FamOk p then famL p 12 [] 12 else []
theorem famL_each (p : Int) : ∀ k h left, ∀ x ∈ famL p k h left, x.length = h.length + k
  | 0, h, left, x, hx => by
    unfold famL at hx
    split at hx
    · simp at hx
    · simp at hx; subst hx; rfl
  | k + 1, h, left, x, hx => by
    unfold famL at hx
    rcases List.mem_append.1 hx with q | q
    · have := famL_each p k _ _ x q
      rw [List.length_append] at this
      simp at this; omega
    · split at q
      · have := famL_each p k _ _ x q
        rw [List.length_append] at this
        simp at this; omega
      · simp at q
theorem famOf_len (p : Int) : (famOf p).length ≤ 4096 := by
  unfold famOf
  split
  · exact Nat.le_trans (famL_len _ _ _ _) (pow_12 (by omega))
  · simp
theorem famOf_each (p : Int) : ∀ i, i < (famOf p).length → (lAt (famOf p) i).length = 12 := fun i hi => by
  have e : lAt (famOf p) i = (famOf p)[i] := by unfold lAt; rw [List.getD_eq_getElem?_getD, List.getElem?_eq_getElem hi]; rfl
  rw [e]
  have hm : (famOf p)[i] ∈ famOf p := List.getElem_mem hi
  generalize (famOf p)[i] = x at hm
  unfold famOf at hm
  split at hm
  · exact famL_each p 12 [] 12 x hm
  · simp at hm
theorem tmod_wrap {p : Int} (hp : 2 ≤ p ∧ p ≤ 12) : IntKind.i64.wrap ((12 : Int).tmod p) = (12 : Int).tmod p := by
  have h1 := Int.tmod_lt_of_pos (12 : Int) (show 0 < p from by omega)
  have h2 := Int.tmod_nonneg p (show (0 : Int) ≤ 12 from by omega)
  exact IntWalk.i64_in _ (by omega)
end Go.Proofs.Ytjfeeppbbckneab
