/- Plain facts on splitting a line into fields, without any Go text. -/
import Derived.Test.YthkhoocnkjdabaaDoorParMath
import Derived.Lib.Strings
namespace Go.Proofs.YthkhoocnkjdabaaDoor
open Go.RowKit
def splStep (p : List (List UInt8) × List UInt8) (c : UInt8) : List (List UInt8) × List UInt8 :=
  if c.toNat = 32 then (if p.2 = [] then p.1 else p.1 ++ [p.2], []) else (p.1, p.2 ++ [c])
/-- The fields that are complete, and the run that is not. -/
def splFold (l : List UInt8) : List (List UInt8) × List UInt8 := l.foldl splStep ([], [])
def splEnd (p : List (List UInt8) × List UInt8) : List (List UInt8) := if p.2 = [] then p.1 else p.1 ++ [p.2]
def goodB (c : UInt8) : Bool := decide (32 ≤ c.toNat ∧ c.toNat ≤ 126)
def okS (l : List UInt8) : Bool := decide (l.length ≤ 600) && l.all goodB && decide ((splEnd (splFold l)).length ≤ 24)
def splV (l : List UInt8) : List (List UInt8) × Bool := if okS l then (splEnd (splFold l), true) else ([], false)
def strOf (fs : List (List UInt8)) : List ByteArray := fs.map fun f => ⟨f.toArray⟩
theorem strOf_len (fs : List (List UInt8)) : (strOf fs).length = fs.length := by simp [strOf]
theorem splV_no {l : List UInt8} (h : okS l = false) : splV l = ([], false) := by unfold splV; rw [if_neg (by simp [h])]
theorem splV_yes {l : List UInt8} (h : okS l = true) : splV l = (splEnd (splFold l), true) := by unfold splV; rw [if_pos h]
theorem splV_le (l : List UInt8) : (splV l).1.length ≤ 24 := by
  unfold splV
  split
  · rename_i h; simp only [okS, Bool.and_eq_true, decide_eq_true_eq] at h; exact h.2
  · simp
theorem splFold_snoc (l : List UInt8) (c : UInt8) : splFold (l ++ [c]) = splStep (splFold l) c := by simp [splFold, List.foldl_append]
/-- After k bytes: the fields fs, the current run from st on. -/
structure SplTo (s : ByteArray) (k st : Nat) (fs : List (List UInt8)) (cur : List UInt8) : Prop where
  fold : splFold (s.data.toList.take k) = (fs, cur)
  le : st ≤ k
  run : cur = (s.data.toList.take k).drop st
  good : (s.data.toList.take k).all goodB = true
  cnt : fs.length ≤ k
theorem splTo_zero (s : ByteArray) : SplTo s 0 0 [] [] := ⟨by simp [splFold], Nat.le_refl _, by simp, by simp, Nat.le_refl _⟩
theorem len_take (s : ByteArray) (k : Nat) (h : k ≤ s.size) : (s.data.toList.take k).length = k := by
  have e : s.data.toList.length = s.size := by simp
  rw [List.length_take]; omega
theorem SplTo.cur_len {s : ByteArray} {k st : Nat} {fs : List (List UInt8)} {cur : List UInt8} (h : SplTo s k st fs cur) (hk : k ≤ s.size) : cur.length = k - st := by
  rw [h.run, List.length_drop, len_take s k hk]
theorem SplTo.str {s : ByteArray} {k st : Nat} {fs : List (List UInt8)} {cur : List UInt8} (h : SplTo s k st fs cur) : s.extract st k = ⟨cur.toArray⟩ := by
  rw [Lib.extract_eq, h.run, List.drop_take]
theorem all_take {s : ByteArray} {k : Nat} (hk : k < s.size) (h : (s.data.toList.take k).all goodB = true) (hg : 32 ≤ s[k].toNat ∧ s[k].toNat ≤ 126) : (s.data.toList.take (k + 1)).all goodB = true := by
  rw [take_snoc s k hk, List.all_append, h]
  simp [goodB, hg]
theorem SplTo.char {s : ByteArray} {k st : Nat} {fs : List (List UInt8)} {cur : List UInt8} (h : SplTo s k st fs cur) (hk : k < s.size) (hg : 32 ≤ s[k].toNat ∧ s[k].toNat ≤ 126) (hc : s[k].toNat ≠ 32) : SplTo s (k + 1) st fs (cur ++ [s[k]]) := by
  refine ⟨?_, by have := h.le; omega, ?_, all_take hk h.good hg, by have := h.cnt; omega⟩
  · rw [take_snoc s k hk, splFold_snoc, h.fold]; simp [splStep, hc]
  · rw [take_snoc s k hk, List.drop_append_of_le_length (by rw [len_take s k (by omega)]; exact h.le), ← h.run]
theorem SplTo.space {s : ByteArray} {k st : Nat} {fs : List (List UInt8)} {cur : List UInt8} (h : SplTo s k st fs cur) (hk : k < s.size) (hc : s[k].toNat = 32) (hl : st < k) : SplTo s (k + 1) (k + 1) (fs ++ [cur]) [] := by
  have hl' := h.cur_len (by omega)
  have hne : cur ≠ [] := fun e => by rw [e] at hl'; simp at hl'; omega
  refine ⟨?_, Nat.le_refl _, ?_, all_take hk h.good (by omega), by have := h.cnt; simp; omega⟩
  · rw [take_snoc s k hk, splFold_snoc, h.fold]; simp [splStep, hc, hne]
  · rw [List.drop_of_length_le (by rw [len_take s (k + 1) (by omega)]; omega)]
theorem SplTo.space0 {s : ByteArray} {k st : Nat} {fs : List (List UInt8)} {cur : List UInt8} (h : SplTo s k st fs cur) (hk : k < s.size) (hc : s[k].toNat = 32) (hl : ¬ st < k) : SplTo s (k + 1) (k + 1) fs [] := by
  have hl' := h.cur_len (by omega)
  have hne : cur = [] := List.eq_nil_of_length_eq_zero (by omega)
  refine ⟨?_, Nat.le_refl _, ?_, all_take hk h.good (by omega), by have := h.cnt; omega⟩
  · rw [take_snoc s k hk, splFold_snoc, h.fold]; simp [splStep, hc, hne]
  · rw [List.drop_of_length_le (by rw [len_take s (k + 1) (by omega)]; omega)]
theorem spl_bad {s : ByteArray} {k : Nat} (hk : k < s.size) (hb : s[k].toNat < 32 ∨ 126 < s[k].toNat) : okS s.data.toList = false := by
  have : s.data.toList.all goodB = false := by
    rw [split_at s k hk, List.all_append, List.all_cons, show goodB s[k] = false from by simp [goodB]; omega]
    simp
  simp [okS, this]
theorem spl_long {s : ByteArray} (h : 600 < s.size) : okS s.data.toList = false := by
  have e : ¬ s.data.toList.length ≤ 600 := by simp; omega
  simp only [okS, e, decide_false, Bool.false_and]
/-- At the end: the fields, with the last run. -/
theorem SplTo.fin {s : ByteArray} {k st : Nat} {fs : List (List UInt8)} {cur : List UInt8} (h : SplTo s k st fs cur) (hk : k = s.size) (fs' : List (List UInt8)) (hfs : fs' = if st < k then fs ++ [cur] else fs) : splEnd (splFold s.data.toList) = fs' := by
  have hl := h.cur_len (by omega)
  have hf := h.fold
  rw [List.take_of_length_le (by simp; omega)] at hf
  unfold splEnd
  rw [hf, hfs]
  by_cases hlt : st < k
  · rw [if_pos hlt, if_neg (fun e : cur = [] => by rw [e] at hl; simp at hl; omega)]
  · rw [if_neg hlt, if_pos (List.eq_nil_of_length_eq_zero (by omega) : cur = [])]
theorem SplTo.okS {s : ByteArray} {k st : Nat} {fs : List (List UInt8)} {cur : List UInt8} (h : SplTo s k st fs cur) (hk : k = s.size) (h6 : s.size ≤ 600) : okS s.data.toList = decide ((splEnd (splFold s.data.toList)).length ≤ 24) := by
  have hg := h.good
  rw [List.take_of_length_le (by simp; omega)] at hg
  have e : s.data.toList.length ≤ 600 := by simp; omega
  simp only [Proofs.YthkhoocnkjdabaaDoor.okS, hg, e, decide_true, Bool.true_and]
end Go.Proofs.YthkhoocnkjdabaaDoor
