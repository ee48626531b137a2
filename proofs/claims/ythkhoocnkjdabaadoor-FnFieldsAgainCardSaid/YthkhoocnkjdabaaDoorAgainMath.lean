/- Plain facts: the fields of a line, joined by spaces, have the same fields. -/
import Derived.Test.YthkhoocnkjdabaaDoorSplMath
namespace Go.Proofs.YthkhoocnkjdabaaDoor
open Go.RowKit
def noSp (f : List UInt8) : Prop := ∀ c ∈ f, c.toNat ≠ 32
/-- What holds of the fields at every moment. -/
structure FieldsOk (l : List UInt8) (p : List (List UInt8) × List UInt8) : Prop where
  ne : ∀ f ∈ p.1, f ≠ []
  sp : ∀ f ∈ p.1, noSp f
  mem : ∀ f ∈ p.1, ∀ c ∈ f, c ∈ l
  len : ∀ f ∈ p.1, f.length ≤ l.length
  csp : noSp p.2
  cmem : ∀ c ∈ p.2, c ∈ l
  clen : p.2.length ≤ l.length
theorem fieldsOk : ∀ n : Nat, ∀ l : List UInt8, l.length = n → FieldsOk l (splFold l) := by
  intro n
  induction n with
  | zero =>
    intro l hl
    obtain rfl : l = [] := List.eq_nil_of_length_eq_zero hl
    exact ⟨by simp [splFold], by simp [splFold], by simp [splFold], by simp [splFold], by simp [splFold, noSp], by simp [splFold], by simp [splFold]⟩
  | succ n ih =>
    intro l hl
    obtain ⟨p, c, rfl⟩ := snoc_of (l := l) (fun h => by rw [h] at hl; simp at hl)
    have hp := ih p (by simp at hl; omega)
    rw [splFold_snoc]
    generalize splFold p = q at hp
    unfold splStep
    by_cases hc : c.toNat = 32
    · rw [if_pos hc]
      by_cases hq : q.2 = []
      · rw [if_pos hq]
        exact ⟨hp.ne, hp.sp, fun f hf x hx => List.mem_append_left _ (hp.mem f hf x hx), fun f hf => by have := hp.len f hf; simp; omega, by simp [noSp], by simp, by simp⟩
      · rw [if_neg hq]
        refine ⟨fun f hf => ?_, fun f hf => ?_, fun f hf x hx => ?_, fun f hf => ?_, by simp [noSp], by simp, by simp⟩
        all_goals
          rcases List.mem_append.1 hf with h | h
        · exact hp.ne f h
        · simp at h; subst h; exact hq
        · exact hp.sp f h
        · simp at h; subst h; exact hp.csp
        · exact List.mem_append_left _ (hp.mem f h x hx)
        · simp at h; subst h; exact List.mem_append_left _ (hp.cmem x hx)
        · have := hp.len f h; simp; omega
        · simp at h; subst h; have := hp.clen; simp; omega
    · rw [if_neg hc]
      refine ⟨hp.ne, hp.sp, fun f hf x hx => List.mem_append_left _ (hp.mem f hf x hx), fun f hf => by have := hp.len f hf; simp; omega, fun x hx => ?_, fun x hx => ?_, by have := hp.clen; simp; omega⟩
      · rcases List.mem_append.1 hx with h | h
        · exact hp.csp x h
        · simp at h; subst h; exact hc
      · rcases List.mem_append.1 hx with h | h
        · exact List.mem_append_left _ (hp.cmem x h)
        · exact List.mem_append_right _ h
/-- The joined text of the first fields. -/
def joinSp (fs : List (List UInt8)) : List UInt8 := fs.flatMap fun f => f ++ [32]
theorem joinSp_snoc (fs : List (List UInt8)) (f : List UInt8) : joinSp (fs ++ [f]) = joinSp fs ++ (f ++ [32]) := by simp [joinSp, List.flatMap_append]
theorem fold_run (f : List UInt8) (h : noSp f) (p : List (List UInt8) × List UInt8) : f.foldl splStep p = (p.1, p.2 ++ f) := by
  induction f generalizing p with
  | nil => simp
  | cons c f ih =>
    rw [List.foldl_cons, ih (fun x hx => h x (List.mem_cons_of_mem _ hx))]
    have : c.toNat ≠ 32 := h c (List.mem_cons_self ..)
    simp [splStep, this]
theorem fold_join : ∀ (fs : List (List UInt8)) (acc : List (List UInt8)), (∀ f ∈ fs, f ≠ []) → (∀ f ∈ fs, noSp f) → (joinSp fs).foldl splStep (acc, []) = (acc ++ fs, [])
  | [], acc, _, _ => by simp [joinSp]
  | f :: fs, acc, h1, h2 => by
    have e : joinSp (f :: fs) = (f ++ [32]) ++ joinSp fs := by simp [joinSp]
    have hf : f ≠ [] := h1 f (List.mem_cons_self ..)
    rw [e, List.foldl_append, List.foldl_append, fold_run f (h2 f (List.mem_cons_self ..))]
    have e2 : List.foldl splStep (acc, [] ++ f) [32] = (acc ++ [f], []) := by
      simp [splStep, hf]
    rw [e2, fold_join fs _ (fun g hg => h1 g (List.mem_cons_of_mem _ hg)) (fun g hg => h2 g (List.mem_cons_of_mem _ hg))]
    simp
/-- What a line that is split has. -/
structure SplOk (l : List UInt8) (fs : List (List UInt8)) : Prop where
  cnt : fs.length ≤ 24
  len : ∀ f ∈ fs, f.length ≤ 600
  again : (joinSp fs).length ≤ 600 → splV (joinSp fs) = (fs, true)
theorem splOk {l : List UInt8} {fs : List (List UInt8)} (h : splV l = (fs, true)) : SplOk l fs := by
  have ho : okS l = true := by
    cases hk : okS l with
    | true => rfl
    | false => rw [splV_no hk] at h; simp at h
  rw [splV_yes ho] at h
  have hfs : splEnd (splFold l) = fs := congrArg Prod.fst h
  simp only [okS, Bool.and_eq_true, decide_eq_true_eq] at ho
  obtain ⟨⟨h6, hg⟩, h24⟩ := ho
  have hok := fieldsOk _ l rfl
  have hne : ∀ f ∈ fs, f ≠ [] ∧ noSp f ∧ (∀ c ∈ f, c ∈ l) ∧ f.length ≤ l.length := by
    intro f hf
    rw [← hfs] at hf
    unfold splEnd at hf
    split at hf
    · exact ⟨hok.ne f hf, hok.sp f hf, hok.mem f hf, hok.len f hf⟩
    · rename_i hc
      rcases List.mem_append.1 hf with h | h
      · exact ⟨hok.ne f h, hok.sp f h, hok.mem f h, hok.len f h⟩
      · simp at h; subst h; exact ⟨hc, hok.csp, hok.cmem, hok.clen⟩
  have h24' : fs.length ≤ 24 := by rw [← hfs]; exact h24
  refine ⟨h24', fun f hf => Nat.le_trans (hne f hf).2.2.2 h6, fun hj => ?_⟩
  have hfold : splFold (joinSp fs) = (fs, []) := by
    unfold splFold
    rw [fold_join fs [] (fun f hf => (hne f hf).1) (fun f hf => (hne f hf).2.1)]
    simp
  have hend : splEnd (splFold (joinSp fs)) = fs := by rw [hfold]; simp [splEnd]
  have hgood : (joinSp fs).all goodB = true := by
    rw [List.all_eq_true]
    intro c hc
    obtain ⟨f, hf, hcf⟩ := List.mem_flatMap.1 hc
    rcases List.mem_append.1 hcf with h | h
    · exact (List.all_eq_true.1 hg) c ((hne f hf).2.2.1 c h)
    · simp at h; subst h; rfl
  rw [splV_yes (by simp only [okS, hgood, hend, Bool.and_true, Bool.and_eq_true, decide_eq_true_eq]; exact ⟨hj, h24'⟩), hend]
end Go.Proofs.YthkhoocnkjdabaaDoor
