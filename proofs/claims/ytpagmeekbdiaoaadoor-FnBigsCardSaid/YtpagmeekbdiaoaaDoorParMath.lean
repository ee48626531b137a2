/- Plain facts on parsing decimal text, without any Go text. -/
import Derived.Test.YtpagmeekbdiaoaaDoorFmtMath
namespace Go.Proofs.YtpagmeekbdiaoaaDoor
open Go.RowKit
theorem head_app {p q : List UInt8} (h : p ≠ []) : (p ++ q).head? = p.head? := by cases p with
  | nil => exact absurd rfl h
  | cons a p => rfl
theorem snoc_of {l : List UInt8} (h : l ≠ []) : ∃ p c, l = p ++ [c] := by
  rcases List.eq_nil_or_concat l with h' | ⟨p, c, h'⟩
  · exact absurd h' h
  · exact ⟨p, c, by simpa using h'⟩
def isDg (c : UInt8) : Bool := decide (48 ≤ c.toNat ∧ c.toNat ≤ 57)
/-- The number that a list of digits denotes. -/
def valD (l : List UInt8) : Nat := l.foldl (fun a c => 10 * a + (c.toNat - 48)) 0
theorem valD_snoc (l : List UInt8) (c : UInt8) : valD (l ++ [c]) = 10 * valD l + (c.toNat - 48) := by simp [valD, List.foldl_append]
def canonB (l : List UInt8) : Bool := !l.isEmpty && (decide (l.length ≤ 1) || !(l.head? == some 48))
def okU (l : List UInt8) : Bool := l.all isDg && canonB l && decide (valD l ≤ 1000000000)
def parV (l : List UInt8) : Int × Bool := if okU l then ((valD l : Int), true) else (0, false)
theorem ret_par {l : List UInt8} {p : Int × Bool} (h : parV l = p) : Ending.returned (.tuple #[.int .i64 p.1, .bool p.2]) = .returned (.tuple #[.int .i64 (parV l).1, .bool (parV l).2]) := by rw [h]
theorem parV_no {l : List UInt8} (h : okU l = false) : parV l = (0, false) := by unfold parV; rw [if_neg (by simp [h])]
theorem parV_yes {l : List UInt8} (h : okU l = true) : parV l = ((valD l : Int), true) := by unfold parV; rw [if_pos h]
theorem valD_mono (l r : List UInt8) : valD l ≤ valD (l ++ r) := by
  unfold valD
  rw [List.foldl_append]
  generalize List.foldl (fun a c => 10 * a + (UInt8.toNat c - 48)) 0 l = a
  induction r generalizing a with
  | nil => exact Nat.le_refl _
  | cons c r ih => rw [List.foldl_cons]; exact Nat.le_trans (by omega) (ih _)
theorem foldl_pow (r : List UInt8) (a : Nat) : a * 10 ^ r.length ≤ List.foldl (fun a c => 10 * a + (UInt8.toNat c - 48)) a r := by
  induction r generalizing a with
  | nil => simp
  | cons c r ih =>
    rw [List.foldl_cons, List.length_cons, Nat.pow_succ]
    refine Nat.le_trans ?_ (ih _)
    rw [show a * (10 ^ r.length * 10) = (10 * a) * 10 ^ r.length from by rw [Nat.mul_comm (10 ^ r.length) 10, ← Nat.mul_assoc, Nat.mul_comm a 10]]
    exact Nat.mul_le_mul_right _ (by omega)
theorem valD_big {l : List UInt8} (hd : l.all isDg = true) (hl : l ≠ []) (hh : l.head? ≠ some 48) : 10 ^ (l.length - 1) ≤ valD l := by
  match l, hl with
  | c :: r, _ =>
    simp only [List.all_cons, Bool.and_eq_true] at hd
    have h1 : 48 ≤ c.toNat := by have := hd.1; simp [isDg] at this; exact this.1
    have h2 : c.toNat ≠ 48 := fun h => hh (by simp; exact UInt8.toNat_inj.1 (by simpa using h))
    unfold valD
    rw [List.foldl_cons]
    refine Nat.le_trans ?_ (foldl_pow r _)
    simp only [List.length_cons, Nat.add_sub_cancel]
    exact Nat.le_mul_of_pos_left _ (by omega)
theorem canonB_iff (l : List UInt8) : canonB l = true ↔ l ≠ [] ∧ (l.length ≤ 1 ∨ l.head? ≠ some 48) := by
  unfold canonB
  simp
theorem dec_of_val : ∀ (n : Nat) (l : List UInt8), l.length = n → l.all isDg = true → canonB l = true → Lib.decDigits (valD l) = l := by
  intro n
  induction n with
  | zero => intro l hl _ hc; rw [canonB_iff] at hc; exact absurd (List.eq_nil_of_length_eq_zero hl) hc.1
  | succ n ih =>
    intro l hl hd hc
    have hne : l ≠ [] := fun h => by rw [h] at hl; simp at hl
    obtain ⟨p, c, rfl⟩ : ∃ p c, l = p ++ [c] := snoc_of hne
    rw [canonB_iff] at hc
    rw [List.all_append, Bool.and_eq_true] at hd
    have hc1 : 48 ≤ c.toNat ∧ c.toNat ≤ 57 := by have := hd.2; simpa [isDg] using this
    have ec : UInt8.ofNat (48 + (c.toNat - 48)) = c := by rw [show 48 + (c.toNat - 48) = c.toNat from by omega]; simp
    rw [valD_snoc]
    by_cases hp : p = []
    · subst hp
      rw [show valD [] = 0 from rfl, Lib.decDigits_one (by omega), show 10 * 0 + (c.toNat - 48) = c.toNat - 48 from by omega, ec]; rfl
    · have hpl : p.length = n := by simp at hl; omega
      have hp1 : 0 < p.length := by rcases p with _ | ⟨a, p⟩ <;> simp at hp ⊢
      have hh : p.head? ≠ some 48 := by
        rcases hc.2 with h | h
        · exact absurd h (by simp only [List.length_append, List.length_cons, List.length_nil]; omega)
        · rwa [head_app hp] at h
      have hb := valD_big hd.1 hp hh
      have hb1 : 1 ≤ valD p := Nat.le_trans (Nat.one_le_pow _ _ (by omega)) hb
      rw [Lib.decDigits, dif_neg (by omega), show (10 * valD p + (c.toNat - 48)) / 10 = valD p from by omega, show (10 * valD p + (c.toNat - 48)) % 10 = c.toNat - 48 from by omega, ec,
        ih p hpl hd.1 ((canonB_iff p).2 ⟨hp, .inr hh⟩)]
theorem dec_ne (n : Nat) : Lib.decDigits n ≠ [] := by rw [Lib.decDigits]; split <;> simp
theorem dec_head : ∀ (n : Nat), 1 ≤ n → (Lib.decDigits n).head? ≠ some 48 := by
  intro n
  induction n using Nat.strongRecOn with
  | _ n ih =>
    intro h
    rw [Lib.decDigits]
    split
    · rename_i h10
      intro e
      simp at e
      have := congrArg UInt8.toNat e
      rw [UInt8.toNat_ofNat'] at this
      simp at this
      omega
    · rw [head_app (dec_ne _)]
      exact ih (n / 10) (by omega) (by omega)
theorem dec_canon (n : Nat) : canonB (Lib.decDigits n) = true := by
  rw [canonB_iff]
  refine ⟨dec_ne n, ?_⟩
  by_cases h : n < 10
  · left; rw [Lib.decDigits_one h]; simp
  · right; exact dec_head n (by omega)
theorem dec_iff (l : List UInt8) (hd : l.all isDg = true) : (Lib.decDigits (valD l) = l) ↔ canonB l = true :=
  ⟨fun h => by rw [← h]; exact dec_canon _, fun h => dec_of_val _ l rfl hd h⟩
theorem tl_nil (s : ByteArray) (h : s.size = 0) : s.toList = [] := by
  rw [ByteArray.toList_eq]; exact List.eq_nil_of_length_eq_zero (by simpa using h)
theorem tl_ne (s : ByteArray) (h : 0 < s.size) : ¬ s.toList = [] := by
  rw [ByteArray.toList_eq]; intro e; have := congrArg List.length e; have el : s.data.toList.length = s.size := by simp
  rw [el, List.length_nil] at this; omega
theorem tl_ne' (s : ByteArray) (h : 0 < s.size) : s.toList.isEmpty = false := by
  cases e : s.toList with
  | nil => exact absurd e (tl_ne s h)
  | cons a l => rfl
/-- The first k bytes are digits that denote n. -/
def ParTo (s : ByteArray) (k n : Nat) : Prop := (s.data.toList.take k).all isDg = true ∧ valD (s.data.toList.take k) = n
theorem parTo_zero (s : ByteArray) : ParTo s 0 0 := by simp [ParTo, valD]
theorem parTo_step {s : ByteArray} {k n : Nat} (h : ParTo s k n) (hk : k < s.size) (hd : 48 ≤ s[k].toNat ∧ s[k].toNat ≤ 57) : ParTo s (k + 1) (10 * n + (s[k].toNat - 48)) := by
  obtain ⟨h1, h2⟩ := h
  unfold ParTo
  rw [take_snoc s k hk, valD_snoc, h2, List.all_append, h1]
  simp [isDg, hd]
theorem split_at (s : ByteArray) (k : Nat) (h : k < s.size) : s.data.toList = s.data.toList.take k ++ s[k] :: s.data.toList.drop (k + 1) := by
  have e : s.data.toList.length = s.size := by simp
  have e1 : s.data.toList.drop k = s[k] :: s.data.toList.drop (k + 1) := by
    rw [List.drop_eq_getElem_cons (by omega)]; rfl
  rw [← e1, List.take_append_drop]
theorem parTo_bad {s : ByteArray} {k : Nat} (hk : k < s.size) (hd : s[k].toNat < 48 ∨ 57 < s[k].toNat) : okU s.data.toList = false := by
  have : s.data.toList.all isDg = false := by
    rw [split_at s k hk, List.all_append, List.all_cons, show isDg s[k] = false from by simp [isDg]; omega]
    simp
  simp [okU, this]
theorem parTo_over {s : ByteArray} {k n : Nat} (h : ParTo s k n) (hn : 1000000000 < n) : okU s.data.toList = false := by
  have := valD_mono (s.data.toList.take k) (s.data.toList.drop k)
  rw [List.take_append_drop, h.2] at this
  have h2 : ¬ valD s.data.toList ≤ 1000000000 := by omega
  simp [okU, h2]
theorem parTo_end {s : ByteArray} {k n : Nat} (h : ParTo s k n) (hk : s.size ≤ k) (hn : n ≤ 1000000000) (hc : canonB s.data.toList = true) : parV s.data.toList = ((n : Int), true) := by
  obtain ⟨h1, h2⟩ := h
  rw [List.take_of_length_le (by simpa using hk)] at h1 h2
  subst h2
  exact parV_yes (by simp [okU, h1, hc, hn])
theorem okU_not_canon {l : List UInt8} (h : canonB l = false) : okU l = false := by simp [okU, h]
theorem canon_of (s : ByteArray) (h0 : 0 < s.size) (h1 : s.size ≤ 1 ∨ s[0].toNat ≠ 48) : canonB s.data.toList = true := by
  rw [canonB_iff]
  have e := split_at s 0 h0
  have el : s.data.toList.length = s.size := by simp
  refine ⟨fun h => by rw [h] at el; simp at el; omega, ?_⟩
  rcases h1 with h | h
  · left; omega
  · right
    rw [e]
    intro e2
    simp at e2
    exact h (by rw [e2]; rfl)
theorem not_canon_of (s : ByteArray) (h0 : 1 < s.size) (h1 : s[0].toNat = 48) : canonB s.data.toList = false := by
  have e := split_at s 0 (by omega)
  have el : s.data.toList.length = s.size := by simp
  cases hc : canonB s.data.toList with
  | false => rfl
  | true =>
    rw [canonB_iff] at hc
    rcases hc.2 with h | h
    · omega
    · exact absurd (by rw [e]; simp; exact UInt8.toNat_inj.1 (by simpa using h1)) h
theorem not_canon_nil (s : ByteArray) (h0 : s.size = 0) : canonB s.data.toList = false := by
  have el : s.data.toList.length = s.size := by simp
  have e : s.data.toList = [] := List.eq_nil_of_length_eq_zero (by omega)
  rw [e]; rfl
theorem par_long {s : ByteArray} (h : 10 < s.size) : okU s.data.toList = false := by
  cases ho : okU s.data.toList with
  | false => rfl
  | true =>
    simp only [okU, Bool.and_eq_true, decide_eq_true_eq] at ho
    obtain ⟨⟨h1, h2⟩, h3⟩ := ho
    rw [canonB_iff] at h2
    have el : s.data.toList.length = s.size := by simp
    rcases h2.2 with h4 | h4
    · omega
    · have h5 := valD_big h1 h2.1 h4
      have h6 : 10 ^ 10 ≤ 10 ^ (s.data.toList.length - 1) := Nat.pow_le_pow_right (by omega) (by omega)
      omega
theorem par_fmt {s : ByteArray} {k n : Nat} (h : ParTo s k n) (hk : s.size ≤ k) : (Lib.decDigits n = s.data.toList) ↔ canonB s.data.toList = true := by
  obtain ⟨h1, h2⟩ := h
  rw [List.take_of_length_le (by simpa using hk)] at h1 h2
  subst h2
  exact dec_iff _ h1
theorem parTo_lt {s : ByteArray} {k n : Nat} (h : ParTo s k n) : n < 10 ^ k := by
  induction k generalizing n with
  | zero => obtain ⟨_, h2⟩ := h; simp [valD] at h2; omega
  | succ k ih =>
    by_cases hk : k < s.size
    · have e := take_snoc s k hk
      obtain ⟨h1, h2⟩ := h
      rw [e, List.all_append, Bool.and_eq_true] at h1
      rw [e, valD_snoc] at h2
      have h3 : 48 ≤ s[k].toNat ∧ s[k].toNat ≤ 57 := by have := h1.2; simpa [isDg] using this
      have := ih ⟨h1.1, rfl⟩
      rw [Nat.pow_succ]
      omega
    · have e : s.data.toList.take (k + 1) = s.data.toList.take k := by rw [List.take_of_length_le (by simp; omega), List.take_of_length_le (by simp; omega)]
      unfold ParTo at h
      rw [e] at h
      have := ih h
      rw [Nat.pow_succ]
      omega
end Go.Proofs.YtpagmeekbdiaoaaDoor
