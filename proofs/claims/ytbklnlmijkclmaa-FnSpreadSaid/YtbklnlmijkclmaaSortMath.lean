/- Mathematics of sorting in place, over functions from places to elements: moved among themselves, exchanged, rotated, merged; two sorted arrangements of elements with different keys are one. -/
import Derived.RowKit3
namespace Go.Proofs.Ytbklnlmijkclmaa
set_option linter.unusedVariables false
section
variable {α : Type}
/-- f' is f with the places from a to b moved among themselves. -/
def MV (a b : Nat) (f f' : Nat → α) : Prop := ∃ s r : Nat → Nat, (∀ t, r (s t) = t) ∧ (∀ t, s (r t) = t) ∧ (∀ t, t < a ∨ b ≤ t → s t = t) ∧ ∀ t, f' t = f (s t)
theorem MV.refl (a b : Nat) (f : Nat → α) : MV a b f f := ⟨id, id, fun _ => rfl, fun _ => rfl, fun _ _ => rfl, fun _ => rfl⟩
theorem MV.trans {a b : Nat} {f f' f'' : Nat → α} (h : MV a b f f') (k : MV a b f' f'') : MV a b f f'' := by
  obtain ⟨s, r, h1, h2, h3, h4⟩ := h
  obtain ⟨s', r', k1, k2, k3, k4⟩ := k
  refine ⟨fun t => s (s' t), fun t => r' (r t), fun t => by simp only [h1, k1], fun t => by simp only [h2, k2], fun t ht => ?_, fun t => by rw [k4, h4]⟩
  show s (s' t) = t
  rw [k3 t ht, h3 t ht]
theorem MV.mono {a b a' b' : Nat} {f f' : Nat → α} (h : MV a b f f') (ha : a' ≤ a) (hb : b ≤ b') : MV a' b' f f' := by
  obtain ⟨s, r, h1, h2, h3, h4⟩ := h
  exact ⟨s, r, h1, h2, fun t ht => h3 t (by omega), h4⟩
theorem MV.out {a b : Nat} {f f' : Nat → α} (h : MV a b f f') {t : Nat} (ht : t < a ∨ b ≤ t) : f' t = f t := by
  obtain ⟨s, r, h1, h2, h3, h4⟩ := h
  rw [h4, h3 t ht]
theorem MV.into {a b : Nat} {f f' : Nat → α} (h : MV a b f f') {t : Nat} (h1 : a ≤ t) (h2 : t < b) : ∃ u, a ≤ u ∧ u < b ∧ f' t = f u := by
  obtain ⟨s, r, g1, g2, g3, g4⟩ := h
  refine ⟨s t, ?_, ?_, g4 t⟩
  · rcases Nat.lt_or_ge (s t) a with q | q
    · have e := g3 (s t) (Or.inl q)
      have e2 := g1 (s t)
      rw [e, g1 t] at e2
      omega
    · exact q
  · rcases Nat.lt_or_ge (s t) b with q | q
    · exact q
    · have e := g3 (s t) (Or.inr q)
      have e2 := g1 (s t)
      rw [e, g1 t] at e2
      omega
theorem MV.symm {a b : Nat} {f f' : Nat → α} (h : MV a b f f') : MV a b f' f := by
  obtain ⟨s, r, g1, g2, g3, g4⟩ := h
  refine ⟨r, s, g2, g1, fun t ht => ?_, fun t => by rw [g4, g2]⟩
  have := g1 t
  rw [g3 t ht] at this
  exact this
/-- Two places exchanged. -/
def swF (f : Nat → α) (i j : Nat) : Nat → α := fun t => if t = i then f j else if t = j then f i else f t
theorem mv_sw {a b i j : Nat} (f : Nat → α) (h1 : a ≤ i) (h2 : i < b) (h3 : a ≤ j) (h4 : j < b) : MV a b f (swF f i j) := by
  refine ⟨swF id i j, swF id i j, fun t => ?_, fun t => ?_, fun t ht => ?_, fun t => ?_⟩
  · unfold swF; simp only [id]; repeat' split
    all_goals omega
  · unfold swF; simp only [id]; repeat' split
    all_goals omega
  · unfold swF; simp only [id]; repeat' split
    all_goals omega
  · unfold swF; simp only [id]; repeat' split
    all_goals rfl
/-- n places from a on exchanged with n places from b on. -/
def swR (a b n : Nat) (f : Nat → α) : Nat → α := fun t => if a ≤ t ∧ t < a + n then f (t - a + b) else if b ≤ t ∧ t < b + n then f (t - b + a) else f t
theorem swR_zero (a b : Nat) (f : Nat → α) : swR a b 0 f = f := by
  funext t; unfold swR; rw [if_neg (by omega), if_neg (by omega)]
theorem swR_step {a b n : Nat} (f : Nat → α) (h : a + n < b) : swF (swR a b n f) (a + n) (b + n) = swR a b (n + 1) f := by
  funext t; unfold swF swR
  repeat' split
  all_goals (first | rfl | omega | (congr 1; omega))
/-- The blocks from a to m and from m to b exchanged. -/
def rotF (a m b : Nat) (f : Nat → α) : Nat → α := fun t => if a ≤ t ∧ t < a + (b - m) then f (t + (m - a)) else if a + (b - m) ≤ t ∧ t < b then f (t - (b - m)) else f t
theorem mv_rot {a m b : Nat} (f : Nat → α) (h1 : a ≤ m) (h2 : m ≤ b) : MV a b f (rotF a m b f) := by
  refine ⟨rotF a m b id, rotF a (a + (b - m)) b id, fun t => ?_, fun t => ?_, fun t ht => ?_, fun t => ?_⟩
  · unfold rotF; simp only [id]; repeat' split
    all_goals omega
  · unfold rotF; simp only [id]; repeat' split
    all_goals omega
  · unfold rotF; simp only [id]; repeat' split
    all_goals omega
  · unfold rotF; simp only [id]; repeat' split
    all_goals rfl
theorem rot_left (a b : Nat) (f : Nat → α) : rotF a a b f = f := by
  funext t; unfold rotF
  repeat' split
  all_goals (first | rfl | omega | (congr 1; omega))
theorem rot_right (a b : Nat) (f : Nat → α) : rotF a b b f = f := by
  funext t; unfold rotF
  repeat' split
  all_goals (first | rfl | omega | (congr 1; omega))
theorem rot_gt {m i j : Nat} (f : Nat → α) (hi : i ≤ m) (h : j < i) : rotF (m - (i - j)) m (m + j) (swR (m - i) m j f) = rotF (m - i) m (m + j) f := by
  funext t; unfold rotF swR
  repeat' split
  all_goals (first | rfl | omega | (congr 1; omega))
theorem rot_lt {m i j : Nat} (f : Nat → α) (hi : i ≤ m) (h : i < j) : rotF (m - i) m (m + (j - i)) (swR (m - i) (m + j - i) i f) = rotF (m - i) m (m + j) f := by
  funext t; unfold rotF swR
  repeat' split
  all_goals (first | rfl | omega | (congr 1; omega))
theorem rot_eq {m i : Nat} (f : Nat → α) (hi : i ≤ m) : swR (m - i) m i f = rotF (m - i) m (m + i) f := by
  funext t; unfold rotF swR
  repeat' split
  all_goals (first | rfl | omega | (congr 1; omega))
/-- Element a moved to the place before i. -/
def upF (a i : Nat) (f : Nat → α) : Nat → α := rotF a (a + 1) i f
/-- Element m moved down to place i. -/
def downF (i m : Nat) (f : Nat → α) : Nat → α := rotF i m (m + 1) f
theorem up_step {a k : Nat} (f : Nat → α) (h : a ≤ k) : swF (rotF a (a + 1) (k + 1) f) k (k + 1) = rotF a (a + 1) (k + 1 + 1) f := by
  funext t; unfold swF rotF
  repeat' split
  all_goals (first | rfl | omega | (congr 1; omega))
theorem down_step {k m : Nat} (f : Nat → α) (h : k + 1 ≤ m) : swF (rotF (k + 1) m (m + 1) f) (k + 1) k = rotF k m (m + 1) f := by
  funext t; unfold swF rotF
  repeat' split
  all_goals (first | rfl | omega | (congr 1; omega))
/-- In ascending order from a to b. -/
def AscF (key : α → Int) (a b : Nat) (f : Nat → α) : Prop := ∀ s t, a ≤ s → s < t → t < b → key (f s) ≤ key (f t)
theorem AscF.one (key : α → Int) (a b : Nat) (f : Nat → α) (h : b ≤ a + 1) : AscF key a b f := fun s t h1 h2 h3 => by omega
theorem AscF.sub {key : α → Int} {a b a' b' : Nat} {f : Nat → α} (h : AscF key a b f) (ha : a ≤ a') (hb : b' ≤ b) : AscF key a' b' f := fun s t h1 h2 h3 => h s t (by omega) h2 (by omega)
theorem AscF.congr {key : α → Int} {a b : Nat} {f f' : Nat → α} (h : AscF key a b f) (e : ∀ t, a ≤ t → t < b → f' t = f t) : AscF key a b f' := fun s t h1 h2 h3 => by
  rw [e s (by omega) (by omega), e t (by omega) h3]
  exact h s t h1 h2 h3
/-- Two ascending parts, none of the first greater than one of the second. -/
theorem AscF.join {key : α → Int} {a m b : Nat} {f : Nat → α} (h1 : AscF key a m f) (h2 : AscF key m b f) (hx : ∀ s t, a ≤ s → s < m → m ≤ t → t < b → key (f s) ≤ key (f t)) : AscF key a b f := fun s t k1 k2 k3 => by
  rcases Nat.lt_or_ge t m with q | q
  · exact h1 s t k1 k2 q
  · rcases Nat.lt_or_ge s m with p | p
    · exact hx s t k1 p q k3
    · exact h2 s t p k2 k3
/-- One element put in its place among those behind it. -/
theorem asc_up {key : α → Int} {a b i : Nat} {f : Nat → α} (h : AscF key (a + 1) b f) (h1 : a + 1 ≤ i) (h2 : i ≤ b) (hl : i = a + 1 ∨ key (f (i - 1)) ≤ key (f a)) (hr : i = b ∨ key (f a) ≤ key (f i)) : AscF key a b (rotF a (a + 1) i f) := fun s t k1 k2 k3 => by
  have L : ∀ u, a + 1 ≤ u → u < i → key (f u) ≤ key (f a) := fun u u1 u2 => by
    rcases hl with q | q
    · omega
    · rcases Nat.lt_or_ge u (i - 1) with p | p
      · have := h u (i - 1) u1 p (by omega); omega
      · rw [show u = i - 1 by omega]; exact q
  have R : ∀ u, i ≤ u → u < b → key (f a) ≤ key (f u) := fun u u1 u2 => by
    rcases hr with q | q
    · omega
    · rcases Nat.lt_or_ge i u with p | p
      · have := h i u h1 p u2; omega
      · rw [show u = i by omega]; exact q
  have e1 : ∀ u, a ≤ u → u < i - 1 → rotF a (a + 1) i f u = f (u + 1) := fun u u1 u2 => by
    unfold rotF; rw [if_pos (by omega)]; congr 1; omega
  have e2 : rotF a (a + 1) i f (i - 1) = f a := by
    unfold rotF; rw [if_neg (by omega), if_pos (by omega)]; congr 1; omega
  have e3 : ∀ u, i ≤ u → rotF a (a + 1) i f u = f u := fun u u1 => by
    unfold rotF; rw [if_neg (by omega), if_neg (by omega)]
  rcases Nat.lt_or_ge t (i - 1) with q | q
  · rw [e1 s k1 (by omega), e1 t (by omega) q]
    exact h _ _ (by omega) (by omega) (by omega)
  · rcases Nat.lt_or_ge t i with q' | q'
    · rw [e1 s k1 (by omega), show t = i - 1 by omega, e2]
      exact L _ (by omega) (by omega)
    · rw [e3 t q']
      rcases Nat.lt_or_ge s (i - 1) with p | p
      · rw [e1 s k1 p]
        exact h _ _ (by omega) (by omega) k3
      · rcases Nat.lt_or_ge s i with p' | p'
        · rw [show s = i - 1 by omega, e2]
          exact R _ q' k3
        · rw [e3 s p']
          exact h _ _ (by omega) k2 k3
/-- One element put in its place among those before it. -/
theorem asc_down {key : α → Int} {a m i : Nat} {f : Nat → α} (h : AscF key a m f) (h1 : a ≤ i) (h2 : i ≤ m) (hl : i = a ∨ key (f (i - 1)) ≤ key (f m)) (hr : i = m ∨ key (f m) ≤ key (f i)) : AscF key a (m + 1) (rotF i m (m + 1) f) := fun s t k1 k2 k3 => by
  have L : ∀ u, a ≤ u → u < i → key (f u) ≤ key (f m) := fun u u1 u2 => by
    rcases hl with q | q
    · omega
    · rcases Nat.lt_or_ge u (i - 1) with p | p
      · have := h u (i - 1) u1 p (by omega); omega
      · rw [show u = i - 1 by omega]; exact q
  have R : ∀ u, i ≤ u → u < m → key (f m) ≤ key (f u) := fun u u1 u2 => by
    rcases hr with q | q
    · omega
    · rcases Nat.lt_or_ge i u with p | p
      · have := h i u h1 p u2; omega
      · rw [show u = i by omega]; exact q
  have e1 : ∀ u, u < i → rotF i m (m + 1) f u = f u := fun u u1 => by
    unfold rotF; rw [if_neg (by omega), if_neg (by omega)]
  have e2 : rotF i m (m + 1) f i = f m := by
    unfold rotF; rw [if_pos (by omega)]; congr 1; omega
  have e3 : ∀ u, i < u → u ≤ m → rotF i m (m + 1) f u = f (u - 1) := fun u u1 u2 => by
    unfold rotF; rw [if_neg (by omega), if_pos (by omega)]; congr 1; omega
  rcases Nat.lt_or_ge t i with q | q
  · rw [e1 s (by omega), e1 t q]
    exact h _ _ k1 k2 (by omega)
  · rcases Nat.lt_or_ge i t with q' | q'
    · rw [e3 t q' (by omega)]
      rcases Nat.lt_or_ge s i with p | p
      · rw [e1 s p]
        exact h _ _ k1 (by omega) (by omega)
      · rcases Nat.lt_or_ge i s with p' | p'
        · rw [e3 s p' (by omega)]
          exact h _ _ (by omega) (by omega) (by omega)
        · rw [show s = i by omega, e2]
          exact R _ (by omega) (by omega)
    · rw [e1 s (by omega), show t = i by omega, e2]
      exact L _ k1 (by omega)
/-- A symmetric merge: both parts, rotated, are ascending in two parts each, and no element of the left half is greater than one of the right half. -/
theorem merge_parts {key : α → Int} {a m b s0 r0 st mid : Nat} {f : Nat → α} (h1 : AscF key a m f) (h2 : AscF key m b f) (ham : a ≤ m) (hmb : m ≤ b) (hmid : mid = (a + b) / 2)
    (hs0 : s0 = if mid < m then mid + m - b else a) (hr0 : r0 = if mid < m then mid else m) (k1 : s0 ≤ st) (k2 : st ≤ r0)
    (hl : st = s0 ∨ key (f (st - 1)) ≤ key (f (mid + m - st))) (hr : st = r0 ∨ key (f (mid + m - 1 - st)) ≤ key (f st)) :
    a ≤ st ∧ st ≤ m ∧ m ≤ mid + m - st ∧ mid + m - st ≤ b ∧ st ≤ mid ∧ mid ≤ mid + m - st ∧
    AscF key a st (rotF st m (mid + m - st) f) ∧ AscF key st mid (rotF st m (mid + m - st) f) ∧ AscF key mid (mid + m - st) (rotF st m (mid + m - st) f) ∧ AscF key (mid + m - st) b (rotF st m (mid + m - st) f) ∧
    ∀ s t, a ≤ s → s < mid → mid ≤ t → t < b → key (rotF st m (mid + m - st) f s) ≤ key (rotF st m (mid + m - st) f t) := by
  have b1 : a ≤ st ∧ st ≤ m ∧ st ≤ mid ∧ mid + m - st ≤ b := by
    split at hs0 <;> split at hr0 <;> omega
  obtain ⟨b1, b2, b3, b4⟩ := b1
  obtain ⟨e, he⟩ : ∃ e, e = mid + m - st := ⟨_, rfl⟩
  have hme : m ≤ e := by omega
  have c0 : ∀ u, u < st → rotF st m e f u = f u := fun u u1 => by unfold rotF; rw [if_neg (by omega), if_neg (by omega)]
  have c1 : ∀ u, st ≤ u → u < mid → rotF st m e f u = f (u + (m - st)) := fun u u1 u2 => by unfold rotF; rw [if_pos (by omega)]
  have c2 : ∀ u, mid ≤ u → u < e → rotF st m e f u = f (u - (e - m)) := fun u u1 u2 => by unfold rotF; rw [if_neg (by omega), if_pos (by omega)]
  have c3 : ∀ u, e ≤ u → rotF st m e f u = f u := fun u u1 => by unfold rotF; rw [if_neg (by omega), if_neg (by omega)]
  -- the crossings
  have le1 : ∀ u v, a ≤ u → u ≤ v → v < m → key (f u) ≤ key (f v) := fun u v q1 q2 q3 => by
    rcases Nat.lt_or_ge u v with q | q
    · exact h1 u v q1 q q3
    · rw [show u = v by omega]; exact Int.le_refl _
  have le2 : ∀ u v, m ≤ u → u ≤ v → v < b → key (f u) ≤ key (f v) := fun u v q1 q2 q3 => by
    rcases Nat.lt_or_ge u v with q | q
    · exact h2 u v q1 q q3
    · rw [show u = v by omega]; exact Int.le_refl _
  have X1 : ∀ u v, a ≤ u → u < st → e ≤ v → v < b → key (f u) ≤ key (f v) := fun u v q1 q2 q3 q4 => by
    rcases hl with q | q
    · split at hs0 <;> omega
    · have p1 := le1 u (st - 1) q1 (by omega) (by omega)
      have p2 := le2 (mid + m - st) v (by omega) (by omega) q4
      omega
  have X2 : ∀ u v, m ≤ u → u < e → st ≤ v → v < m → key (f u) ≤ key (f v) := fun u v q1 q2 q3 q4 => by
    rcases hr with q | q
    · split at hr0 <;> omega
    · have p1 := le2 u (mid + m - 1 - st) q1 (by omega) (by omega)
      have p2 := le1 st v (by omega) q3 q4
      omega
  rw [← he]
  refine ⟨b1, b2, by omega, by omega, b3, by omega, ?_, ?_, ?_, ?_, ?_⟩
  · exact (h1.sub (Nat.le_refl _) b2).congr fun t t1 t2 => c0 t t2
  · intro s t q1 q2 q3
    rw [c1 s q1 (by omega), c1 t (by omega) q3]
    exact h2 _ _ (by omega) (by omega) (by omega)
  · intro s t q1 q2 q3
    rw [c2 s q1 (by omega), c2 t (by omega) q3]
    exact h1 _ _ (by omega) (by omega) (by omega)
  · exact (h2.sub (by omega) (Nat.le_refl _)).congr fun t t1 t2 => c3 t t1
  · intro s t q1 q2 q3 q4
    rcases Nat.lt_or_ge s st with p | p
    · rw [c0 s p]
      rcases Nat.lt_or_ge t e with r | r
      · rw [c2 t q3 r]
        exact le1 _ _ q1 (by omega) (by omega)
      · rw [c3 t r]
        exact X1 _ _ q1 p r q4
    · rw [c1 s p q2]
      rcases Nat.lt_or_ge t e with r | r
      · rw [c2 t q3 r]
        exact X2 _ _ (by omega) (by omega) (by omega) (by omega)
      · rw [c3 t r]
        exact le2 _ _ (by omega) (by omega) q4
/-- Both halves sorted among themselves: the whole is ascending. -/
theorem merge_done {key : α → Int} {a mid b : Nat} {f1 f2 f3 : Nat → α} (hx : ∀ s t, a ≤ s → s < mid → mid ≤ t → t < b → key (f1 s) ≤ key (f1 t)) (v1 : MV a mid f1 f2) (a1 : AscF key a mid f2) (v2 : MV mid b f2 f3) (a2 : AscF key mid b f3) : AscF key a b f3 := by
  refine AscF.join (m := mid) (a1.congr fun t t1 t2 => v2.out (Or.inl t2)) a2 fun s t q1 q2 q3 q4 => ?_
  rw [v2.out (Or.inl q2)]
  obtain ⟨u, u1, u2, u3⟩ := v1.into q1 q2
  obtain ⟨x, x1, x2, x3⟩ := v2.into q3 q4
  rw [u3, x3, v1.out (Or.inr x1)]
  exact hx _ _ u1 u2 x1 x2
/-- Two ascending arrangements of elements with different keys are one. -/
theorem asc_unique_lt {key : α → Int} {N : Nat} {f g h : Nat → α} (inj : ∀ s t, s < N → t < N → key (f s) = key (f t) → s = t) (v1 : MV 0 N f g) (v2 : MV 0 N f h) (a1 : AscF key 0 N g) (a2 : AscF key 0 N h) (t : Nat) (ht : t < N) (ih : ∀ s, s < t → g s = h s) : ¬ key (g t) < key (h t) := by
  intro hlt
  -- g t stands somewhere in h
  obtain ⟨u, _, u2, u3⟩ := (v1.symm.trans v2).symm.into (Nat.zero_le t) ht
  rcases Nat.lt_or_ge u t with q | q
  · rw [← ih u q] at u3
    -- then two places of g have one key
    obtain ⟨s, r, g1, g2, g3, g4⟩ := v1
    have su : s u < N := by
      rcases Nat.lt_or_ge (s u) N with p | p
      · exact p
      · have e := g3 (s u) (Or.inr p); have e2 := g1 (s u); rw [e, g1 u] at e2; omega
    have st : s t < N := by
      rcases Nat.lt_or_ge (s t) N with p | p
      · exact p
      · have e := g3 (s t) (Or.inr p); have e2 := g1 (s t); rw [e, g1 t] at e2; omega
    have := inj (s t) (s u) st su (by rw [← g4, ← g4, u3])
    have e : t = u := by rw [← g1 t, ← g1 u, this]
    omega
  · have : key (h t) ≤ key (h u) := by
      rcases Nat.lt_or_ge t u with p | p
      · exact a2 t u (Nat.zero_le _) p u2
      · rw [show u = t by omega]; exact Int.le_refl _
    rw [← u3] at this
    omega
theorem asc_unique {key : α → Int} {N : Nat} {f g h : Nat → α} (inj : ∀ s t, s < N → t < N → key (f s) = key (f t) → s = t) (v1 : MV 0 N f g) (v2 : MV 0 N f h) (a1 : AscF key 0 N g) (a2 : AscF key 0 N h) : ∀ t, t < N → g t = h t := by
  intro t
  induction t using Nat.strongRecOn with
  | ind t ih =>
    intro ht
    have n1 := asc_unique_lt inj v1 v2 a1 a2 t ht fun s hs => ih s hs (by omega)
    have n2 := asc_unique_lt inj v2 v1 a2 a1 t ht fun s hs => (ih s hs (by omega)).symm
    obtain ⟨u, _, u2, u3⟩ := v1.into (Nat.zero_le t) ht
    obtain ⟨x, _, x2, x3⟩ := v2.into (Nat.zero_le t) ht
    have := inj u x u2 x2 (by rw [← u3, ← x3]; omega)
    rw [u3, x3, this]
end
end Go.Proofs.Ytbklnlmijkclmaa
