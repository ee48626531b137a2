/- Pitches in numbers: what is valid, what is made simplest, beats, comparisons. -/
import Derived.Test.YtgoaofkbegfinaaNumBase
namespace Go.Proofs.Ytgoaofkbegfinaa
set_option linter.unusedVariables false
def PkOk (n d : Int) : Prop := ((1 ≤ n ∧ n ≤ 1000000000) ∧ 1 ≤ d ∧ d ≤ 1000000000) ∧ gcdI n d = 1
instance (n d : Int) : Decidable (PkOk n d) := by unfold PkOk; infer_instance
def pkB (n d : Int) : Bool := decide (PkOk n d)
/-- 1 to 10^18. -/
def B18 (n : Int) : Prop := 1 ≤ n ∧ n ≤ 1000000000000000000
instance (n : Int) : Decidable (B18 n) := by unfold B18; infer_instance
/-- A quotient can be made a pitch. -/
def MkOk (n d : Int) : Prop := (B18 n ∧ B18 d) ∧ PkOk (n / gcdI n d) (d / gcdI n d)
instance (n d : Int) : Decidable (MkOk n d) := by unfold MkOk; infer_instance
def MakeAt (n d x y : Int) (z : Bool) : Prop := (MkOk n d ∧ x = n / gcdI n d ∧ y = d / gcdI n d ∧ z = true) ∨ (¬ MkOk n d ∧ x = 0 ∧ y = 0 ∧ z = false)
theorem make_ex (n d : Int) : ∃ x y z, MakeAt n d x y z := by
  by_cases h : MkOk n d
  · exact ⟨_, _, _, .inl ⟨h, rfl, rfl, rfl⟩⟩
  · exact ⟨_, _, _, .inr ⟨h, rfl, rfl, rfl⟩⟩
theorem make_unique {n d x y x' y' : Int} {z z' : Bool} (h : MakeAt n d x y z) (g : MakeAt n d x' y' z') : x = x' ∧ y = y' ∧ z = z' := by
  rcases h with ⟨h0, h1, h2, h3⟩ | ⟨h0, h1, h2, h3⟩ <;> rcases g with ⟨g0, g1, g2, g3⟩ | ⟨g0, g1, g2, g3⟩
  · exact ⟨h1.trans g1.symm, h2.trans g2.symm, h3.trans g3.symm⟩
  · exact absurd h0 g0
  · exact absurd g0 h0
  · exact ⟨h1.trans g1.symm, h2.trans g2.symm, h3.trans g3.symm⟩
theorem gcdI_nat (a b : Nat) : gcdI (a : Int) (b : Int) = (Nat.gcd a b : Int) := by unfold gcdI Int.gcd; simp
theorem gcdI_comm (a b : Int) : gcdI a b = gcdI b a := by unfold gcdI; rw [Int.gcd_comm]
/-- What the greatest common divisor leaves. -/
theorem gcd_facts {n d : Int} (hn : 1 ≤ n) (hd : 1 ≤ d) : (1 ≤ gcdI n d ∧ gcdI n d ≤ n ∧ gcdI n d ≤ d) ∧ (n = gcdI n d * (n / gcdI n d) ∧ d = gcdI n d * (d / gcdI n d)) ∧ (1 ≤ n / gcdI n d ∧ 1 ≤ d / gcdI n d) ∧ gcdI (n / gcdI n d) (d / gcdI n d) = 1 := by
  obtain ⟨N, rfl⟩ : ∃ N : Nat, n = N := ⟨n.toNat, by omega⟩
  obtain ⟨D, rfl⟩ : ∃ D : Nat, d = D := ⟨d.toNat, by omega⟩
  rw [gcdI_nat]
  have hp : 0 < Nat.gcd N D := Nat.gcd_pos_of_pos_left _ (by omega)
  have d1 : Nat.gcd N D ∣ N := Nat.gcd_dvd_left _ _
  have d2 : Nat.gcd N D ∣ D := Nat.gcd_dvd_right _ _
  have l1 := Nat.le_of_dvd (by omega) d1
  have l2 := Nat.le_of_dvd (by omega) d2
  have q1 : 1 ≤ N / Nat.gcd N D := Nat.div_pos l1 hp
  have q2 : 1 ≤ D / Nat.gcd N D := Nat.div_pos l2 hp
  have cop := Nat.coprime_div_gcd_div_gcd (m := N) (n := D) hp
  have e1 : ((N : Int) / (Nat.gcd N D : Int)) = ((N / Nat.gcd N D : Nat) : Int) := by simp
  have e2 : ((D : Int) / (Nat.gcd N D : Int)) = ((D / Nat.gcd N D : Nat) : Int) := by simp
  rw [e1, e2, gcdI_nat]
  refine ⟨by omega, ⟨?_, ?_⟩, by omega, ?_⟩
  · exact_mod_cast (Nat.mul_div_cancel' d1).symm
  · exact_mod_cast (Nat.mul_div_cancel' d2).symm
  · exact_mod_cast cop
/-- Two simplest quotients that are equal are the same. -/
theorem cross_same {a b c d : Int} (ha : 1 ≤ a) (hb : 1 ≤ b) (hc : 1 ≤ c) (hd : 1 ≤ d) (g1 : gcdI a b = 1) (g2 : gcdI c d = 1) (h : a * d = c * b) : a = c ∧ b = d := by
  obtain ⟨A, rfl⟩ : ∃ N : Nat, a = N := ⟨a.toNat, by omega⟩
  obtain ⟨B, rfl⟩ : ∃ N : Nat, b = N := ⟨b.toNat, by omega⟩
  obtain ⟨C, rfl⟩ : ∃ N : Nat, c = N := ⟨c.toNat, by omega⟩
  obtain ⟨D, rfl⟩ : ∃ N : Nat, d = N := ⟨d.toNat, by omega⟩
  rw [gcdI_nat] at g1 g2
  have k1 : Nat.Coprime A B := by exact_mod_cast g1
  have k2 : Nat.Coprime C D := by exact_mod_cast g2
  have h' : A * D = C * B := by exact_mod_cast h
  have p1 : A ∣ C := k1.dvd_of_dvd_mul_right ⟨D, h'.symm⟩
  have p2 : C ∣ A := k2.dvd_of_dvd_mul_right ⟨B, h'⟩
  have e : A = C := Nat.dvd_antisymm p1 p2
  subst e
  have : D = B := Nat.eq_of_mul_eq_mul_left (by omega) h'
  subst this
  exact ⟨rfl, rfl⟩
/-- Beats between partials. -/
def BtOk (an ad bn bd p q : Int) : Prop :=
  ((PkOk an ad ∧ PkOk bn bd) ∧ (1 ≤ p ∧ p ≤ 16) ∧ 1 ≤ q ∧ q ≤ 16) ∧ p * an * (bd / gcdI ad bd) ≤ 1000000000000000000 ∧ q * bn * (ad / gcdI ad bd) ≤ 1000000000000000000
def dif (x y : Int) : Int := max (x - y) (y - x)
/-- The absolute difference of the partials, over their common denominator. -/
def btN (an ad bn bd p q : Int) : Int := dif (p * an * (bd / gcdI ad bd)) (q * bn * (ad / gcdI ad bd))
def BeatAt (an ad bn bd p q x y : Int) (z : Bool) : Prop :=
  (BtOk an ad bn bd p q ∧ btN an ad bn bd p q = 0 ∧ x = 0 ∧ y = 0 ∧ z = true) ∨
  (BtOk an ad bn bd p q ∧ btN an ad bn bd p q ≠ 0 ∧ MakeAt (btN an ad bn bd p q) (ad / gcdI ad bd * bd) x y z) ∨
  (¬ BtOk an ad bn bd p q ∧ x = 0 ∧ y = 0 ∧ z = false)
theorem beat_ex (an ad bn bd p q : Int) : ∃ x y z, BeatAt an ad bn bd p q x y z := by
  by_cases h : BtOk an ad bn bd p q
  · by_cases h0 : btN an ad bn bd p q = 0
    · exact ⟨_, _, _, .inl ⟨h, h0, rfl, rfl, rfl⟩⟩
    · obtain ⟨x, y, z, hm⟩ := make_ex (btN an ad bn bd p q) (ad / gcdI ad bd * bd)
      exact ⟨x, y, z, .inr (.inl ⟨h, h0, hm⟩)⟩
  · exact ⟨_, _, _, .inr (.inr ⟨h, rfl, rfl, rfl⟩)⟩
theorem dif_comm (x y : Int) : dif x y = dif y x := by unfold dif; omega
/-- Beats are the same both ways. -/
theorem beat_comm {an ad bn bd p q x y x' y' : Int} {z z' : Bool} (h1 : PkOk an ad) (h2 : PkOk bn bd) (h : BeatAt an ad bn bd p q x y z) (g : BeatAt bn bd an ad q p x' y' z') : x = x' ∧ y = y' ∧ z = z' := by
  have hd : btN bn bd an ad q p = btN an ad bn bd p q := by unfold btN; rw [gcdI_comm bd ad, dif_comm]
  have hb : BtOk bn bd an ad q p ↔ BtOk an ad bn bd p q := by
    unfold BtOk; rw [gcdI_comm bd ad]
    constructor
    · rintro ⟨⟨⟨a, b⟩, c, d⟩, e, f⟩; exact ⟨⟨⟨b, a⟩, d, c⟩, f, e⟩
    · rintro ⟨⟨⟨a, b⟩, c, d⟩, e, f⟩; exact ⟨⟨⟨b, a⟩, d, c⟩, f, e⟩
  have hden : bd / gcdI bd ad * ad = ad / gcdI ad bd * bd := by
    rw [gcdI_comm bd ad]
    obtain ⟨_, ⟨e1, e2⟩, _⟩ := gcd_facts h1.1.2.1 h2.1.2.1
    obtain ⟨G, hG⟩ : ∃ G, G = gcdI ad bd := ⟨_, rfl⟩
    rw [← hG] at e1 e2 ⊢
    obtain ⟨u, hu⟩ : ∃ u, u = ad / G := ⟨_, rfl⟩
    obtain ⟨v, hv⟩ : ∃ v, v = bd / G := ⟨_, rfl⟩
    rw [← hu] at e1 ⊢
    rw [← hv] at e2 ⊢
    rw [e1, e2]
    grind
  unfold BeatAt at g
  rw [hd, hden, hb] at g
  rcases h with ⟨a0, a1, a2, a3, a4⟩ | ⟨a0, a1, a2⟩ | ⟨a0, a2, a3, a4⟩ <;> rcases g with ⟨b0, b1, b2, b3, b4⟩ | ⟨b0, b1, b2⟩ | ⟨b0, b2, b3, b4⟩
  · exact ⟨a2.trans b2.symm, a3.trans b3.symm, a4.trans b4.symm⟩
  · exact absurd a1 b1
  · exact absurd a0 b0
  · exact absurd b1 a1
  · exact make_unique a2 b2
  · exact absurd a0 b0
  · exact absurd b0 a0
  · exact absurd b0 a0
  · exact ⟨a2.trans b2.symm, a3.trans b3.symm, a4.trans b4.symm⟩
def CmpAt (an ad bn bd c : Int) : Prop :=
  ((PkOk an ad ∧ PkOk bn bd) ∧ ((an * bd < bn * ad ∧ c = -1) ∨ (bn * ad < an * bd ∧ c = 1) ∨ (an * bd = bn * ad ∧ c = 0))) ∨ (¬ (PkOk an ad ∧ PkOk bn bd) ∧ c = 0)
theorem cmp_ex17 (an ad bn bd : Int) : ∃ c, CmpAt an ad bn bd c := by
  by_cases h : PkOk an ad ∧ PkOk bn bd
  · rcases Int.lt_trichotomy (an * bd) (bn * ad) with q | q | q
    · exact ⟨_, .inl ⟨h, .inl ⟨q, rfl⟩⟩⟩
    · exact ⟨_, .inl ⟨h, .inr (.inr ⟨q, rfl⟩)⟩⟩
    · exact ⟨_, .inl ⟨h, .inr (.inl ⟨q, rfl⟩)⟩⟩
  · exact ⟨_, .inr ⟨h, rfl⟩⟩
theorem cmp_neg17 {an ad bn bd c e : Int} (h1 : PkOk an ad) (h2 : PkOk bn bd) (h : CmpAt an ad bn bd c) (g : CmpAt bn bd an ad e) : c = -e := by
  rcases h with ⟨_, h⟩ | ⟨h, _⟩
  · rcases g with ⟨_, g⟩ | ⟨g, _⟩
    · omega
    · exact absurd ⟨h2, h1⟩ g
  · exact absurd ⟨h1, h2⟩ h
theorem cmp_zero17 {an ad bn bd c : Int} (h1 : PkOk an ad) (h2 : PkOk bn bd) (h : CmpAt an ad bn bd c) : c = 0 ↔ an = bn ∧ ad = bd := by
  rcases h with ⟨_, h⟩ | ⟨h, _⟩
  · constructor
    · intro hc
      have e : an * bd = bn * ad := by omega
      exact cross_same h1.1.1.1 h1.1.2.1 h2.1.1.1 h2.1.2.1 h1.2 h2.2 e
    · rintro ⟨rfl, rfl⟩
      rcases h with ⟨q, _⟩ | ⟨q, _⟩ | ⟨_, q⟩
      · exact absurd q (Int.lt_irrefl _)
      · exact absurd q (Int.lt_irrefl _)
      · exact q
  · exact absurd ⟨h1, h2⟩ h
def TpOk (n d u v : Int) : Prop := PkOk n d ∧ (1 ≤ u ∧ u ≤ 1000) ∧ 1 ≤ v ∧ v ≤ 1000
def TimesAt17 (n d u v x y : Int) (z : Bool) : Prop := (TpOk n d u v ∧ MakeAt (n * u) (d * v) x y z) ∨ (¬ TpOk n d u v ∧ x = 0 ∧ y = 0 ∧ z = false)
theorem times_ex17 (n d u v : Int) : ∃ x y z, TimesAt17 n d u v x y z := by
  by_cases h : TpOk n d u v
  · obtain ⟨x, y, z, hm⟩ := make_ex (n * u) (d * v)
    exact ⟨x, y, z, .inl ⟨h, hm⟩⟩
  · exact ⟨_, _, _, .inr ⟨h, rfl, rfl, rfl⟩⟩
/-- A pitch as it is drawn. -/
def DrP (n d : Int) : Prop := PkOk n d ∧ n ≤ 999 ∧ d ≤ 4
/-- A fifth above it. -/
theorem fifth17 {n d x y : Int} {z : Bool} (h : DrP n d) (ht : TimesAt17 n d 3 2 x y z) : z = true ∧ PkOk x y ∧ x ≤ 2997 ∧ y ≤ 8 ∧ ∃ g, 1 ≤ g ∧ n * 3 = g * x ∧ d * 2 = g * y := by
  obtain ⟨hk, hn, hd⟩ := h
  have hb := hk.1
  rcases ht with ⟨_, ht⟩ | ⟨ht, _⟩
  · obtain ⟨⟨g1, g2, g3⟩, ⟨e1, e2⟩, ⟨q1, q2⟩, hg⟩ := gcd_facts (n := n * 3) (d := d * 2) (by omega) (by omega)
    have u1 : n * 3 / gcdI (n * 3) (d * 2) ≤ n * 3 := Int.ediv_le_self _ (by omega)
    have u2 : d * 2 / gcdI (n * 3) (d * 2) ≤ d * 2 := Int.ediv_le_self _ (by omega)
    have ok : MkOk (n * 3) (d * 2) := ⟨⟨⟨by omega, by omega⟩, by omega, by omega⟩, ⟨⟨by omega, by omega⟩, by omega, by omega⟩, hg⟩
    rcases ht with ⟨_, rfl, rfl, rfl⟩ | ⟨h, _⟩
    · exact ⟨rfl, ok.2, by omega, by omega, _, g1, e1, e2⟩
    · exact absurd ok h
  · exact absurd ⟨hk, ⟨by omega, by omega⟩, by omega, by omega⟩ ht
/-- A pure fifth has no beats, and it is higher. -/
theorem pure17 {n d x y g bx by' c : Int} {z : Bool} (h : DrP n d) (hx : PkOk x y) (ux : x ≤ 2997) (uy : y ≤ 8) (hg : 1 ≤ g) (e1 : n * 3 = g * x) (e2 : d * 2 = g * y) (hb : BeatAt n d x y 3 2 bx by' z) (hc : CmpAt n d x y c) : (bx = 0 ∧ by' = 0 ∧ z = true) ∧ c = -1 := by
  obtain ⟨hk, hn, hd⟩ := h
  have k1 := hk.1
  have k2 := hx.1
  have cr : n * 3 * y = x * (d * 2) := by rw [e1, e2]; grind
  obtain ⟨⟨g1, g2, g3⟩, ⟨f1, f2⟩, ⟨q1, q2⟩, _⟩ := gcd_facts (n := d) (d := y) (by omega) (by omega)
  obtain ⟨G, hG⟩ : ∃ G, G = gcdI d y := ⟨_, rfl⟩
  obtain ⟨u, hu⟩ : ∃ u, u = d / G := ⟨_, rfl⟩
  obtain ⟨v, hv⟩ : ∃ v, v = y / G := ⟨_, rfl⟩
  rw [← hG] at g1 f1 f2 q1 q2
  rw [← hu] at f1 q1
  rw [← hv] at f2 q2
  have ud : u ≤ d := by rw [hu]; exact Int.ediv_le_self _ (by omega)
  have vd : v ≤ y := by rw [hv]; exact Int.ediv_le_self _ (by omega)
  have e3 : 3 * n * v = 2 * x * u := by
    have : G * (3 * n * v) = G * (2 * x * u) := by
      have a1 : G * (3 * n * v) = n * 3 * y := by rw [f2]; grind
      have a2 : G * (2 * x * u) = x * (d * 2) := by rw [f1]; grind
      rw [a1, a2, cr]
    exact Int.eq_of_mul_eq_mul_left (by omega) this
  have big1 : 3 * n * v ≤ 2997 * 8 := Int.mul_le_mul (by omega) (by omega) (by omega) (by omega)
  have ok : BtOk n d x y 3 2 := by
    refine ⟨⟨⟨hk, hx⟩, ⟨by omega, by omega⟩, by omega, by omega⟩, ?_, ?_⟩
    · rw [← hG, ← hv]; omega
    · rw [← hG, ← hu, ← e3]; omega
  have z0 : btN n d x y 3 2 = 0 := by unfold btN dif; rw [← hG, ← hu, ← hv, e3]; omega
  refine ⟨?_, ?_⟩
  · rcases hb with ⟨_, _, h1, h2, h3⟩ | ⟨_, h1, _⟩ | ⟨h1, _⟩
    · exact ⟨h1, h2, h3⟩
    · exact absurd z0 h1
    · exact absurd ok h1
  · have hpos : 0 < n * y := Int.mul_pos (by omega) (by omega)
    have lt : n * y < x * d := by
      have : 3 * (n * y) = 2 * (x * d) := by grind
      omega
    rcases hc with ⟨_, hc⟩ | ⟨hc, _⟩
    · omega
    · exact absurd ⟨hk, hx⟩ hc
end Go.Proofs.Ytgoaofkbegfinaa
