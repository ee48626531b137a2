/- What laws.FnOctaves calls, at one drawn interval: within one octave, the inverse, the sums, the order; told without a look inside. -/
import Derived.Test.YtdnlebijmiaclabDoorOctWalks
import Derived.Test.YtdnlebijmiaclabDoorCompareTone
import Derived.Test.YtdnlebijmiaclabDoorDrawTone
namespace Go.Proofs.YtdnlebijmiaclabDoor
open Go.RowKit Go.Joins
set_option linter.unusedVariables false
theorem gcd4_one (a b c : Int) : gcd4 a b c 1 = 1 := by
  have h1 := gcd4_pos a b c 1 (by omega)
  have h2 := Int.le_of_dvd (by omega) (gcd4_dvd a b c 1).2.2.2
  omega
theorem simV_one (a b c : Int) : simV ⟨a, b, c, 1⟩ = ⟨a, b, c, 1⟩ := by
  unfold simV
  simp only [gcd4_one, Int.tdiv_one]
/-- An interval within one octave has no octaves, in its simplest form too. -/
theorem octAt_zero {a b c d n u : Int} {X : Iv} (h : OctAt a b c d n) (hu : u = a - n * d) (d1 : 1 ≤ d) (hX : okV X = true) (hp : PropV X ⟨u, b, c, d⟩) : OctAt X.two X.three X.five X.root 0 := by
  refine ⟨hX, fun k => ?_⟩
  have rX := okV_root hX
  obtain ⟨e1, e2, e3⟩ := hp
  simp only at e1 e2 e3
  have e4 : (X.two - k * X.root) * d = (u - k * d) * X.root := by
    rw [Int.sub_mul, Int.sub_mul, e1]
    congr 1
    ac_rfl
  rw [← sgnP_mul d d1 (X.two - k * X.root), e4, e2, e3, sgnP_mul X.root rX]
  have e5 : u - k * d = a - (n + k) * d := by rw [hu, Int.add_mul]; omega
  rw [e5, h.2 (n + k)]
  omega
theorem far63 : 3 ^ 6 * 5 ^ 3 ≤ 2 ^ 17 := by decide +kernel
/-- How far a drawn interval is from its octaves. -/
theorem ti_oct {a b c d n u : Int} (ht : TI a b c d) (h : OctAt a b c d n) (hu : u = a - n * d) : -17 < u ∧ u < 29 ∧ -41 ≤ n ∧ n ≤ 41 := by
  obtain ⟨h1, h2, h3, h4, h5, h6, h7, h8⟩ := ht
  have k1 := (h.2 n).2 (Int.le_refl _)
  have k2 := h.2 (n + 1)
  rw [← hu] at k1
  have e : a - (n + 1) * d = u - d := by rw [hu, Int.add_mul, Int.one_mul]; omega
  rw [e] at k2
  have b1 : -17 < u := by
    rcases (show -17 < u ∨ u ≤ -17 from by omega) with q | q
    · exact q
    · have := sgnP_near 6 3 17 u b c far63 (by omega) (by omega) (by omega) (by omega) (by omega) (by omega)
      omega
  have b2 : u < 29 := by
    rcases (show u < 29 ∨ 17 ≤ u - d from by omega) with q | q
    · exact q
    · have := sgnP_far 6 3 17 (u - d) b c far63 (by omega) (by omega) (by omega) (by omega) (by omega)
      have := k2.1 this
      omega
  refine ⟨b1, b2, ?_, ?_⟩
  · rcases (show -41 ≤ n ∨ n ≤ -41 from by omega) with q | q
    · exact q
    · have := mul_mono q h1
      omega
  · rcases (show n ≤ 41 ∨ 41 ≤ n from by omega) with q | q
    · exact q
    · have := mul_mono q h1
      omega
theorem checkAt_yes {a b c d : Int} {X : Iv} (hb : -1000000 ≤ a ∧ a ≤ 1000000 ∧ -1000000 ≤ b ∧ b ≤ 1000000 ∧ -1000000 ≤ c ∧ c ≤ 1000000 ∧ 1 ≤ d ∧ d ≤ 1000000) (hX : X = simV ⟨a, b, c, d⟩) (hk : okV X = true) : CheckAt a b c d X.two X.three X.five X.root true := by
  subst hX
  exact ⟨hb, Or.inl ⟨rfl, hk, rfl, rfl, rfl, rfl⟩⟩
/-- The two inverses of an interval within one octave. -/
theorem inv_twice {X I : Iv} (hX : okV X = true) (hs : simV X = X) (hI : I = simV ⟨X.root - X.two, -X.three, -X.five, X.root⟩) : PropV ⟨I.root - I.two, -I.three, -I.five, I.root⟩ X ∧ PropV (sumV X I) ⟨1, 0, 0, 1⟩ := by
  have rX := okV_root hX
  have hp := simV_prop (x := ⟨X.root - X.two, -X.three, -X.five, X.root⟩) rX
  rw [← hI] at hp
  obtain ⟨e1, e2, e3⟩ := hp
  simp only at e1 e2 e3
  rw [Int.sub_mul] at e1
  rw [Int.neg_mul] at e2 e3
  refine ⟨⟨?_, ?_, ?_⟩, ?_, ?_, ?_⟩
  · show (I.root - I.two) * X.root = X.two * I.root
    rw [Int.sub_mul, e1, Int.mul_comm I.root X.root]; omega
  · show -I.three * X.root = X.three * I.root
    rw [Int.neg_mul, e2]; omega
  · show -I.five * X.root = X.five * I.root
    rw [Int.neg_mul, e3]; omega
  · show (X.two * I.root + I.two * X.root) * 1 = 1 * (X.root * I.root)
    rw [e1]; omega
  · show (X.three * I.root + I.three * X.root) * 1 = 0 * (X.root * I.root)
    rw [e2]; omega
  · show (X.five * I.root + I.five * X.root) * 1 = 0 * (X.root * I.root)
    rw [e3]; omega
/-- The octaves, added again. -/
theorem oct_again {a b c d n u : Int} {X : Iv} (hu : u = a - n * d) (hp : PropV X ⟨u, b, c, d⟩) : PropV (sumV X ⟨n, 0, 0, 1⟩) ⟨a, b, c, d⟩ := by
  obtain ⟨e1, e2, e3⟩ := hp
  simp only at e1 e2 e3
  refine ⟨?_, ?_, ?_⟩
  · show (X.two * 1 + n * X.root) * d = a * (X.root * 1)
    rw [Int.mul_one, Int.mul_one, Int.add_mul, e1, hu, Int.sub_mul]
    have : n * X.root * d = n * d * X.root := by ac_rfl
    omega
  · show (X.three * 1 + 0 * X.root) * d = b * (X.root * 1)
    rw [Int.mul_one, Int.mul_one, Int.zero_mul, Int.add_zero, e2]
  · show (X.five * 1 + 0 * X.root) * d = c * (X.root * 1)
    rw [Int.mul_one, Int.mul_one, Int.zero_mul, Int.add_zero, e3]
/-- What the law's calls answer. -/
structure OctSay (P : Addr) (a b c d p q r s e f g h i j k l n z y : Int) : Prop where
  s1 : ∀ w, Calls Tryd.prog 32 #[ivV a b c d] w fun en w' => en = .returned (.tuple #[ivV p q r s, .bool true]) ∧ Below w.heap.size w w'
  s2 : ∀ w, Calls Tryd.prog 32 #[ivV p q r s] w fun en w' => en = .returned (.tuple #[ivV p q r s, .bool true]) ∧ Below w.heap.size w w'
  s3 : ∀ w, Calls Tryd.prog 33 #[ivV p q r s] w fun en w' => en = .returned (.tuple #[ivV e f g h, .bool true]) ∧ Below w.heap.size w w'
  s4 : ∀ w, Calls Tryd.prog 33 #[ivV e f g h] w fun en w' => en = .returned (.tuple #[ivV p q r s, .bool true]) ∧ Below w.heap.size w w'
  s5 : ∀ w, Calls Tryd.prog 19 #[ivV p q r s, ivV e f g h] w fun en w' => en = .returned (.tuple #[ivV 1 0 0 1, .bool true]) ∧ Below w.heap.size w w'
  s6 : ∀ w, Calls Tryd.prog 35 #[ivV a b c d] w fun en w' => en = .returned (.int .i64 n) ∧ Below w.heap.size w w'
  s7 : ∀ w, Calls Tryd.prog 18 #[ivV 1 0 0 1, .int .i64 n] w fun en w' => en = .returned (.tuple #[ivV n 0 0 1, .bool true]) ∧ Below w.heap.size w w'
  s8 : ∀ w, Calls Tryd.prog 19 #[ivV p q r s, ivV n 0 0 1] w fun en w' => en = .returned (.tuple #[ivV i j k l, .bool true]) ∧ Below w.heap.size w w'
  s9 : ∀ w, SenAt P w → Calls Tryd.prog 20 #[ivV p q r s] w fun en w' => en = .returned (.int .i64 z) ∧ Below w.heap.size w w'
  s10 : ∀ w, SenAt P w → Calls Tryd.prog 17 #[ivV p q r s, ivV 1 0 0 1] w fun en w' => en = .returned (.int .i64 y) ∧ Below w.heap.size w w'
  s11 : ∀ w, Calls Tryd.prog 36 #[ivV a b c d] w fun en w' => en = .returned (ivV i j k l) ∧ Below w.heap.size w w'
  s12 : ∀ w, Calls Tryd.prog 37 #[ivV a b c d, ivV p q r s] w fun en w' => en = .returned (.bool true) ∧ Below w.heap.size w w'
  z0 : 0 ≤ z
  y0 : y < 0
theorem octSay_ex (P : Addr) {a b c d : Int} (ht : TI a b c d) : ∃ p q r s e f g h i j k l n z y, OctSay P a b c d p q r s e f g h i j k l n z y := by
  have hd := ht
  obtain ⟨h1, h2, h3, h4, h5, h6, h7, h8⟩ := hd
  have hx : okI a b c d = true := okI_mk (by omega)
  obtain ⟨n, hn⟩ := octAt_ex hx
  obtain ⟨u, hu⟩ : ∃ u, u = a - n * d := ⟨_, rfl⟩
  obtain ⟨u1, u2, n1, n2⟩ := ti_oct ht hn hu
  have hu0 : okV ⟨u, b, c, d⟩ = true := show okI u b c d = true from okI_mk (by omega)
  obtain ⟨X, hX⟩ : ∃ X, X = simV ⟨u, b, c, d⟩ := ⟨_, rfl⟩
  have pX : PropV X ⟨u, b, c, d⟩ := by rw [hX]; exact simV_prop h1
  have kX : okV X = true := by rw [hX]; exact simV_ok hu0
  have sX : simV X = X := by rw [hX]; exact simV_twice h1
  have zX := octAt_zero hn hu h1 kX pX
  have rX := okV_root kX
  obtain ⟨x1, x2, x3, x4, x5, x6, x7, x8⟩ := okI_nums (show okI X.two X.three X.five X.root = true from kX)
  have bt : -29 ≤ X.two ∧ X.two ≤ 29 := by
    have := quot_bd u (gcd4 u b c d) 29 (gcd4_pos u b c d h1) (by omega) (by omega)
    rw [hX]; exact this
  have W1 : WithinAt a b c d X.two X.three X.five X.root true := Or.inl ⟨n, n * d, u, hn, ⟨rfl, hu, by omega, by omega, by omega, by omega⟩, checkAt_yes (by omega) hX kX⟩
  have W2 : WithinAt X.two X.three X.five X.root X.two X.three X.five X.root true := Or.inl ⟨0, 0, X.two, zX, ⟨by omega, by omega, by omega, by omega, by omega, by omega⟩, checkAt_yes (by omega) sX.symm kX⟩
  obtain ⟨I, hI⟩ : ∃ I, I = simV ⟨X.root - X.two, -X.three, -X.five, X.root⟩ := ⟨_, rfl⟩
  have kI : okV I = true := by rw [hI]; exact simV_ok (show okI (X.root - X.two) (-X.three) (-X.five) X.root = true from okI_mk (by omega))
  have rI := okV_root kI
  obtain ⟨i1, i2, i3, i4, i5, i6, i7, i8⟩ := okI_nums (show okI I.two I.three I.five I.root = true from kI)
  obtain ⟨pJ, pS⟩ := inv_twice kX sX hI
  have V1 : InvAt X.two X.three X.five X.root I.two I.three I.five I.root true := Or.inl ⟨kX, checkAt_yes (by omega) hI kI⟩
  have V2 : InvAt I.two I.three I.five I.root X.two X.three X.five X.root true := Or.inl ⟨kI, checkAt_yes (by omega) (by rw [simV_eq (show 1 ≤ (⟨I.root - I.two, -I.three, -I.five, I.root⟩ : Iv).root from rI) rX pJ, sX]) kX⟩
  have A1 : addV X I = (⟨1, 0, 0, 1⟩, true) := by
    have e : simV (sumV X I) = ⟨1, 0, 0, 1⟩ := by rw [simV_eq (sumV_root rX rI) (by decide) pS]; exact simV_one 1 0 0
    unfold addV
    rw [e, if_pos ⟨kX, kI, by decide⟩]
  have kA : okV ⟨a, b, c, d⟩ = true := hx
  have kN : okV ⟨n, 0, 0, 1⟩ = true := show okI n 0 0 1 = true from okI_mk (by omega)
  have A2 : addV X ⟨n, 0, 0, 1⟩ = (simV ⟨a, b, c, d⟩, true) := by
    have e : simV (sumV X ⟨n, 0, 0, 1⟩) = simV ⟨a, b, c, d⟩ := simV_eq (sumV_root rX (by show (1 : Int) ≤ 1; omega)) h1 (oct_again hu pX)
    unfold addV
    rw [e, if_pos ⟨kX, kN, simV_ok kA⟩]
  have z1 : cmp8 X.two X.three X.five X.root 0 0 0 1 = sgnV X := cmpV_prime kX
  have z2 : 0 ≤ sgnV X := by
    have := (zX.2 0).2 (Int.le_refl _)
    rw [Int.zero_mul, Int.sub_zero] at this
    exact this
  have y1 : cmp8 X.two X.three X.five X.root 1 0 0 1 < 0 := by
    have e : cmpV X ⟨1, 0, 0, 1⟩ = sgnP (X.two - 1 * X.root) X.three X.five := by
      unfold cmpV
      rw [if_pos ⟨kX, by decide⟩]
      unfold difV sgnV
      simp only [Int.mul_one, Int.zero_mul, Int.sub_zero]
    have k := zX.2 1
    show cmpV X ⟨1, 0, 0, 1⟩ < 0
    rw [e]
    omega
  refine ⟨X.two, X.three, X.five, X.root, I.two, I.three, I.five, I.root, (simV ⟨a, b, c, d⟩).two, (simV ⟨a, b, c, d⟩).three, (simV ⟨a, b, c, d⟩).five, (simV ⟨a, b, c, d⟩).root, n, _, _, ⟨fun w => within_impl W1 w, fun w => within_impl W2 w, fun w => inv_impl V1 w, fun w => inv_impl V2 w, fun w => ?_, fun w => octaves_impl_yes hn w, fun w => ?_, fun w => ?_, fun w hs => sign_impl P _ _ _ _ w hs, fun w hs => compare_impl P _ _ _ _ _ _ _ _ w hs, fun w => simplest_impl_yes a b c d _ w rfl hx, fun w => ?_, by rw [z1]; exact z2, y1⟩⟩
  · have := add_total X I w
    rw [A1] at this
    exact this
  · have e : (n : Int) = (1 * n).tdiv (gcd4 (1 * n) (0 * n) (0 * n) 1) := by rw [gcd4_one, Int.tdiv_one, Int.one_mul]
    have e0 : (0 : Int) = (0 * n).tdiv (gcd4 (1 * n) (0 * n) (0 * n) 1) := by rw [gcd4_one, Int.tdiv_one, Int.zero_mul]
    have e1 : (1 : Int) = (1 : Int).tdiv (gcd4 (1 * n) (0 * n) (0 * n) 1) := by rw [gcd4_one, Int.tdiv_one]
    exact times_of 1 0 0 1 n n 0 0 1 (by decide) (by omega) (by omega) ⟨e, e0, e0, e1⟩ kN w
  · have := add_total X ⟨n, 0, 0, 1⟩ w
    rw [A2] at this
    exact this
  · have := pc_impl W1 W2 w
    simp only [beq_self_eq_true, Bool.and_self] at this
    exact this
end Go.Proofs.YtdnlebijmiaclabDoor
