/- The drawn maps are few: what SharedBy answers of two of them is small; what laws.FnShared calls. -/
import Derived.Test.YtfhefakacjkmiaaDoorDrawMaps
import Derived.Test.YtfhefakacjkmiaaDoorShare
import Derived.Test.YtfhefakacjkmiaaDoorHidesLaw
import Derived.Test.YtfhefakacjkmiaaDoorMapsSay
namespace Go.Proofs.YtfhefakacjkmiaaDoor
open Go.RowKit Go.Joins
set_option linter.unusedVariables false
/-- The best maps of the divisions into 1 to 24. -/
def bestTs : List (Int × Int) := [(2, 2), (3, 5), (5, 7), (6, 9), (8, 12), (10, 14), (11, 16), (13, 19), (14, 21), (16, 23), (17, 26), (19, 28), (21, 30), (22, 33), (24, 35), (25, 37), (27, 39), (29, 42), (30, 44), (32, 46), (33, 49), (35, 51), (36, 53), (38, 56)]
def bestT (i : Nat) : Int × Int := bestTs.getD i (0, 0)
def nearB (h f k : Int) : Bool := decide (¬ 0 < sgnP (-(2 * k + 1)) h f) && decide (0 < sgnP (-(2 * (k - 1) + 1)) h f)
theorem nearB_is {h f k K : Int} (hK : NearAt h f K) (hb : nearB h f k = true) : K = k := by
  unfold nearB at hb
  simp only [Bool.and_eq_true, decide_eq_true_eq] at hb
  have h1 := (near_up hK k).2 hb.1
  have h2 := (near_up hK (k - 1)).1 hb.2
  omega
def bestChk (i : Nat) : Bool := nearB (2 * ((i : Int) + 1)) 0 (bestT i).1 && nearB 0 (2 * ((i : Int) + 1)) (bestT i).2
theorem best_chk : ∀ i, i < 24 → bestChk i = true := by decide +kernel
/-- A drawn map, by its place. -/
theorem mi_place {a b c : Int} (h : MI a b c) : ∃ i j : Nat, i < 24 ∧ j < 3 ∧ a = (i : Int) + 1 ∧ b = (bestT i).1 ∧ c = (bestT i).2 + (j : Int) := by
  obtain ⟨a1, a2, _, _, _, _, k, hk, k1, k2⟩ := h
  have ha : a = ((a - 1).toNat : Int) + 1 := by omega
  have hi := best_chk (a - 1).toNat (by omega)
  unfold bestChk at hi
  rw [← ha] at hi
  simp only [Bool.and_eq_true] at hi
  rcases hk with ⟨_, _, ⟨_, h1⟩, _, h2⟩ | ⟨h0, _⟩
  · have e1 := nearB_is h1 hi.1
    have e2 := nearB_is h2 hi.2
    exact ⟨(a - 1).toNat, (c - k).toNat, by omega, by omega, ha, e1, by omega⟩
  · exact absurd ⟨a1, by omega⟩ (of_decide_eq_false h0)
def smallB (a b c e f g : Int) : Bool := decide (-200 ≤ b * g - c * f ∧ b * g - c * f ≤ 200) && decide (-200 ≤ c * e - a * g ∧ c * e - a * g ≤ 200) && decide (-200 ≤ a * f - b * e ∧ a * f - b * e ≤ 200)
theorem small_chk : ∀ i : Nat, i < 24 → ∀ j : Nat, j < 3 → ∀ i' : Nat, i' < 24 → ∀ j' : Nat, j' < 3 → smallB ((i : Int) + 1) (bestT i).1 ((bestT i).2 + (j : Int)) ((i' : Int) + 1) (bestT i').1 ((bestT i').2 + (j' : Int)) = true := by decide +kernel
theorem mi_small {a b c e f g : Int} (h : MI a b c) (k : MI e f g) : (-200 ≤ b * g - c * f ∧ b * g - c * f ≤ 200) ∧ (-200 ≤ c * e - a * g ∧ c * e - a * g ≤ 200) ∧ (-200 ≤ a * f - b * e ∧ a * f - b * e ≤ 200) := by
  obtain ⟨i, j, hi, hj, e1, e2, e3⟩ := mi_place h
  obtain ⟨i', j', hi', hj', e4, e5, e6⟩ := mi_place k
  have hs := small_chk i hi j hj i' hi' j' hj'
  rw [← e1, ← e2, ← e3, ← e4, ← e5, ← e6] at hs
  unfold smallB at hs
  simp only [Bool.and_eq_true, decide_eq_true_eq] at hs
  exact ⟨hs.1.1, hs.1.2, hs.2⟩
theorem cross_zero (a b c e f g : Int) : a * (b * g - c * f) + b * (c * e - a * g) + c * (a * f - b * e) = 0 ∧ e * (b * g - c * f) + f * (c * e - a * g) + g * (a * f - b * e) = 0 := by
  constructor <;> grind
/-- What the law's calls answer where there is a shared interval. -/
structure ShdSay (A : Addr) (a b c e f g T H F p q r T2 H2 F2 s : Int) (y : Bool) : Prop where
  add : ∀ w, Calls Tryd.prog 11 #[mapV a b c, mapV e f g] w fun e w' => e = .returned (.tuple #[mapV p q r, .bool y]) ∧ Below w.heap.size w w'
  tim : ∀ w, Calls Tryd.prog 12 #[ivV T H F 1, .int .i64 2] w fun e w' => e = .returned (.tuple #[ivV T2 H2 F2 1, .bool true]) ∧ Below w.heap.size w w'
  h1 : ∀ w, Calls Tryd.prog 13 #[mapV a b c, ivV T H F 1] w fun e w' => e = .returned (.bool true) ∧ Below w.heap.size w w'
  h2 : ∀ w, Calls Tryd.prog 13 #[mapV e f g, ivV T H F 1] w fun e w' => e = .returned (.bool true) ∧ Below w.heap.size w w'
  h3 : y = true → ∀ w, Calls Tryd.prog 13 #[mapV p q r, ivV T H F 1] w fun e w' => e = .returned (.bool true) ∧ Below w.heap.size w w'
  h4 : ∀ w, Calls Tryd.prog 13 #[mapV a b c, ivV T2 H2 F2 1] w fun e w' => e = .returned (.bool true) ∧ Below w.heap.size w w'
  sg : ∀ w, SenAt A w → Calls Tryd.prog 14 #[ivV T H F 1] w fun e w' => e = .returned (.int .i64 s) ∧ Below w.heap.size w w'
  s0 : 0 ≤ s
theorem hides_yes {a b c t h f : Int} (hm : okM a b c = true) (hi : okI t h f 1 = true) (hz : a * t + b * h + c * f = 0) (w : World) : Calls Tryd.prog 13 #[mapV a b c, ivV t h f 1] w fun e w' => e = .returned (.bool true) ∧ Below w.heap.size w w' :=
  hides_impl ⟨_, _, stepsAt_yes hm hi, by rw [hz]; rfl⟩ w
theorem mul_zero_of {d v : Int} (hd : 1 ≤ d) (h : d * v = 0) : v = 0 := by
  rcases Int.mul_eq_zero.1 h with h | h
  · omega
  · exact h
theorem quot_zero {a b c x y z t h f d : Int} (hd : 1 ≤ d) (hx : d * t = x) (hy : d * h = y) (hz : d * f = z) (h0 : a * x + b * y + c * z = 0) : a * t + b * h + c * f = 0 := by
  refine mul_zero_of hd ?_
  subst hx hy hz
  rw [← h0]
  grind
theorem zero_times {a b c t h f s : Int} (h0 : a * t + b * h + c * f = 0) : a * (t * s) + b * (h * s) + c * (f * s) = 0 := by
  have e : a * (t * s) + b * (h * s) + c * (f * s) = (a * t + b * h + c * f) * s := by grind
  rw [e, h0, Int.zero_mul]
theorem zero_sum {a b c e f g t h k : Int} (h1 : a * t + b * h + c * k = 0) (h2 : e * t + f * h + g * k = 0) : (a + e) * t + (b + f) * h + (c + g) * k = 0 := by
  have e : (a + e) * t + (b + f) * h + (c + g) * k = (a * t + b * h + c * k) + (e * t + f * h + g * k) := by grind
  rw [e, h1, h2]
  rfl
theorem shdSay_ex (A : Addr) {a b c e f g T H F R : Int} (hm : MI a b c) (hn : MI e f g) (hh : ShareAt a b c e f g T H F R true) : R = 1 ∧ ∃ p q r T2 H2 F2 s y, ShdSay A a b c e f g T H F p q r T2 H2 F2 s y := by
  obtain ⟨S1, S2, S3⟩ := mi_small hm hn
  rcases hh with ⟨hu, hv, x1, x2, y1, y2, z1, z2, x, y, z, hc, d, hp, he⟩ | ⟨_, _, _, _, _, h⟩ | ⟨_, _, _, _, _, _, h⟩
  · rcases he with ⟨_, _, _, _, _, h⟩ | ⟨hd, t, h, k, e1, e2, e3, _, ⟨_, _, _, _, _, h⟩ | ⟨hk, s, hs, h1, rfl, rfl, rfl, rfl, _⟩⟩
    · cases h
    · cases h
    · refine ⟨rfl, ?_⟩
      rw [hc.h1, hc.h2, hc.hx] at S1
      rw [hc.h3, hc.h4, hc.hy] at S2
      rw [hc.h5, hc.h6, hc.hz] at S3
      have b1 := tdiv_bdS hd S1.1 S1.2
      have b2 := tdiv_bdS hd S2.1 S2.2
      have b3 := tdiv_bdS hd S3.1 S3.2
      rw [e1] at b1
      rw [e2] at b2
      rw [e3] at b3
      have g1 := gcdI_dvd (gcdI x y) z
      have g2 := gcdI_dvd x y
      rw [← hp.2] at g1
      have q1 : d * t = x := by rw [← e1]; exact Int.mul_tdiv_cancel' (Int.dvd_trans g1.1 g2.1)
      have q2 : d * h = y := by rw [← e2]; exact Int.mul_tdiv_cancel' (Int.dvd_trans g1.1 g2.2)
      have q3 : d * k = z := by rw [← e3]; exact Int.mul_tdiv_cancel' g1.2
      obtain ⟨cz1, cz2⟩ := cross_zero a b c e f g
      rw [hc.h1, hc.h2, hc.h3, hc.h4, hc.h5, hc.h6, hc.hx, hc.hy, hc.hz] at cz1 cz2
      have r1 := zero_times (s := s) (quot_zero hd q1 q2 q3 cz1)
      have r2 := zero_times (s := s) (quot_zero hd q1 q2 q3 cz2)
      have ok := okI_neg h1 hk
      have tb : (-200 ≤ t * s ∧ t * s ≤ 200) ∧ (-200 ≤ h * s ∧ h * s ≤ 200) ∧ (-200 ≤ k * s ∧ k * s ≤ 200) := by
        rcases h1 with rfl | rfl <;> omega
      have ok2 : okI (t * s * 2) (h * s * 2) (k * s * 2) 1 = true := okI_mk (by omega)
      obtain ⟨p, q, r, yy, hsum⟩ := mapSumAt_ex a b c e f g
      refine ⟨p, q, r, t * s * 2, h * s * 2, k * s * 2, _, yy, fun w => sum_impl hsum w, fun w => times_of _ _ _ 1 2 _ _ _ _ ok (by omega) (by omega) (simOf_oneS _ _ _) ok2 w, fun w => hides_yes (mi_ok hm) ok r1 w, fun w => hides_yes (mi_ok hn) ok r2 w, fun hy w => ?_, fun w => hides_yes (mi_ok hm) ok2 (zero_times r1) w, fun w hs => sign_impl A _ _ _ _ w hs, ?_⟩
      · rcases hsum with ⟨_, _, hpq, rfl, rfl, rfl, _⟩ | ⟨_, _, _, _, h9⟩ | ⟨_, _, _, _, _, h9⟩ | ⟨_, _, _, _, _, _, h9⟩
        · exact hides_yes hpq ok (zero_sum r1 r2) w
        · rw [hy] at h9; cases h9
        · rw [hy] at h9; cases h9
        · rw [hy] at h9; cases h9
      · have c1 : cmp8 (t * s) (h * s) (k * s) 1 0 0 0 1 = sgnP (t * s) (h * s) (k * s) := cmpV_prime (x := ⟨_, _, _, 1⟩) ok
        have c2 : s = sgnP t h k := hs.trans (cmpV_prime (x := ⟨t, h, k, 1⟩) hk)
        rw [c1]
        rcases h1 with rfl | rfl
        · rw [Int.mul_one, Int.mul_one, Int.mul_one, ← c2]; decide
        · rw [Int.mul_neg, Int.mul_neg, Int.mul_neg, Int.mul_one, Int.mul_one, Int.mul_one, sgnP_neg, ← c2]; decide
  · cases h
  · cases h
end Go.Proofs.YtfhefakacjkmiaaDoor
