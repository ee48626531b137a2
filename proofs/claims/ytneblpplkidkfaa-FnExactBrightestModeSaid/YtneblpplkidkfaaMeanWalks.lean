/- Meantone fifths as functions: the ninety fifths by one table (within one octave, the third, the wolf, the sums), decided by the kernel; what TimesInterval, MeanFifth, MeanTone and WolfOf answer, told without a look inside. -/
import Derived.Test.YtneblpplkidkfaaOctWalks
import Derived.Test.YtneblpplkidkfaaComSplit
import Derived.Test.YtneblpplkidkfaaSOctWalks
import Derived.Test.YtneblpplkidkfaaComWalks
namespace Go.Proofs.Ytneblpplkidkfaa
open Go.RowKit Go.Joins
set_option linter.unusedVariables false
/-- What TimesInterval answers. -/
def TmAt (a b c d n p q r s : Int) (y : Bool) : Prop :=
  (okI a b c d = true ∧ (-400 ≤ n ∧ n ≤ 400) ∧ CheckAt (a * n) (b * n) (c * n) d p q r s y) ∨
  ((okI a b c d = false ∨ (okI a b c d = true ∧ n < -400) ∨ (okI a b c d = true ∧ ¬ n < -400 ∧ 400 < n)) ∧ p = 0 ∧ q = 0 ∧ r = 0 ∧ s = 0 ∧ y = false)
theorem tmAt_ex (a b c d n : Int) : ∃ p q r s y, TmAt a b c d n p q r s y := by
  obtain ⟨x, hx⟩ : ∃ x : Bool, okI a b c d = x := ⟨_, rfl⟩
  cases x
  · exact ⟨0, 0, 0, 0, false, .inr ⟨.inl hx, rfl, rfl, rfl, rfl, rfl⟩⟩
  · by_cases h1 : n < -400
    · exact ⟨0, 0, 0, 0, false, .inr ⟨.inr (.inl ⟨hx, h1⟩), rfl, rfl, rfl, rfl, rfl⟩⟩
    · by_cases h2 : 400 < n
      · exact ⟨0, 0, 0, 0, false, .inr ⟨.inr (.inr ⟨hx, h1, h2⟩), rfl, rfl, rfl, rfl, rfl⟩⟩
      · obtain ⟨d1, d2, a1, a2, b1, b2, c1, c2⟩ := okI_nums hx
        have k1 := mul_bd a n 400 400 _ rfl (by omega) (by omega) (by omega) (by omega) (by omega) (by omega)
        have k2 := mul_bd b n 400 400 _ rfl (by omega) (by omega) (by omega) (by omega) (by omega) (by omega)
        have k3 := mul_bd c n 400 400 _ rfl (by omega) (by omega) (by omega) (by omega) (by omega) (by omega)
        obtain ⟨p, q, r, s, y, hc⟩ := checkAt_ex (a := a * n) (b := b * n) (c := c * n) (d := d) ⟨by omega, by omega, by omega, by omega, by omega, by omega, by omega, by omega⟩
        exact ⟨p, q, r, s, y, .inl ⟨hx, ⟨by omega, by omega⟩, hc⟩⟩
theorem zero_bad : okI 0 0 0 0 = false := by decide
/-- No times of the zero interval, and it is within no octave. -/
theorem tmAt_zero {n p q r s : Int} {y : Bool} (h : TmAt 0 0 0 0 n p q r s y) : p = 0 ∧ q = 0 ∧ r = 0 ∧ s = 0 ∧ y = false := by
  rcases h with ⟨hx, _⟩ | ⟨_, h⟩
  · rw [zero_bad] at hx; cases hx
  · exact h
theorem within_zero {p q r s : Int} {y : Bool} (h : WithinAt 0 0 0 0 p q r s y) : p = 0 ∧ q = 0 ∧ r = 0 ∧ s = 0 ∧ y = false := by
  rcases h with ⟨_, _, _, h, _⟩ | ⟨_, h⟩
  · have := h.1; rw [zero_bad] at this; cases this
  · exact h
theorem tmAt_no {a b c d n p q r s : Int} (h : TmAt a b c d n p q r s false) : p = 0 ∧ q = 0 ∧ r = 0 ∧ s = 0 := by
  rcases h with ⟨_, _, hc⟩ | ⟨_, h1, h2, h3, h4, _⟩
  · rcases hc.2 with ⟨h, _⟩ | ⟨_, _, h1, h2, h3, h4⟩
    · cases h
    · exact ⟨h1, h2, h3, h4⟩
  · exact ⟨h1, h2, h3, h4⟩
/-- The part num of den is one of the ninety. -/
def PartOk (num den : Int) : Prop := 1 ≤ den ∧ den ≤ 12 ∧ 0 ≤ num ∧ num ≤ den
/-- The fifth of a part of the comma. -/
def mfV (num den : Int) : Iv := simV ⟨4 * num - den, den - 4 * num, num, den⟩
def timV (x : Iv) (n : Int) : Iv := simV ⟨x.two * n, x.three * n, x.five * n, x.root⟩
def eqV (x y : Iv) : Bool := (x.two == y.two) && (x.three == y.three) && (x.five == y.five) && (x.root == y.root)
theorem eqV_eq {x y : Iv} (h : eqV x y = true) : x = y := by
  unfold eqV at h
  simp only [Bool.and_eq_true, beq_iff_eq] at h
  obtain ⟨⟨⟨h1, h2⟩, h3⟩, h4⟩ := h
  cases x; cases y
  simp only at h1 h2 h3 h4
  rw [h1, h2, h3, h4]
def octV : Iv := ⟨7, 0, 0, 1⟩
/-- The wolf. -/
def wolV (num den : Int) : Iv := (addV (timV (mfV num den) (-11)) octV).1
/-- Four fifths without two octaves. -/
def thiV (num den : Int) : Iv := simV ⟨(timV (mfV num den) 4).two - 2 * (timV (mfV num den) 4).root, (timV (mfV num den) 4).three, (timV (mfV num den) 4).five, (timV (mfV num den) 4).root⟩
def mfChk1 (i j : Nat) : Bool :=
  decide (-33 ≤ (mfV i j).two ∧ (mfV i j).two ≤ 33 ∧ -33 ≤ (mfV i j).three ∧ (mfV i j).three ≤ 33 ∧ -33 ≤ (mfV i j).five ∧ (mfV i j).five ≤ 33 ∧ 1 ≤ (mfV i j).root ∧ (mfV i j).root ≤ 12) &&
  decide (0 ≤ sgnP (mfV i j).two (mfV i j).three (mfV i j).five) && decide (sgnP ((mfV i j).two - (mfV i j).root) (mfV i j).three (mfV i j).five < 0) &&
  eqV (simV (mfV i j)) (mfV i j) && (eqV (mfV i j) ⟨-1, 1, 0, 1⟩ == (i == 0)) && (((mfV i j).five == 0) == (i == 0))
def mfChk2 (i j : Nat) : Bool :=
  decide (0 ≤ sgnP ((timV (mfV i j) 4).two - 2 * (timV (mfV i j) 4).root) (timV (mfV i j) 4).three (timV (mfV i j) 4).five) && decide (sgnP ((timV (mfV i j) 4).two - 3 * (timV (mfV i j) 4).root) (timV (mfV i j) 4).three (timV (mfV i j) 4).five < 0) &&
  okV (thiV i j) && (eqV (thiV i j) ⟨-2, 0, 1, 1⟩ == decide (4 * (i : Int) = (j : Int)))
def mfChk3 (i j : Nat) : Bool :=
  (addV (timV (mfV i j) (-11)) octV).2 && (addV octV (timV (timV (mfV i j) 11) (-1))).2 && eqV (addV octV (timV (timV (mfV i j) 11) (-1))).1 (wolV i j) &&
  (addV (timV (mfV i j) 11) (wolV i j)).2 && eqV (addV (timV (mfV i j) 11) (wolV i j)).1 octV
theorem mf_chk1 : ∀ j, j < 13 → ∀ i, i < 13 → (1 ≤ j ∧ i ≤ j) → mfChk1 i j = true := by decide +kernel
theorem mf_chk2 : ∀ j, j < 13 → ∀ i, i < 13 → (1 ≤ j ∧ i ≤ j) → mfChk2 i j = true := by decide +kernel
theorem mf_chk3 : ∀ j, j < 13 → ∀ i, i < 13 → (1 ≤ j ∧ i ≤ j) → mfChk3 i j = true := by decide +kernel
theorem part_nat {num den : Int} (h : PartOk num den) : ∃ i j : Nat, num = (i : Int) ∧ den = (j : Int) ∧ j < 13 ∧ i < 13 ∧ (1 ≤ j ∧ i ≤ j) := by
  obtain ⟨h1, h2, h3, h4⟩ := h
  exact ⟨num.toNat, den.toNat, by omega, by omega, by omega, by omega, by omega, by omega⟩
theorem mf_bd {num den : Int} (h : PartOk num den) : -33 ≤ (mfV num den).two ∧ (mfV num den).two ≤ 33 ∧ -33 ≤ (mfV num den).three ∧ (mfV num den).three ≤ 33 ∧ -33 ≤ (mfV num den).five ∧ (mfV num den).five ≤ 33 ∧ 1 ≤ (mfV num den).root ∧ (mfV num den).root ≤ 12 := by
  obtain ⟨i, j, rfl, rfl, hj, hi, hij⟩ := part_nat h
  have k := mf_chk1 j hj i hi hij
  unfold mfChk1 at k
  simp only [Bool.and_eq_true] at k
  exact of_decide_eq_true k.1.1.1.1.1
theorem octAt_of {a b c d n : Int} (hx : okI a b c d = true) (h1 : 0 ≤ sgnP (a - n * d) b c) (h2 : sgnP (a - (n + 1) * d) b c < 0) : OctAt a b c d n := by
  obtain ⟨d1, _⟩ := okI_nums hx
  refine ⟨hx, fun k => ⟨fun hk => ?_, fun hk => ?_⟩⟩
  · rcases (show k ≤ n ∨ n + 1 ≤ k from by omega) with q | q
    · exact q
    · have := sgnP_mono (show a - k * d ≤ a - (n + 1) * d from by have := mul_mono q d1; omega) hk
      omega
  · exact sgnP_mono (show a - n * d ≤ a - k * d from by have := mul_mono hk d1; omega) h1
theorem sim_check {X Y : Iv} (hX : -1000000 ≤ X.two ∧ X.two ≤ 1000000 ∧ -1000000 ≤ X.three ∧ X.three ≤ 1000000 ∧ -1000000 ≤ X.five ∧ X.five ≤ 1000000 ∧ 1 ≤ X.root ∧ X.root ≤ 1000000) (e : simV X = Y) (hY : okV Y = true) : CheckAt X.two X.three X.five X.root Y.two Y.three Y.five Y.root true := by
  subst e
  exact ⟨hX, .inl ⟨rfl, hY, rfl, rfl, rfl, rfl⟩⟩
theorem mf_ok {num den : Int} (h : PartOk num den) : okV (mfV num den) = true := by
  have k := mf_bd h
  exact okI_mk (by omega)
/-- The fifth is within one octave. -/
theorem mf_within {num den : Int} (h : PartOk num den) : WithinAt (mfV num den).two (mfV num den).three (mfV num den).five (mfV num den).root (mfV num den).two (mfV num den).three (mfV num den).five (mfV num den).root true := by
  have bd := mf_bd h
  have ok := mf_ok h
  obtain ⟨i, j, rfl, rfl, hj, hi, hij⟩ := part_nat h
  have k := mf_chk1 j hj i hi hij
  unfold mfChk1 at k
  simp only [Bool.and_eq_true, decide_eq_true_eq] at k
  obtain ⟨⟨⟨⟨⟨_, k1⟩, k2⟩, k3⟩, _⟩, _⟩ := k
  refine .inl ⟨0, 0, (mfV i j).two, octAt_of ok (by rw [Int.zero_mul, Int.sub_zero]; exact k1) (by rw [Int.zero_add, Int.one_mul]; exact k2), ⟨by rw [Int.zero_mul], by rw [Int.sub_zero], by omega, by omega, by omega, by omega⟩, ?_⟩
  exact sim_check (X := mfV i j) (Y := mfV i j) (by omega) (eqV_eq k3) ok
theorem mf_pure {num den : Int} (h : PartOk num den) : eqV (mfV num den) ⟨-1, 1, 0, 1⟩ = decide (num = 0) ∧ ((mfV num den).five = 0 ↔ num = 0) := by
  obtain ⟨i, j, rfl, rfl, hj, hi, hij⟩ := part_nat h
  have k := mf_chk1 j hj i hi hij
  unfold mfChk1 at k
  simp only [Bool.and_eq_true, beq_iff_eq] at k
  obtain ⟨⟨_, k1⟩, k2⟩ := k
  have e : (i == 0) = decide ((i : Int) = 0) := by
    by_cases q : i = 0
    · subst q; rfl
    · have q' : ¬ (i : Int) = 0 := by omega
      rw [decide_eq_false q']; simpa using q
  refine ⟨k1.trans e, ?_⟩
  rw [← beq_iff_eq (a := (mfV i j).five), k2]
  simp
theorem tm_bd {x n : Int} (h1 : -33 ≤ x ∧ x ≤ 33) (h2 : -12 ≤ n ∧ n ≤ 12) : -396 ≤ x * n ∧ x * n ≤ 396 :=
  mul_bd x n 33 12 _ rfl (by omega) (by omega) (by omega) (by omega) (by omega) (by omega)
/-- Up to twelve fifths are a valid interval. -/
theorem mf_times {num den n : Int} (h : PartOk num den) (hn : -12 ≤ n ∧ n ≤ 12) : okV (timV (mfV num den) n) = true ∧ TmAt (mfV num den).two (mfV num den).three (mfV num den).five (mfV num den).root n (timV (mfV num den) n).two (timV (mfV num den) n).three (timV (mfV num den) n).five (timV (mfV num den) n).root true := by
  have bd := mf_bd h
  have b1 := tm_bd ⟨bd.1, bd.2.1⟩ hn
  have b2 := tm_bd ⟨bd.2.2.1, bd.2.2.2.1⟩ hn
  have b3 := tm_bd ⟨bd.2.2.2.2.1, bd.2.2.2.2.2.1⟩ hn
  have ok := mf_ok h
  have hk : okV (timV (mfV num den) n) = true := simV_ok (show okI ((mfV num den).two * n) ((mfV num den).three * n) ((mfV num den).five * n) (mfV num den).root = true from okI_mk (by omega))
  refine ⟨hk, .inl ⟨ok, by omega, ?_⟩⟩
  exact sim_check (X := ⟨(mfV num den).two * n, (mfV num den).three * n, (mfV num den).five * n, (mfV num den).root⟩) (by show _ ∧ _; simp only; omega) rfl hk
/-- The third: four fifths, two octaves down; it is pure just for a quarter. -/
theorem mf_third {num den : Int} (h : PartOk num den) : WithinAt (timV (mfV num den) 4).two (timV (mfV num den) 4).three (timV (mfV num den) 4).five (timV (mfV num den) 4).root (thiV num den).two (thiV num den).three (thiV num den).five (thiV num den).root true ∧ eqV (thiV num den) ⟨-2, 0, 1, 1⟩ = decide (4 * num = den) := by
  have ok := (mf_times h (n := 4) (by omega)).1
  obtain ⟨i, j, rfl, rfl, hj, hi, hij⟩ := part_nat h
  have k := mf_chk2 j hj i hi hij
  unfold mfChk2 at k
  simp only [Bool.and_eq_true, decide_eq_true_eq, beq_iff_eq] at k
  obtain ⟨⟨⟨k1, k2⟩, k3⟩, k4⟩ := k
  have bd := okI_nums (show okI (timV (mfV i j) 4).two (timV (mfV i j) 4).three (timV (mfV i j) 4).five (timV (mfV i j) 4).root = true from ok)
  refine ⟨.inl ⟨2, 2 * (timV (mfV i j) 4).root, (timV (mfV i j) 4).two - 2 * (timV (mfV i j) 4).root, octAt_of ok k1 k2, ⟨rfl, rfl, by omega, by omega, by omega, by omega⟩, ?_⟩, k4⟩
  exact sim_check (X := ⟨(timV (mfV i j) 4).two - 2 * (timV (mfV i j) 4).root, (timV (mfV i j) 4).three, (timV (mfV i j) 4).five, (timV (mfV i j) 4).root⟩) (by simp only; omega) rfl k3
/-- The wolf, both ways, and eleven fifths with it are seven octaves. -/
theorem mf_wolf {num den : Int} (h : PartOk num den) : addV (timV (mfV num den) (-11)) octV = (wolV num den, true) ∧ diffV (timV (mfV num den) 11) octV = (wolV num den, true) ∧ addV (timV (mfV num den) 11) (wolV num den) = (octV, true) := by
  have ok := (mf_times h (n := 11) (by omega)).1
  obtain ⟨i, j, rfl, rfl, hj, hi, hij⟩ := part_nat h
  have k := mf_chk3 j hj i hi hij
  unfold mfChk3 at k
  simp only [Bool.and_eq_true] at k
  obtain ⟨⟨⟨⟨k1, k2⟩, k3⟩, k4⟩, k5⟩ := k
  refine ⟨Prod.ext rfl k1, ?_, Prod.ext (eqV_eq k5) k4⟩
  unfold diffV
  rw [if_pos ok]
  exact Prod.ext (eqV_eq k3) k2
end Go.Proofs.Ytneblpplkidkfaa
/- Contracts of MeanFifth, both sides, and of impl's tuning: a function value that holds a fifth in a block. -/
namespace Go.Proofs.Ytneblpplkidkfaa
open Go.RowKit Go.Joins
set_option linter.unusedVariables false
theorem four_last {w : World} {m : Nat} {p q r s s' : Int} (h : Four m p q r s w) : Four m p q r s' (w.setCell ⟨m, 3, none⟩ (.int .i64 s')) := by
  obtain ⟨k, k0, k1, k2, k3⟩ := h
  exact ⟨by simpa using k, by simp [go_sem, k0], by simp [go_sem, k1], by simp [go_sem, k2], by simp [go_sem, k3]⟩
theorem zero4_oth {w : World} {n m j : Nat} {v : Value} (hn : n ≠ m) (h : Zero4 m w) : Zero4 m (w.setCell ⟨n, j, none⟩ v) := by
  obtain ⟨⟨k, k0, k1, k2, k3⟩, hf⟩ := h
  exact ⟨⟨by simpa using k, by simp [go_sem, k0], by simp [go_sem, k1], by simp [go_sem, k2], by simp [go_sem, k3]⟩, fun o => by simp [go_sem, hf]⟩
/-- What MeanFifth answers. -/
def MfAt (num den p q r s : Int) (y : Bool) : Prop :=
  (PartOk num den ∧ p = (mfV num den).two ∧ q = (mfV num den).three ∧ r = (mfV num den).five ∧ s = (mfV num den).root ∧ y = true) ∨
  ((den < 1 ∨ (¬ den < 1 ∧ 12 < den) ∨ (¬ den < 1 ∧ ¬ 12 < den ∧ num < 0) ∨ (¬ den < 1 ∧ ¬ 12 < den ∧ ¬ num < 0 ∧ den < num)) ∧ p = 0 ∧ q = 0 ∧ r = 0 ∧ s = 0 ∧ y = false)
theorem mfAt_ex (num den : Int) : ∃ p q r s y, MfAt num den p q r s y := by
  by_cases h : PartOk num den
  · exact ⟨_, _, _, _, _, .inl ⟨h, rfl, rfl, rfl, rfl, rfl⟩⟩
  · refine ⟨_, _, _, _, _, .inr ⟨?_, rfl, rfl, rfl, rfl, rfl⟩⟩
    unfold PartOk at h
    omega
theorem mf_check {num den : Int} (h : PartOk num den) : CheckAt (4 * num - den) (den - 4 * num) num den (mfV num den).two (mfV num den).three (mfV num den).five (mfV num den).root true := by
  have ok := mf_ok h
  obtain ⟨h1, h2, h3, h4⟩ := h
  exact sim_check (X := ⟨4 * num - den, den - 4 * num, num, den⟩) (by simp only; omega) rfl ok
end Go.Proofs.Ytneblpplkidkfaa
/- Contract of impl.pureThird. -/
namespace Go.Proofs.Ytneblpplkidkfaa
open Go.RowKit Go.Joins
set_option linter.unusedVariables false
end Go.Proofs.Ytneblpplkidkfaa
