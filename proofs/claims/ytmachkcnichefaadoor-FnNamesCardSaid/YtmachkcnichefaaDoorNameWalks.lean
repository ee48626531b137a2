/- Contracts of hasName, LetterOf, AccidentalOf, StepsUp and AreEnharmonic of both packages, over total value functions. -/
import Derived.Test.YtmachkcnichefaaDoorToneWalks
import Derived.Deep.DeepCutAuto
namespace Go.Proofs.YtmachkcnichefaaDoor
open Go.RowKit
set_option linter.unusedVariables false
/-- A note with a name. -/
def HasN (n : Int) : Prop := -15 ≤ n ∧ n ≤ 19
instance (n : Int) : Decidable (HasN n) := by unfold HasN; infer_instance
/-- LetterOf. -/
def letN (n : Int) : Int := if HasN n then (3 + (n + 15) * 4) % 7 else -1
/-- AccidentalOf. -/
def accN (n : Int) : Int := if HasN n then (n + 15) / 7 - 2 else 0
/-- StepsUp. -/
def upN (a b : Int) : Int := if HasN a ∧ HasN b then (letN b - letN a + 7) % 7 else -1
/-- AreEnharmonic. -/
def enhN (a b : Int) : Bool := decide (HasN a ∧ HasN b ∧ (a - b) % 12 = 0)
theorem letN_yes {n : Int} (h : HasN n) : letN n = (3 + (n + 15) * 4) % 7 := if_pos h
theorem letN_no {n : Int} (h : ¬ HasN n) : letN n = -1 := if_neg h
theorem accN_yes {n : Int} (h : HasN n) : accN n = (n + 15) / 7 - 2 := if_pos h
theorem accN_no {n : Int} (h : ¬ HasN n) : accN n = 0 := if_neg h
theorem hasN_yes {n : Int} (h : HasN n) : decide (HasN n) = true := decide_eq_true h
theorem hasN_no {n : Int} (h : ¬ HasN n) : decide (HasN n) = false := decide_eq_false h
theorem letN_alt {n : Int} (h : HasN n) : letN n = (wrap64 ((n * 4).tmod 7 + 7)).tmod 7 := by
  obtain ⟨k, hk, rfl⟩ : ∃ k : Nat, k < 35 ∧ n = (k : Int) - 15 := ⟨(n + 15).toNat, by have := h.1; have := h.2; omega, by have := h.1; omega⟩
  rw [letN_yes h]
  clear h
  revert k
  decide +kernel
theorem upN_yes {a b : Int} (h : HasN a) (h' : HasN b) : upN a b = (letN b - letN a + 7) % 7 := if_pos ⟨h, h'⟩
theorem upN_no {a b : Int} (h : ¬ (HasN a ∧ HasN b)) : upN a b = -1 := if_neg h
theorem enhN_yes {a b : Int} (h : HasN a) (h' : HasN b) : enhN a b = decide ((a - b) % 12 = 0) := by unfold enhN; simp [h, h']
theorem enhN_no {a b : Int} (h : ¬ (HasN a ∧ HasN b)) : enhN a b = false := decide_eq_false (fun k => h ⟨k.1, k.2.1⟩)
theorem mod12 (x : Int) : (x.tmod 12 = 0) ↔ (x % 12 = 0) := by
  rw [← Int.dvd_iff_tmod_eq_zero, ← Int.dvd_iff_emod_eq_zero]
theorem letN_bd {n : Int} (h : HasN n) : 0 ≤ letN n ∧ letN n ≤ 6 := by unfold letN; rw [if_pos h]; omega
theorem hasName_impl (n : Int) (w : World) : Calls Tryd.prog 16 #[.int .i64 n] w fun e w' => e = .returned (.bool (decide (HasN n))) ∧ w = w' := by
  by_cases h1 : -15 ≤ n
  · by_cases h2 : n ≤ 19
    · have R := Lib.hid (And.intro h1 h2)
      go_enter Tryd.func16, Tryd.ntmps16
      go_wp2
      go_ret
      exact ⟨ret_boolT (hasN_yes R.out).symm, rfl⟩
    · have R := Lib.hid h2
      go_enter Tryd.func16, Tryd.ntmps16
      go_wp2
      go_ret
      exact ⟨ret_boolT (hasN_no (fun h => by have := R.out; have := h.2; omega)).symm, rfl⟩
  · have R := Lib.hid h1
    go_enter Tryd.func16, Tryd.ntmps16
    go_wp2
    go_ret
    exact ⟨ret_boolT (hasN_no (fun h => by have := R.out; have := h.1; omega)).symm, rfl⟩
theorem in15_spec (n : Int) (w : World) : Calls Tryd.prog 27 #[.int .i64 n, .int .i64 (-15), .int .i64 19] w fun e w' => e = .returned (.bool (decide (HasN n))) ∧ w = w' :=
  (inT_any n (-15) 19 w).mono fun e w' ⟨he, hw⟩ => ⟨by rw [he]; exact ret_boolT (by unfold HasN; rfl), hw⟩
theorem has_spec (n : Int) (w : World) : Calls Tryd.prog 18 #[.int .i64 n] w fun e w' => e = .returned (.bool (decide (HasN n))) ∧ w = w' := by
  go_enter Tryd.func18, Tryd.ntmps18
  go_wp2_with fail
  refine (in15_spec _ _).mono ?_
  rintro e w1 ⟨rfl, rfl⟩
  go_wp2_with fail
  go_ret
  exact ⟨rfl, rfl⟩
set_option maxHeartbeats 1000000 in
theorem letter_impl (n : Int) (w : World) : Calls Tryd.prog 10 #[.int .i64 n] w fun e w' => e = .returned (.int .i64 (letN n)) ∧ w = w' := by
  by_cases h : HasN n
  · have D := Lib.hid (hasN_yes h)
    have L := Lib.hid (letN_yes h)
    obtain ⟨h1, h2⟩ := h
    go_enter Tryd.func10, Tryd.ntmps10
    go_wp2_with fail
    refine (hasName_impl _ _).mono ?_
    rintro e w1 ⟨rfl, rfl⟩
    rw [D.out]
    go_wp2_with fail
    go_ret
    exact ⟨ret_int (by rw [L.out]), rfl⟩
  · have D := Lib.hid (hasN_no h)
    have L := Lib.hid (letN_no h)
    go_enter Tryd.func10, Tryd.ntmps10
    go_wp2_with fail
    refine (hasName_impl _ _).mono ?_
    rintro e w1 ⟨rfl, rfl⟩
    rw [D.out]
    go_wp2_with fail
    go_ret
    exact ⟨ret_int (by rw [L.out]), rfl⟩
set_option maxHeartbeats 1000000 in
theorem letter_spec (n : Int) (w : World) : Calls Tryd.prog 19 #[.int .i64 n] w fun e w' => e = .returned (.int .i64 (letN n)) ∧ w = w' := by
  by_cases h : HasN n
  · have D := Lib.hid (hasN_yes h)
    have L := Lib.hid (letN_alt h)
    obtain ⟨h1, h2⟩ := h
    go_enter Tryd.func19, Tryd.ntmps19
    go_wp2_with fail
    refine (has_spec _ _).mono ?_
    rintro e w1 ⟨rfl, rfl⟩
    rw [D.out]
    go_wp2_with fail
    go_ret
    exact ⟨ret_int L.out.symm, rfl⟩
  · have D := Lib.hid (hasN_no h)
    have L := Lib.hid (letN_no h)
    go_enter Tryd.func19, Tryd.ntmps19
    go_wp2_with fail
    refine (has_spec _ _).mono ?_
    rintro e w1 ⟨rfl, rfl⟩
    rw [D.out]
    go_wp2_with fail
    go_ret
    exact ⟨ret_int (by rw [L.out]), rfl⟩
set_option maxHeartbeats 1000000 in
theorem acc_impl (n : Int) (w : World) : Calls Tryd.prog 11 #[.int .i64 n] w fun e w' => e = .returned (.int .i64 (accN n)) ∧ w = w' := by
  by_cases h : HasN n
  · have D := Lib.hid (hasN_yes h)
    have L := Lib.hid (accN_yes h)
    obtain ⟨h1, h2⟩ := h
    go_enter Tryd.func11, Tryd.ntmps11
    go_wp2_with fail
    refine (hasName_impl _ _).mono ?_
    rintro e w1 ⟨rfl, rfl⟩
    rw [D.out]
    go_wp2_with fail
    go_ret
    exact ⟨ret_int (by rw [L.out]; omega), rfl⟩
  · have D := Lib.hid (hasN_no h)
    have L := Lib.hid (accN_no h)
    go_enter Tryd.func11, Tryd.ntmps11
    go_wp2_with fail
    refine (hasName_impl _ _).mono ?_
    rintro e w1 ⟨rfl, rfl⟩
    rw [D.out]
    go_wp2_with fail
    go_ret
    exact ⟨ret_int (by rw [L.out]), rfl⟩
set_option maxHeartbeats 1000000 in
theorem acc_spec (n : Int) (w : World) : Calls Tryd.prog 20 #[.int .i64 n] w fun e w' => e = .returned (.int .i64 (accN n)) ∧ w = w' := by
  by_cases h : HasN n
  · have D := Lib.hid (hasN_yes h)
    have L := Lib.hid (accN_yes h)
    obtain ⟨h1, h2⟩ := h
    go_enter Tryd.func20, Tryd.ntmps20
    go_wp2_with fail
    refine (has_spec _ _).mono ?_
    rintro e w1 ⟨rfl, rfl⟩
    rw [D.out]
    go_wp2_with fail
    go_ret
    exact ⟨ret_int (by rw [L.out]; omega), rfl⟩
  · have D := Lib.hid (hasN_no h)
    have L := Lib.hid (accN_no h)
    go_enter Tryd.func20, Tryd.ntmps20
    go_wp2_with fail
    refine (has_spec _ _).mono ?_
    rintro e w1 ⟨rfl, rfl⟩
    rw [D.out]
    go_wp2_with fail
    go_ret
    exact ⟨ret_int (by rw [L.out]), rfl⟩
/-- What hasName answers, told without a look inside. -/
def HasAt (n : Int) (b : Bool) : Prop := b = decide (HasN n)
/-- What LetterOf answers, told without a look inside. -/
def LetAt (n x : Int) : Prop := x = letN n
theorem hasName_impl_at {n : Int} {b : Bool} (h : HasAt n b) (w : World) : Calls Tryd.prog 16 #[.int .i64 n] w fun e w' => e = .returned (.bool b) ∧ w = w' := by
  rw [show b = decide (HasN n) from h]; exact hasName_impl n w
theorem has_spec_at {n : Int} {b : Bool} (h : HasAt n b) (w : World) : Calls Tryd.prog 18 #[.int .i64 n] w fun e w' => e = .returned (.bool b) ∧ w = w' := by
  rw [show b = decide (HasN n) from h]; exact has_spec n w
theorem letter_impl_at {n x : Int} (h : LetAt n x) (w : World) : Calls Tryd.prog 10 #[.int .i64 n] w fun e w' => e = .returned (.int .i64 x) ∧ w = w' := by
  rw [show x = letN n from h]; exact letter_impl n w
theorem letter_spec_at {n x : Int} (h : LetAt n x) (w : World) : Calls Tryd.prog 19 #[.int .i64 n] w fun e w' => e = .returned (.int .i64 x) ∧ w = w' := by
  rw [show x = letN n from h]; exact letter_spec n w
set_option maxHeartbeats 1000000 in
theorem up_impl (a b : Int) (w : World) : Calls Tryd.prog 12 #[.int .i64 a, .int .i64 b] w fun e w' => e = .returned (.int .i64 (upN a b)) ∧ w = w' := by
  by_cases ha : HasN a
  · by_cases hb : HasN b
    · have A : HasAt a true := (hasN_yes ha).symm
      have B : HasAt b true := (hasN_yes hb).symm
      have L := Lib.hid (upN_yes ha hb)
      obtain ⟨x, hx⟩ : ∃ x, x = letN a := ⟨_, rfl⟩
      obtain ⟨y, hy⟩ : ∃ y, y = letN b := ⟨_, rfl⟩
      obtain ⟨x0, x1⟩ := letN_bd ha
      obtain ⟨y0, y1⟩ := letN_bd hb
      rw [← hx] at x0 x1 L
      rw [← hy] at y0 y1 L
      have X : LetAt a x := hx
      have Y : LetAt b y := hy
      clear ha hb hx hy
      go_enter Tryd.func12, Tryd.ntmps12
      go_wp2_with (first | (go_at_call 16; refine (hasName_impl_at (by with_reducible assumption) _).mono ?_; rintro e w1 ⟨rfl, rfl⟩) | (go_at_call 10; refine (letter_impl_at (by with_reducible assumption) _).mono ?_; rintro e w1 ⟨rfl, rfl⟩))
      go_ret
      exact ⟨ret_int (by rw [L.out]), rfl⟩
    · have A : HasAt a true := (hasN_yes ha).symm
      have B : HasAt b false := (hasN_no hb).symm
      have L := Lib.hid (upN_no (fun h => hb h.2) : upN a b = -1)
      clear ha hb
      go_enter Tryd.func12, Tryd.ntmps12
      go_wp2_with (go_at_call 16; refine (hasName_impl_at (by with_reducible assumption) _).mono ?_; rintro e w1 ⟨rfl, rfl⟩)
      go_ret
      exact ⟨ret_int L.out.symm, rfl⟩
  · have A : HasAt a false := (hasN_no ha).symm
    have L := Lib.hid (upN_no (fun h => ha h.1) : upN a b = -1)
    clear ha
    go_enter Tryd.func12, Tryd.ntmps12
    go_wp2_with (go_at_call 16; refine (hasName_impl_at (by with_reducible assumption) _).mono ?_; rintro e w1 ⟨rfl, rfl⟩)
    go_ret
    exact ⟨ret_int L.out.symm, rfl⟩
set_option maxHeartbeats 1000000 in
theorem enh_impl (a b : Int) (w : World) : Calls Tryd.prog 13 #[.int .i64 a, .int .i64 b] w fun e w' => e = .returned (.bool (enhN a b)) ∧ w = w' := by
  by_cases ha : HasN a
  · by_cases hb : HasN b
    · have A : HasAt a true := (hasN_yes ha).symm
      have B : HasAt b true := (hasN_yes hb).symm
      have L := Lib.hid (enhN_yes ha hb)
      have M := Lib.hid (mod12 (a - b))
      obtain ⟨a0, a1⟩ := ha
      obtain ⟨b0, b1⟩ := hb
      go_enter Tryd.func13, Tryd.ntmps13
      go_wp2_with (go_at_call 16; refine (hasName_impl_at (by with_reducible assumption) _).mono ?_; rintro e w1 ⟨rfl, rfl⟩)
      go_ret
      exact ⟨ret_boolT (by rw [L.out]; exact decide_eq_decide.2 M.out), rfl⟩
    · have A : HasAt a true := (hasN_yes ha).symm
      have B : HasAt b false := (hasN_no hb).symm
      have L := Lib.hid (enhN_no (fun h => hb h.2) : enhN a b = false)
      clear ha hb
      go_enter Tryd.func13, Tryd.ntmps13
      go_wp2_with (go_at_call 16; refine (hasName_impl_at (by with_reducible assumption) _).mono ?_; rintro e w1 ⟨rfl, rfl⟩)
      go_ret
      exact ⟨ret_boolT L.out.symm, rfl⟩
  · have A : HasAt a false := (hasN_no ha).symm
    have L := Lib.hid (enhN_no (fun h => ha h.1) : enhN a b = false)
    clear ha
    go_enter Tryd.func13, Tryd.ntmps13
    go_wp2_with (go_at_call 16; refine (hasName_impl_at (by with_reducible assumption) _).mono ?_; rintro e w1 ⟨rfl, rfl⟩)
    go_ret
    exact ⟨ret_boolT L.out.symm, rfl⟩
end Go.Proofs.YtmachkcnichefaaDoor
