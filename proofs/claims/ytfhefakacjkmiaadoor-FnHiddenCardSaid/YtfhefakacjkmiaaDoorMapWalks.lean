/- Mathematics of equal divisions: the nearest number of steps. -/
import Derived.Test.YtfhefakacjkmiaaDoorTonesMath
import Derived.Test.YtfhefakacjkmiaaDoorToneWalks
import Derived.Test.YtfhefakacjkmiaaDoorSSign04
namespace Go.Proofs.YtfhefakacjkmiaaDoor
open Go.RowKit
set_option linter.unusedVariables false
/-- MapOk. -/
def okM (a b c : Int) : Bool := decide (1 ≤ a ∧ a ≤ 60 ∧ 0 ≤ b ∧ b ≤ 200 ∧ 0 ≤ c ∧ c ≤ 200)
theorem okM_nums {a b c : Int} (h : okM a b c = true) : 1 ≤ a ∧ a ≤ 60 ∧ 0 ≤ b ∧ b ≤ 200 ∧ 0 ≤ c ∧ c ≤ 200 := by
  unfold okM at h
  simpa only [decide_eq_true_eq] using h
theorem okM_mk {a b c : Int} (h : 1 ≤ a ∧ a ≤ 60 ∧ 0 ≤ b ∧ b ≤ 200 ∧ 0 ≤ c ∧ c ≤ 200) : okM a b c = true := by unfold okM; exact decide_eq_true h
/-- k half steps lie nearest to the powers h of 3 and f of 5. -/
def NearAt (h f k : Int) : Prop := ∀ j : Int, 0 < sgnP (1 - j * 2) h f ↔ j ≤ k
theorem odd_sgn (j h f : Int) : sgnP (1 - j * 2) h f ≠ 0 := fun e => by
  have := ((sgnP_zero _ _ _).1 e).1
  omega
theorem near_oct {h f k : Int} (ho : OctAt 1 h f 2 k) : NearAt h f k := fun j => by
  have e := ho.2 j
  have z := odd_sgn j h f
  constructor
  · intro hs; exact e.1 (by omega)
  · intro hs; have := e.2 hs; omega
theorem near_up {h f K : Int} (hK : NearAt h f K) (k : Int) : (0 < sgnP (-(2 * k + 1)) h f → k + 1 ≤ K) ∧ (¬ 0 < sgnP (-(2 * k + 1)) h f → K ≤ k) := by
  have e := hK (k + 1)
  rw [show 1 - (k + 1) * 2 = -(2 * k + 1) from by omega] at e
  exact ⟨e.1, fun hs => by
    rcases (show K ≤ k ∨ k + 1 ≤ K from by omega) with r | r
    · exact r
    · exact absurd (e.2 r) hs⟩
theorem near_dn {h f K : Int} (hK : NearAt h f K) (k : Int) : (sgnP (-(2 * k - 1)) h f < 0 → K < k) ∧ (¬ sgnP (-(2 * k - 1)) h f < 0 → k ≤ K) := by
  have e := hK k
  have z := odd_sgn k h f
  rw [show 1 - k * 2 = -(2 * k - 1) from by omega] at e z
  constructor
  · intro hs
    rcases (show K < k ∨ k ≤ K from by omega) with r | r
    · exact r
    · have := e.2 r; omega
  · intro hs; exact e.1 (by omega)
theorem near_one {h f k m : Int} (h1 : NearAt h f k) (h2 : NearAt h f m) : k = m := by
  have e1 := (h2 k).1 ((h1 k).2 (Int.le_refl _))
  have e2 := (h1 m).1 ((h2 m).2 (Int.le_refl _))
  omega
theorem far3 : 3 ^ 120 * 5 ^ 0 ≤ 2 ^ 191 := by decide +kernel
theorem far5 : 3 ^ 0 * 5 ^ 120 ≤ 2 ^ 279 := by decide +kernel
/-- No power of 3 and 5 is less than 1: no step is below 0. -/
theorem near_low {h f k : Int} (hk : NearAt h f k) (h0 : 0 ≤ h) (f0 : 0 ≤ f) : 0 ≤ k := by
  refine (hk 0).1 ?_
  have z := odd_sgn 0 h f
  have a : 0 ≤ sgnP (1 - 0 * 2) 0 0 := sgnP_far 0 0 0 _ _ _ (by decide) (by omega) (by omega) (by omega) (by omega) (by omega)
  have b : 0 ≤ sgnP 0 h f := by
    rw [sgnP_nonneg_iff]
    rw [show (-h).toNat = 0 from by omega, show (-f).toNat = 0 from by omega]
    have := pw_pos (0 : Int).toNat h.toNat f.toNat
    rw [show pw (-(0 : Int)).toNat 0 0 = 1 from pw_one]
    omega
  have s := sgnP_add _ _ _ _ _ _ a b
  rw [Int.add_zero, Int.zero_add, Int.zero_add] at s
  omega
theorem near3_bd {n k : Int} (h1 : 1 ≤ n) (h2 : n ≤ 60) (hk : NearAt (2 * n) 0 k) : 0 ≤ k ∧ k ≤ 96 := by
  refine ⟨near_low hk (by omega) (by omega), ?_⟩
  rcases (show k ≤ 96 ∨ 97 ≤ k from by omega) with q | q
  · exact q
  · have a := (hk 97).2 q
    have b := sgnP_near 120 0 191 (1 - 97 * 2) (2 * n) 0 far3 (by omega) (by omega) (by omega) (by omega) (by omega) (by omega)
    omega
theorem near5_bd {n k : Int} (h1 : 1 ≤ n) (h2 : n ≤ 60) (hk : NearAt 0 (2 * n) k) : 0 ≤ k ∧ k ≤ 140 := by
  refine ⟨near_low hk (by omega) (by omega), ?_⟩
  rcases (show k ≤ 140 ∨ 141 ≤ k from by omega) with q | q
  · exact q
  · have a := (hk 141).2 q
    have b := sgnP_near 0 120 279 (1 - 141 * 2) 0 (2 * n) far5 (by omega) (by omega) (by omega) (by omega) (by omega) (by omega)
    omega
/-- The nearest number of steps is there: impl's OctavesIn has it. -/
theorem near_ex {n h f : Int} (hn : -120 ≤ h ∧ h ≤ 120 ∧ -120 ≤ f ∧ f ≤ 120) : ∃ k, OctAt 1 h f 2 k ∧ NearAt h f k := by
  obtain ⟨k, hk⟩ := octAt_ex (okI_mk (a := 1) (b := h) (c := f) (d := 2) (by omega))
  exact ⟨k, hk, near_oct hk⟩
end Go.Proofs.YtfhefakacjkmiaaDoor
/- A block of three ints (a map), without any Go text. -/
namespace Go.Proofs.YtfhefakacjkmiaaDoor
open Go.RowKit Go.Joins
set_option linter.unusedVariables false
/-- The value of a map. -/
abbrev mapV (a b c : Int) : Value := .agg #[.int .i64 a, .int .i64 b, .int .i64 c]
/-- A map lies at block m. -/
def Tri (m : Nat) (p q r : Int) (w : World) : Prop := m < w.heap.size ∧ w.cell? ⟨m, 0, none⟩ = some (.int .i64 p) ∧ w.cell? ⟨m, 1, none⟩ = some (.int .i64 q) ∧ w.cell? ⟨m, 2, none⟩ = some (.int .i64 r)
theorem tri_alloc {w : World} {p q r : Int} {t : TypeId} : Tri w.heap.size p q r (w.alloc (.cells #[.int .i64 p, .int .i64 q, .int .i64 r] t)) :=
  ⟨by simp, by simp [go_sem], by simp [go_sem], by simp [go_sem]⟩
theorem tri_keep {W w : World} {m : Nat} {p q r : Int} (hb : Below W.heap.size W w) (h : Tri m p q r W) : Tri m p q r w :=
  ⟨Nat.lt_of_lt_of_le h.1 hb.size, (hb.cell h.1).trans h.2.1, (hb.cell h.1).trans h.2.2.1, (hb.cell h.1).trans h.2.2.2⟩
theorem tri_set {w : World} {m : Nat} {p q r p' q' r' : Int} (h : Tri m p q r w) :
    Tri m p' q' r' (((w.setCell ⟨m, 0, none⟩ (.int .i64 p')).setCell ⟨m, 1, none⟩ (.int .i64 q')).setCell ⟨m, 2, none⟩ (.int .i64 r')) := by
  obtain ⟨hm, z0, z1, z2⟩ := h
  exact ⟨by simpa using hm, by simp [go_sem, z0], by simp [go_sem, z1], by simp [go_sem, z2]⟩
theorem tri_other {w : World} {n m : Nat} {p q r : Int} {v0 v1 v2 : Value} (hn : n ≠ m) (h : Tri n p q r w) :
    Tri n p q r (((w.setCell ⟨m, 0, none⟩ v0).setCell ⟨m, 1, none⟩ v1).setCell ⟨m, 2, none⟩ v2) := by
  obtain ⟨hm, z0, z1, z2⟩ := h
  have k : ∀ i j : Nat, (⟨m, j, none⟩ : Addr) ≠ ⟨n, i, none⟩ := fun i j e => hn (by injection e with e1; exact e1.symm)
  have c : ∀ i, (((w.setCell ⟨m, 0, none⟩ v0).setCell ⟨m, 1, none⟩ v1).setCell ⟨m, 2, none⟩ v2).cell? ⟨n, i, none⟩ = w.cell? ⟨n, i, none⟩ := fun i => by
    rw [World.cell?_setCell_other _ _ _ _ (k i 2), World.cell?_setCell_other _ _ _ _ (k i 1), World.cell?_setCell_other _ _ _ _ (k i 0)]
  exact ⟨by simpa using hm, (c 0).trans z0, (c 1).trans z1, (c 2).trans z2⟩
theorem tri_al {w : World} {m : Nat} {p q r : Int} {o : Obj} (h : Tri m p q r w) : Tri m p q r (w.alloc o) := tri_keep ((Below.refl _ _).alloc (Nat.le_refl _) o) h
theorem below_set3 {w w' : World} {B m : Nat} {v0 v1 v2 : Value} (hm : B ≤ m) (h : Below B w w') : Below B w (((w'.setCell ⟨m, 0, none⟩ v0).setCell ⟨m, 1, none⟩ v1).setCell ⟨m, 2, none⟩ v2) :=
  ((h.setCell hm _).setCell hm _).setCell hm _
end Go.Proofs.YtfhefakacjkmiaaDoor
/- Contracts of laws.toMap, laws.eqMap, spec.MapOk, impl.isPure. -/
namespace Go.Proofs.YtfhefakacjkmiaaDoor
open Go.RowKit Go.Joins
set_option linter.unusedVariables false
theorem toMap_any (a b c : Int) (w : World) :
    Calls Tryd.prog 23 #[mapV a b c] w fun e w' => e = .returned (mapV a b c) ∧ Below w.heap.size w w' := by
  go_enter Tryd.func23, Tryd.ntmps23
  go_wp2
  refine bodyPost_ret (v := mapV a b c) (by simp [results, Tryd.results23, go_sem]) rfl ⟨rfl, ?_⟩
  exact below_alloc3 _ _ _ _
theorem smapOk_any (a b c : Int) (w : World) :
    Calls Tryd.prog 33 #[mapV a b c] w fun e w' => e = .returned (.bool (okM a b c)) ∧ Below w.heap.size w w' := by
  have key : ∀ x : Bool, x = decide (1 ≤ a ∧ a ≤ 60) → ∀ y : Bool, y = decide (0 ≤ b ∧ b ≤ 200) → ∀ z : Bool, z = decide (0 ≤ c ∧ c ≤ 200) →
      okM a b c = (x && y && z) := by
    intro x hx y hy z hz
    subst hx hy hz
    unfold okM
    simp only [← Bool.decide_and]
    congr 1
    simp only [eq_iff_iff]
    constructor <;> intro h <;> omega
  obtain ⟨x, hx⟩ : ∃ x : Bool, decide (1 ≤ a ∧ a ≤ 60) = x := ⟨_, rfl⟩
  obtain ⟨y, hy⟩ : ∃ x : Bool, decide (0 ≤ b ∧ b ≤ 200) = x := ⟨_, rfl⟩
  obtain ⟨z, hz⟩ : ∃ x : Bool, decide (0 ≤ c ∧ c ≤ 200) = x := ⟨_, rfl⟩
  have K := Lib.hid (key x hx.symm y hy.symm z hz.symm)
  have hx := Lib.hid hx
  have hy := Lib.hid hy
  have hz := Lib.hid hz
  clear key
  cases x
  · go_enter Tryd.func33, Tryd.ntmps33
    go_wp2_with fail
    refine (inT_any _ _ _ _).mono ?_
    rintro e w' ⟨rfl, rfl⟩
    rw [hx.out]
    go_wp2_with fail
    go_ret
    exact ⟨ret_boolT K.out.symm, below_alloc1 _ _⟩
  · cases y
    · go_enter Tryd.func33, Tryd.ntmps33
      go_wp2_with fail
      refine (inT_any _ _ _ _).mono ?_
      rintro e w' ⟨rfl, rfl⟩
      rw [hx.out]
      go_wp2_with fail
      refine (inT_any _ _ _ _).mono ?_
      rintro e w' ⟨rfl, rfl⟩
      rw [hy.out]
      go_wp2_with fail
      go_ret
      exact ⟨ret_boolT K.out.symm, below_alloc1 _ _⟩
    · go_enter Tryd.func33, Tryd.ntmps33
      go_wp2_with fail
      refine (inT_any _ _ _ _).mono ?_
      rintro e w' ⟨rfl, rfl⟩
      rw [hx.out]
      go_wp2_with fail
      refine (inT_any _ _ _ _).mono ?_
      rintro e w' ⟨rfl, rfl⟩
      rw [hy.out]
      go_wp2_with fail
      refine (inT_any _ _ _ _).mono ?_
      rintro e w' ⟨rfl, rfl⟩
      rw [hz.out]
      go_wp2_with fail
      go_ret
      exact ⟨ret_boolT (by rw [K.out]; simp), below_alloc1 _ _⟩
/-- An interval is valid with Root 1. -/
def pure9 (a b c d : Int) : Bool := okI a b c d && (d == 1)
theorem isPure9_impl (a b c d : Int) (w : World) :
    Calls Tryd.prog 43 #[ivV a b c d] w fun e w' => e = .returned (.bool (pure9 a b c d)) ∧ Below w.heap.size w w' := by
  obtain ⟨x, hx⟩ : ∃ x : Bool, okI a b c d = x := ⟨_, rfl⟩
  have HX := Lib.hid hx
  have PX : Hid (pure9 a b c d = (x && (d == 1))) := Lib.hid (by unfold pure9; rw [hx])
  clear hx
  cases x
  all_goals
    go_enter Tryd.func43, Tryd.ntmps43
    go_wp2_with fail
    refine (intervalOk_any _ _ _ _ _).mono ?_
    rintro e w1 ⟨rfl, hb⟩
    rw [HX.out]
    obtain ⟨hc, hf⟩ := bcellT hb
    have q3 : w1.cell? ⟨w.heap.size, 3, none⟩ = some (.int .i64 d) := by rw [hc _ _ (by simp)]; simp [go_sem]
    have kb : Below w.heap.size w w1 := (below_alloc1 w _).trans (hb.mono (by simp))
    clear hb hc hf
    go_wp2_with fail
    go_ret
    exact ⟨ret_boolT (by rw [PX.out]; simp), kb⟩
end Go.Proofs.YtfhefakacjkmiaaDoor
/- Contracts of impl's MapOk and of what it stands on: divisionOf, isDivision, partialsOk, isPartialSteps. -/
namespace Go.Proofs.YtfhefakacjkmiaaDoor
open Go.RowKit Go.Joins
set_option linter.unusedVariables false
/-- The value of the partials' steps. -/
abbrev pairV (b c : Int) : Value := .agg #[.int .i64 b, .int .i64 c]
theorem isSteps_impl (n : Int) (w : World) : Calls Tryd.prog 74 #[.int .i64 n] w fun e w' => e = .returned (.bool (decide (0 ≤ n ∧ n ≤ 200))) ∧ Below w.heap.size w w' := by
  by_cases h1 : 0 ≤ n
  · by_cases h2 : n ≤ 200
    · have R := Lib.hid (And.intro h1 h2)
      go_enter Tryd.func74, Tryd.ntmps74
      go_wp2
      go_ret
      exact ⟨ret_boolT (decide_eq_true R.out).symm, Below.refl _ _⟩
    · have R := Lib.hid h2
      go_enter Tryd.func74, Tryd.ntmps74
      go_wp2
      go_ret
      exact ⟨ret_boolT (decide_eq_false (fun h => by have := R.out; omega)).symm, Below.refl _ _⟩
  · have R := Lib.hid h1
    go_enter Tryd.func74, Tryd.ntmps74
    go_wp2
    go_ret
    exact ⟨ret_boolT (by have := R.out; simp; omega), Below.refl _ _⟩
theorem isDiv_impl (n : Int) (w : World) : Calls Tryd.prog 41 #[.int .i64 n] w fun e w' => e = .returned (.bool (decide (1 ≤ n ∧ n ≤ 60))) ∧ Below w.heap.size w w' := by
  by_cases h1 : 1 ≤ n
  · by_cases h2 : n ≤ 60
    · have R := Lib.hid (And.intro h1 h2)
      go_enter Tryd.func41, Tryd.ntmps41
      go_wp2
      go_ret
      exact ⟨ret_boolT (decide_eq_true R.out).symm, Below.refl _ _⟩
    · have R := Lib.hid h2
      go_enter Tryd.func41, Tryd.ntmps41
      go_wp2
      go_ret
      exact ⟨ret_boolT (decide_eq_false (fun h => by have := R.out; omega)).symm, Below.refl _ _⟩
  · have R := Lib.hid h1
    go_enter Tryd.func41, Tryd.ntmps41
    go_wp2
    go_ret
    exact ⟨ret_boolT (by have := R.out; simp; omega), Below.refl _ _⟩
theorem divOf_impl (a b c : Int) (w : World) : Calls Tryd.prog 48 #[mapV a b c] w fun e w' => e = .returned (mapV a b c) ∧ Below w.heap.size w w' := by
  go_enter Tryd.func48, Tryd.ntmps48
  go_wp2_with fail
  refine bodyPost_ret (v := mapV a b c) (by simp [results, Tryd.results48, go_sem]) rfl ⟨rfl, ?_⟩
  repeat' (first | exact below_alloc2 _ _ _ | (refine Below.setCell ?_ (by simp) _))
def partsB (b c : Int) : Bool := decide (0 ≤ b ∧ b ≤ 200) && decide (0 ≤ c ∧ c ≤ 200)
theorem partsOk_impl (b c : Int) (w : World) : Calls Tryd.prog 55 #[pairV b c] w fun e w' => e = .returned (.bool (partsB b c)) ∧ Below w.heap.size w w' := by
  obtain ⟨x, hx⟩ : ∃ x : Bool, decide (0 ≤ b ∧ b ≤ 200) = x := ⟨_, rfl⟩
  obtain ⟨y, hy⟩ : ∃ x : Bool, decide (0 ≤ c ∧ c ≤ 200) = x := ⟨_, rfl⟩
  have K : Hid (partsB b c = (x && y)) := Lib.hid (by unfold partsB; rw [hx, hy])
  have HX := Lib.hid hx
  have HY := Lib.hid hy
  clear hx hy
  cases x
  · go_enter Tryd.func55, Tryd.ntmps55
    go_wp2_with fail
    refine (isSteps_impl _ _).mono ?_
    rintro e w1 ⟨rfl, hb⟩
    rw [HX.out]
    have kb : Below w.heap.size w w1 := (below_alloc1 w _).trans (hb.mono (by simp))
    clear hb
    go_wp2_with fail
    go_ret
    exact ⟨ret_boolT K.out.symm, kb⟩
  · go_enter Tryd.func55, Tryd.ntmps55
    go_wp2_with fail
    refine (isSteps_impl _ _).mono ?_
    rintro e w1 ⟨rfl, hb⟩
    rw [HX.out]
    obtain ⟨hc, hf⟩ := bcellT hb
    have q1 : w1.cell? ⟨w.heap.size, 1, none⟩ = some (.int .i64 c) := by rw [hc _ _ (by simp)]; simp [go_sem]
    have kb : Below w.heap.size w w1 := (below_alloc1 w _).trans (hb.mono (by simp))
    clear hb hc hf
    go_wp2_with fail
    refine (isSteps_impl _ _).mono ?_
    rintro e w2 ⟨rfl, hb⟩
    rw [HY.out]
    have kb2 : Below w.heap.size w w2 := kb.trans (hb.mono kb.size)
    clear hb kb
    go_wp2_with fail
    go_ret
    exact ⟨ret_boolT (by rw [K.out]; simp), kb2⟩
theorem okM_of (a b c : Int) : okM a b c = (decide (1 ≤ a ∧ a ≤ 60) && partsB b c) := by
  unfold okM partsB
  simp only [← Bool.decide_and]
  congr 1
  simp only [eq_iff_iff]
  constructor <;> intro h <;> omega
theorem mapOk_impl (a b c : Int) (w : World) : Calls Tryd.prog 30 #[mapV a b c] w fun e w' => e = .returned (.bool (okM a b c)) ∧ Below w.heap.size w w' := by
  obtain ⟨x, hx⟩ : ∃ x : Bool, decide (1 ≤ a ∧ a ≤ 60) = x := ⟨_, rfl⟩
  have K : Hid (okM a b c = (x && partsB b c)) := Lib.hid (by rw [okM_of, hx])
  have HX := Lib.hid hx
  clear hx
  cases x
  all_goals
    go_enter Tryd.func30, Tryd.ntmps30
    go_wp2_with fail
    refine (divOf_impl _ _ _ _).mono ?_
    rintro e w1 ⟨rfl, hb⟩
    have B1 := Lib.hid ((below_alloc1 w _).trans (hb.mono (by simp)))
    clear hb
    go_wp2_with fail
    refine (isDiv_impl _ _).mono ?_
    rintro e w2 ⟨rfl, hb⟩
    rw [HX.out]
    obtain ⟨q0, q1, q2, q3⟩ := tri_keep hb tri_alloc
    have B2 := Lib.hid ((B1.out.alloc B1.out.size _).trans (hb.mono (by have := B1.out.size; simp; omega)))
    clear hb B1
    go_wp2_with fail
    first
      | (go_ret; exact ⟨ret_boolT K.out.symm, B2.out⟩)
      | (refine (partsOk_impl _ _ _).mono ?_
         rintro e w3 ⟨rfl, hb⟩
         have B3 := Lib.hid (B2.out.trans (hb.mono B2.out.size))
         clear hb
         go_wp2_with fail
         go_ret
         exact ⟨ret_boolT (by rw [K.out]; simp), B3.out⟩)
end Go.Proofs.YtfhefakacjkmiaaDoor
/- Contracts of impl's inPartials, sixth and nearestSteps. -/
namespace Go.Proofs.YtfhefakacjkmiaaDoor
open Go.RowKit Go.Joins
set_option linter.unusedVariables false
theorem sixth_impl (b c : Int) (w : World) (b0 : 0 ≤ b) (b1 : b ≤ 200) (c0 : 0 ≤ c) (c1 : c ≤ 200) : Calls Tryd.prog 49 #[pairV b c] w fun e w' => e = .returned (.int .i64 (c - b)) ∧ Below w.heap.size w w' := by
  go_enter Tryd.func49, Tryd.ntmps49
  go_wp2_with fail
  go_ret
  exact ⟨rfl, below_alloc1 _ _⟩
theorem inParts_impl {b c t h f d x y : Int} (hx : b * h = x) (hy : c * f = y) (x0 : -1000000 ≤ x) (x1 : x ≤ 1000000) (y0 : -1000000 ≤ y) (y1 : y ≤ 1000000) (w : World) :
    Calls Tryd.prog 61 #[pairV b c, ivV t h f d] w fun e w' => e = .returned (.int .i64 (x + y)) ∧ Below w.heap.size w w' := by
  go_enter Tryd.func61, Tryd.ntmps61
  go_wp2_with fail
  go_ret
  exact ⟨rfl, below_alloc2 _ _ _⟩
end Go.Proofs.YtfhefakacjkmiaaDoor
/- Contracts of spec.l09Nearest and spec.BestMap. -/
namespace Go.Proofs.YtfhefakacjkmiaaDoor
open Go.RowKit Go.Joins
set_option linter.unusedVariables false
def intOfN : Value → Int | .int _ q => q | _ => 0
set_option maxHeartbeats 2000000 in
theorem nearest_spec {n a b h f K : Int} (hh : 2 * n * a = h) (hf : 2 * n * b = f) (hK : NearAt h f K) (K0 : 0 ≤ K) (K1 : K ≤ 200) (n0 : 1 ≤ n) (n1 : n ≤ 60) (a0 : 0 ≤ a) (a1 : a ≤ 1) (b0 : 0 ≤ b) (b1 : b ≤ 1) (h0 : -120 ≤ h) (h1 : h ≤ 120) (f0 : -120 ≤ f) (f1 : f ≤ 120) (w : World) :
    Calls Tryd.prog 72 #[.int .i64 n, .int .i64 a, .int .i64 b] w fun e w' => e = .returned (.int .i64 K) ∧ Below w.heap.size w w' := by
  have HK := Lib.hid hK
  clear hK
  go_enter Tryd.func72, Tryd.ntmps72
  go_wp2_with fail
  go_loopw [7] (fun x wr => ∃ k : Int, x = .int .i64 k ∧ (0 ≤ k ∧ k ≤ K) ∧ Below w.heap.size w wr) (fun x _ => (K - intOfN x).toNat)
  case atStart => exact ⟨0, rfl, ⟨by omega, K0⟩, Below.refl _ _⟩
  case round =>
    obtain ⟨k, rfl, ⟨hk0, hk1⟩, hB⟩ := hrel
    have B1 := Lib.hid hB
    have sg := near_up HK.out k
    clear hB
    go_wp2_with fail
    refine (sign04_walk _ (-(2 * k + 1)) h f (by omega) (by omega) (by omega) (by omega) (by omega) (by omega)).mono ?_
    rintro e1 w2 ⟨rfl, h2⟩
    have B2 := Lib.hid (B1.out.trans (h2.mono B1.out.size))
    clear B1 h2
    by_cases hs : 0 < sgnP (-(2 * k + 1)) h f
    · have hk2 := sg.1 hs
      go_wp2_with fail
      go_roundw
      case rel => exact ⟨k + 1, rfl, ⟨by omega, hk2⟩, B2.out⟩
      case measure => simp [intOfN]; omega
    · have hk2 := sg.2 (by omega)
      have hkk : k = K := by omega
      subst hkk
      have sd := near_dn HK.out k
      have hd : ¬ sgnP (-(2 * k - 1)) h f < 0 := fun hs => by have := sd.1 hs; omega
      clear sg sd
      go_wp2_with fail
      clear hs
      go_loopw [7] (fun x wr => x = .int .i64 k ∧ Below w.heap.size w wr) (fun x _ => 0)
      case atStart => exact ⟨rfl, B2.out⟩
      case round =>
        obtain ⟨rfl, hB⟩ := hrel
        clear B2
        have B2 := Lib.hid hB
        clear hB
        go_wp2_with fail
        refine (sign04_walk _ (-(2 * k - 1)) h f (by omega) (by omega) (by omega) (by omega) (by omega) (by omega)).mono ?_
        rintro e1 w3 ⟨rfl, h3⟩
        have B3 := Lib.hid (B2.out.trans (h3.mono B2.out.size))
        clear B2 h3
        go_wp2_with fail
        go_ret
        exact ⟨rfl, B3.out⟩
end Go.Proofs.YtfhefakacjkmiaaDoor
