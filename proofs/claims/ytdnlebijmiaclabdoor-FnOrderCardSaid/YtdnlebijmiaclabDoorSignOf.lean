/- The mathematics of laws.FnOrder. -/
import Derived.Test.YtdnlebijmiaclabDoorBetween
import Derived.Test.YtdnlebijmiaclabDoorGreatest
import Derived.Test.YtdnlebijmiaclabDoorSizesLaw
import Derived.Test.YtdnlebijmiaclabDoorCompareTone
namespace Go.Proofs.YtdnlebijmiaclabDoor
open Go.RowKit Go.Joins
set_option linter.unusedVariables false
theorem cmpV_self {x : Iv} (h : okV x = true) : cmpV x x = 0 := (cmpV_zero h h).2 rfl
/-- What the greatest of three is. -/
theorem greatest3 {A B C : Iv} (hA : okV A = true) (hB : okV B = true) (hC : okV C = true) : ∃ g : Nat, gList [A, B, C] = (g : Int) ∧ g < 3 ∧ 0 ≤ cmpV (ivAt [A, B, C] g) A := by
  have s1 : gTo [A, B, C] 1 = some 0 := gTo_stay (k := 0) (g := 0) rfl ⟨hA, hA⟩ (by show ¬ 0 < cmpV A A; rw [cmpV_self hA]; omega)
  have key : ∀ g, gTo [A, B, C] 3 = some g → g < 3 → 0 ≤ cmpV (ivAt [A, B, C] g) A → ∃ g : Nat, gList [A, B, C] = (g : Int) ∧ g < 3 ∧ 0 ≤ cmpV (ivAt [A, B, C] g) A := fun g h1 h2 h3 => ⟨g, gList_some (xs := [A, B, C]) h1 (by simp) (by simp), h2, h3⟩
  by_cases h1 : 0 < cmpV B A
  · have s2 : gTo [A, B, C] 2 = some 1 := gTo_up (k := 1) (g := 0) s1 ⟨hB, hA⟩ h1
    by_cases h2 : 0 < cmpV C B
    · exact key 2 (gTo_up (k := 2) (g := 1) s2 ⟨hC, hB⟩ h2) (by omega) (show 0 ≤ cmpV C A from cmpV_trans hC hB hA (Int.le_of_lt h2) (Int.le_of_lt h1))
    · exact key 1 (gTo_stay (k := 2) (g := 1) s2 ⟨hC, hB⟩ h2) (by omega) (by show 0 ≤ cmpV B A; omega)
  · have s2 : gTo [A, B, C] 2 = some 0 := gTo_stay (k := 1) (g := 0) s1 ⟨hB, hA⟩ h1
    by_cases h2 : 0 < cmpV C A
    · exact key 2 (gTo_up (k := 2) (g := 0) s2 ⟨hC, hA⟩ h2) (by omega) (by show 0 ≤ cmpV C A; omega)
    · exact key 0 (gTo_stay (k := 2) (g := 0) s2 ⟨hC, hA⟩ h2) (by omega) (by show 0 ≤ cmpV A A; rw [cmpV_self hA]; omega)
def IsPick (A : Addr) (a b c d e f g h i j k l : Int) (z : Bool) : Prop := ∀ w, SenAt A w → Calls Tryd.prog 22 #[ivV a b c d, ivV e f g h, ivV i j k l] w fun en w' => en = .returned (.bool z) ∧ Below w.heap.size w w'
theorem is_pick {A : Addr} {a b c d e f g h i j k l : Int} {z : Bool} (hh : IsPick A a b c d e f g h i j k l z) (w : World) (hs : SenAt A w) : Calls Tryd.prog 22 #[ivV a b c d, ivV e f g h, ivV i j k l] w fun en w' => en = .returned (.bool z) ∧ Below w.heap.size w w' := hh w hs
/-- What laws.FnOrder calls, told by letters: x, y, z the comparisons, N the interval downwards, D the difference, g the greatest. -/
def OrderSay (P : Addr) (A B C N D G : Iv) (x y z c : Int) (two : Bool) (g : Nat) : Prop :=
  (∀ w, SenAt P w → Calls Tryd.prog 17 #[ivV A.two A.three A.five A.root, ivV B.two B.three B.five B.root] w fun en w' => en = .returned (.int .i64 x) ∧ Below w.heap.size w w') ∧
  (∀ w, SenAt P w → Calls Tryd.prog 17 #[ivV B.two B.three B.five B.root, ivV C.two C.three C.five C.root] w fun en w' => en = .returned (.int .i64 y) ∧ Below w.heap.size w w') ∧
  (∀ w, SenAt P w → Calls Tryd.prog 17 #[ivV A.two A.three A.five A.root, ivV C.two C.three C.five C.root] w fun en w' => en = .returned (.int .i64 z) ∧ Below w.heap.size w w') ∧
  (∀ w, Calls Tryd.prog 18 #[ivV B.two B.three B.five B.root, .int .i64 (-1)] w fun en w' => en = .returned (.tuple #[ivV N.two N.three N.five N.root, .bool true]) ∧ Below w.heap.size w w') ∧
  (∀ w, Calls Tryd.prog 19 #[ivV A.two A.three A.five A.root, ivV N.two N.three N.five N.root] w fun en w' => en = .returned (.tuple #[ivV D.two D.three D.five D.root, .bool two]) ∧ Below w.heap.size w w') ∧
  (two = true → ∀ w, SenAt P w → Calls Tryd.prog 20 #[ivV D.two D.three D.five D.root] w fun en w' => en = .returned (.int .i64 x) ∧ Below w.heap.size w w') ∧
  (∀ w, SenAt P w → Calls Tryd.prog 17 #[ivV B.two B.three B.five B.root, ivV A.two A.three A.five A.root] w fun en w' => en = .returned (.int .i64 (-x)) ∧ Below w.heap.size w w') ∧
  CmpPick P G.two G.three G.five G.root A.two A.three A.five A.root c ∧
  IsPick P B.two B.three B.five B.root A.two A.three A.five A.root C.two C.three C.five C.root (decide (x ≤ 0) && decide (y ≤ 0)) ∧
  gList [A, B, C] = (g : Int) ∧ g < 3 ∧ G = ivAt [A, B, C] g ∧ 0 ≤ c ∧ (x ≤ 0 → y ≤ 0 → z ≤ 0) ∧ (0 ≤ x → 0 ≤ y → 0 ≤ z) ∧ -1 ≤ x ∧ x ≤ 1 ∧ -1 ≤ y ∧ y ≤ 1 ∧ -1 ≤ z ∧ z ≤ 1
theorem order_say (P : Addr) {A B C : Iv} (hA : okV A = true) (hB : okV B = true) (hC : okV C = true) : ∃ N D G x y z c two g, OrderSay P A B C N D G x y z c two g := by
  obtain ⟨g, g1, g2, g3⟩ := greatest3 hA hB hC
  have rB := okV_root hB
  have hBi : okI B.two B.three B.five B.root = true := hB
  have hM : okV ⟨B.two * -1, B.three * -1, B.five * -1, B.root⟩ = true := by
    obtain ⟨b1, b2, b3, b4, b5, b6, b7, b8⟩ := okI_bd hBi
    show okI (B.two * -1) (B.three * -1) (B.five * -1) B.root = true
    exact okI_mk (by omega)
  have hN := simV_ok hM
  have bx := cmpV_bd A B
  have by' := cmpV_bd B C
  have bz := cmpV_bd A C
  refine ⟨simV ⟨B.two * -1, B.three * -1, B.five * -1, B.root⟩, (addV A (simV ⟨B.two * -1, B.three * -1, B.five * -1, B.root⟩)).1, ivAt [A, B, C] g, cmpV A B, cmpV B C, cmpV A C, cmpV (ivAt [A, B, C] g) A, (addV A (simV ⟨B.two * -1, B.three * -1, B.five * -1, B.root⟩)).2, g, ?_⟩
  refine ⟨fun w hs => compare_impl P _ _ _ _ _ _ _ _ w hs, fun w hs => compare_impl P _ _ _ _ _ _ _ _ w hs, fun w hs => compare_impl P _ _ _ _ _ _ _ _ w hs, fun w => ?_, fun w => add_total A _ w, fun ht w hs => ?_, fun w hs => ?_, fun w hs => compare_impl P _ _ _ _ _ _ _ _ w hs, fun w hs => ?_, g1, g2, rfl, g3, ?_, ?_, bx.1, bx.2, by'.1, by'.2, bz.1, bz.2⟩
  · exact times_of _ _ _ _ (-1) _ _ _ _ hBi (by omega) (by omega) ⟨rfl, rfl, rfl, rfl⟩ hN w
  · obtain ⟨D, hD⟩ : ∃ D, D = (addV A (simV ⟨B.two * -1, B.three * -1, B.five * -1, B.root⟩)).1 := ⟨_, rfl⟩
    have e : addV A (simV ⟨B.two * -1, B.three * -1, B.five * -1, B.root⟩) = (D, true) := by rw [hD, ← ht]
    have h1 := cmpV_dif hA hB e
    have h2 := (addV_yes e).2.2.1
    rw [← hD]
    have h3 := sign_impl P D.two D.three D.five D.root w hs
    have h4 : cmp8 D.two D.three D.five D.root 0 0 0 1 = cmpV A B := (cmpV_prime h2).trans h1
    rw [h4] at h3
    exact h3
  · have h3 := compare_impl P B.two B.three B.five B.root A.two A.three A.five A.root w hs
    have h4 : cmp8 B.two B.three B.five B.root A.two A.three A.five A.root = -cmpV A B := cmpV_swap A B
    rw [h4] at h3
    exact h3
  · have h3 := between_impl P B.two B.three B.five B.root A.two A.three A.five A.root C.two C.three C.five C.root w hs
    have h4 : btw B.two B.three B.five B.root A.two A.three A.five A.root C.two C.three C.five C.root = (decide (cmpV A B ≤ 0) && decide (cmpV B C ≤ 0)) := by
      unfold btw
      rw [show okI B.two B.three B.five B.root = true from hB, show okI A.two A.three A.five A.root = true from hA, show okI C.two C.three C.five C.root = true from hC]
      rw [show cmp8 B.two B.three B.five B.root A.two A.three A.five A.root = -cmpV A B from cmpV_swap A B, show cmp8 B.two B.three B.five B.root C.two C.three C.five C.root = cmpV B C from rfl]
      simp only [Bool.true_and]
      congr 1
      simp only [decide_eq_decide]
      omega
    rw [h4] at h3
    exact h3
  · intro hx hy
    have k1 : 0 ≤ cmpV B A := by rw [cmpV_swap A B]; omega
    have k2 : 0 ≤ cmpV C B := by rw [cmpV_swap B C]; omega
    have := cmpV_trans hC hB hA k2 k1
    rw [cmpV_swap A C] at this
    omega
  · exact fun hx hy => cmpV_trans hA hB hC hx hy
end Go.Proofs.YtdnlebijmiaclabDoor
