/- A block of three ints (a map), without any Go text. -/
import Derived.Test.YtfhefakacjkmiaaDoorToneWalks
import Derived.Test.YtfhefakacjkmiaaDoorMapMath
namespace Go.Proofs.YtfhefakacjkmiaaDoor
open Go.RowKit Go.Joins
set_option linter.unusedVariables false
/-- The value of a map. -/
abbrev mapV (a b c : Int) : Value := .agg #[.int .i64 a, .int .i64 b, .int .i64 c]
/-- A map lies at block m. -/
def Tri (m : Nat) (p q r : Int) (w : World) : Prop := m < w.heap.size ∧ w.cell? ⟨m, 0, none⟩ = some (.int .i64 p) ∧ w.cell? ⟨m, 1, none⟩ = some (.int .i64 q) ∧ w.cell? ⟨m, 2, none⟩ = some (.int .i64 r)
theorem tri_alloc {w : World} {p q r : Int} {t : TypeId} : Tri w.heap.size p q r (w.alloc (.cells #[.int .i64 p, .int .i64 q, .int .i64 r] t)) :=
  ⟨by simp, by simp [go_sem], by simp [go_sem], by simp [go_sem]⟩
theorem tri_keep {W w : World} {m : Nat} {p q r : Int} (hb : Below W.heap.size W w) (h : Tri m p q r W) : Tri m p q r w :=
  ⟨Nat.lt_of_lt_of_le h.1 hb.size, (hb.cell h.1).trans h.2.1, (hb.cell h.1).trans h.2.2.1, (hb.cell h.1).trans h.2.2.2⟩
theorem tri_set {w : World} {m : Nat} {p q r p' q' r' : Int} (h : Tri m p q r w) :
    Tri m p' q' r' (((w.setCell ⟨m, 0, none⟩ (.int .i64 p')).setCell ⟨m, 1, none⟩ (.int .i64 q')).setCell ⟨m, 2, none⟩ (.int .i64 r')) := by
  obtain ⟨hm, z0, z1, z2⟩ := h
  exact ⟨by simpa using hm, by simp [go_sem, z0], by simp [go_sem, z1], by simp [go_sem, z2]⟩
theorem tri_other {w : World} {n m : Nat} {p q r : Int} {v0 v1 v2 : Value} (hn : n ≠ m) (h : Tri n p q r w) :
    Tri n p q r (((w.setCell ⟨m, 0, none⟩ v0).setCell ⟨m, 1, none⟩ v1).setCell ⟨m, 2, none⟩ v2) := by
  obtain ⟨hm, z0, z1, z2⟩ := h
  have k : ∀ i j : Nat, (⟨m, j, none⟩ : Addr) ≠ ⟨n, i, none⟩ := fun i j e => hn (by injection e with e1; exact e1.symm)
  have c : ∀ i, (((w.setCell ⟨m, 0, none⟩ v0).setCell ⟨m, 1, none⟩ v1).setCell ⟨m, 2, none⟩ v2).cell? ⟨n, i, none⟩ = w.cell? ⟨n, i, none⟩ := fun i => by
    rw [World.cell?_setCell_other _ _ _ _ (k i 2), World.cell?_setCell_other _ _ _ _ (k i 1), World.cell?_setCell_other _ _ _ _ (k i 0)]
  exact ⟨by simpa using hm, (c 0).trans z0, (c 1).trans z1, (c 2).trans z2⟩
theorem tri_al {w : World} {m : Nat} {p q r : Int} {o : Obj} (h : Tri m p q r w) : Tri m p q r (w.alloc o) := tri_keep ((Below.refl _ _).alloc (Nat.le_refl _) o) h
theorem below_set3 {w w' : World} {B m : Nat} {v0 v1 v2 : Value} (hm : B ≤ m) (h : Below B w w') : Below B w (((w'.setCell ⟨m, 0, none⟩ v0).setCell ⟨m, 1, none⟩ v1).setCell ⟨m, 2, none⟩ v2) :=
  ((h.setCell hm _).setCell hm _).setCell hm _
end Go.Proofs.YtfhefakacjkmiaaDoor
/- Contracts of laws.toMap, laws.eqMap, spec.MapOk, impl.isPure. -/
namespace Go.Proofs.YtfhefakacjkmiaaDoor
open Go.RowKit Go.Joins
set_option linter.unusedVariables false
theorem toMap_any (a b c : Int) (w : World) :
    Calls Tryd.prog 23 #[mapV a b c] w fun e w' => e = .returned (mapV a b c) ∧ Below w.heap.size w w' := by
  go_enter Tryd.func23, Tryd.ntmps23
  go_wp2
  refine bodyPost_ret (v := mapV a b c) (by simp [results, Tryd.results23, go_sem]) rfl ⟨rfl, ?_⟩
  exact below_alloc3 _ _ _ _
theorem smapOk_any (a b c : Int) (w : World) :
    Calls Tryd.prog 33 #[mapV a b c] w fun e w' => e = .returned (.bool (okM a b c)) ∧ Below w.heap.size w w' := by
  have key : ∀ x : Bool, x = decide (1 ≤ a ∧ a ≤ 60) → ∀ y : Bool, y = decide (0 ≤ b ∧ b ≤ 200) → ∀ z : Bool, z = decide (0 ≤ c ∧ c ≤ 200) →
      okM a b c = (x && y && z) := by
    intro x hx y hy z hz
    subst hx hy hz
    unfold okM
    simp only [← Bool.decide_and]
    congr 1
    simp only [eq_iff_iff]
    constructor <;> intro h <;> omega
  obtain ⟨x, hx⟩ : ∃ x : Bool, decide (1 ≤ a ∧ a ≤ 60) = x := ⟨_, rfl⟩
  obtain ⟨y, hy⟩ : ∃ x : Bool, decide (0 ≤ b ∧ b ≤ 200) = x := ⟨_, rfl⟩
  obtain ⟨z, hz⟩ : ∃ x : Bool, decide (0 ≤ c ∧ c ≤ 200) = x := ⟨_, rfl⟩
  have K := Lib.hid (key x hx.symm y hy.symm z hz.symm)
  have hx := Lib.hid hx
  have hy := Lib.hid hy
  have hz := Lib.hid hz
  clear key
  cases x
  · go_enter Tryd.func33, Tryd.ntmps33
    go_wp2_with fail
    refine (inT_any _ _ _ _).mono ?_
    rintro e w' ⟨rfl, rfl⟩
    rw [hx.out]
    go_wp2_with fail
    go_ret
    exact ⟨ret_boolT K.out.symm, below_alloc1 _ _⟩
  · cases y
    · go_enter Tryd.func33, Tryd.ntmps33
      go_wp2_with fail
      refine (inT_any _ _ _ _).mono ?_
      rintro e w' ⟨rfl, rfl⟩
      rw [hx.out]
      go_wp2_with fail
      refine (inT_any _ _ _ _).mono ?_
      rintro e w' ⟨rfl, rfl⟩
      rw [hy.out]
      go_wp2_with fail
      go_ret
      exact ⟨ret_boolT K.out.symm, below_alloc1 _ _⟩
    · go_enter Tryd.func33, Tryd.ntmps33
      go_wp2_with fail
      refine (inT_any _ _ _ _).mono ?_
      rintro e w' ⟨rfl, rfl⟩
      rw [hx.out]
      go_wp2_with fail
      refine (inT_any _ _ _ _).mono ?_
      rintro e w' ⟨rfl, rfl⟩
      rw [hy.out]
      go_wp2_with fail
      refine (inT_any _ _ _ _).mono ?_
      rintro e w' ⟨rfl, rfl⟩
      rw [hz.out]
      go_wp2_with fail
      go_ret
      exact ⟨ret_boolT (by rw [K.out]; simp), below_alloc1 _ _⟩
/-- An interval is valid with Root 1. -/
def pure9 (a b c d : Int) : Bool := okI a b c d && (d == 1)
theorem isPure9_impl (a b c d : Int) (w : World) :
    Calls Tryd.prog 43 #[ivV a b c d] w fun e w' => e = .returned (.bool (pure9 a b c d)) ∧ Below w.heap.size w w' := by
  obtain ⟨x, hx⟩ : ∃ x : Bool, okI a b c d = x := ⟨_, rfl⟩
  have HX := Lib.hid hx
  have PX : Hid (pure9 a b c d = (x && (d == 1))) := Lib.hid (by unfold pure9; rw [hx])
  clear hx
  cases x
  all_goals
    go_enter Tryd.func43, Tryd.ntmps43
    go_wp2_with fail
    refine (intervalOk_any _ _ _ _ _).mono ?_
    rintro e w1 ⟨rfl, hb⟩
    rw [HX.out]
    obtain ⟨hc, hf⟩ := bcellT hb
    have q3 : w1.cell? ⟨w.heap.size, 3, none⟩ = some (.int .i64 d) := by rw [hc _ _ (by simp)]; simp [go_sem]
    have kb : Below w.heap.size w w1 := (below_alloc1 w _).trans (hb.mono (by simp))
    clear hb hc hf
    go_wp2_with fail
    go_ret
    exact ⟨ret_boolT (by rw [PX.out]; simp), kb⟩
end Go.Proofs.YtfhefakacjkmiaaDoor
