/- Pitches as values: blocks of two ints; contracts of laws.toPitch, laws.eqPitch and of the model's functions. -/
import Derived.Deep.DeepCutAuto
import Derived.Deep.RegionWith
import Derived.Test.YtgoaofkbegfinaaToneWalks
import Derived.Test.YtgoaofkbegfinaaPitchMath
namespace Go.Proofs.Ytgoaofkbegfinaa
open Go.RowKit Go.Joins
set_option linter.unusedVariables false
abbrev pchV (n d : Int) : Value := .agg #[.int .i64 n, .int .i64 d]
/-- A block of two ints. -/
def Duo (m : Nat) (p q : Int) (w : World) : Prop := m < w.heap.size ∧ w.cell? ⟨m, 0, none⟩ = some (.int .i64 p) ∧ w.cell? ⟨m, 1, none⟩ = some (.int .i64 q)
theorem duo_alloc {w : World} {p q : Int} {t : TypeId} : Duo w.heap.size p q (w.alloc (.cells #[.int .i64 p, .int .i64 q] t)) := ⟨by simp, by simp [go_sem], by simp [go_sem]⟩
theorem duo_keep {W w : World} {m : Nat} {p q : Int} (hb : Below W.heap.size W w) (h : Duo m p q W) : Duo m p q w :=
  ⟨Nat.lt_of_lt_of_le h.1 hb.size, (hb.cell (p := ⟨m, 0, none⟩) h.1).trans h.2.1, (hb.cell (p := ⟨m, 1, none⟩) h.1).trans h.2.2⟩
theorem duo_set {w : World} {m : Nat} {p q p' q' : Int} (h : Duo m p q w) : Duo m p' q' ((w.setCell ⟨m, 0, none⟩ (.int .i64 p')).setCell ⟨m, 1, none⟩ (.int .i64 q')) := by
  obtain ⟨h0, h1, h2⟩ := h
  exact ⟨by simpa using h0, by simp [go_sem, h1], by simp [go_sem, h2]⟩
theorem duo_other {w : World} {n m : Nat} {p q : Int} {v0 v1 : Value} (hn : n ≠ m) (h : Duo n p q w) : Duo n p q ((w.setCell ⟨m, 0, none⟩ v0).setCell ⟨m, 1, none⟩ v1) := by
  obtain ⟨hm, z0, z1⟩ := h
  have k : ∀ i j : Nat, (⟨m, j, none⟩ : Addr) ≠ ⟨n, i, none⟩ := fun i j e => hn (by injection e with e1; exact e1.symm)
  have c : ∀ i, ((w.setCell ⟨m, 0, none⟩ v0).setCell ⟨m, 1, none⟩ v1).cell? ⟨n, i, none⟩ = w.cell? ⟨n, i, none⟩ := fun i => by
    rw [World.cell?_setCell_other _ _ _ _ (k i 1), World.cell?_setCell_other _ _ _ _ (k i 0)]
  exact ⟨by simpa using hm, (c 0).trans z0, (c 1).trans z1⟩
theorem duo_al {w : World} {m : Nat} {p q : Int} {o : Obj} (h : Duo m p q w) : Duo m p q (w.alloc o) := duo_keep ((Below.refl _ _).alloc (Nat.le_refl _) o) h
/-- .. that may be written. -/
def Zed2 (m : Nat) (w : World) : Prop := Duo m 0 0 w ∧ w.frozen? ⟨m, 0, none⟩ = false ∧ w.frozen? ⟨m, 1, none⟩ = false
theorem zed2_alloc {w : World} {t : TypeId} : Zed2 w.heap.size (w.alloc (.cells #[.int .i64 0, .int .i64 0] t)) := ⟨duo_alloc, by simp [go_sem], by simp [go_sem]⟩
theorem zed2_keep {W w : World} {m : Nat} (hb : Below W.heap.size W w) (h : Zed2 m W) : Zed2 m w :=
  ⟨duo_keep hb h.1, (hb.frozen (p := ⟨m, 0, none⟩) h.1.1).trans h.2.1, (hb.frozen (p := ⟨m, 1, none⟩) h.1.1).trans h.2.2⟩
/-- What is stored lies there. -/
theorem duo_store {w w1 : World} {m : Nat} {p q a b : Int} (hm : w.heap.size ≤ m) (hb : Below w.heap.size w w1) (h : Duo m a b w1) : ∃ X, (w1.setCell ⟨m, 0, none⟩ (.int .i64 p)).setCell ⟨m, 1, none⟩ (.int .i64 q) = X ∧ Duo m p q X ∧ Below w.heap.size w X :=
  ⟨_, rfl, duo_set h, (hb.setCell (p := ⟨m, 0, none⟩) hm _).setCell (p := ⟨m, 1, none⟩) hm _⟩
theorem toPitch_any (a b : Int) (w : World) :
    Calls Try.prog 16 #[pchV a b] w fun e w' => e = .returned (pchV a b) ∧ Below w.heap.size w w' := by
  go_enter Try.func16, Try.ntmps16
  go_wp2
  refine bodyPost_ret (v := pchV a b) (by simp [results, Try.results16, go_sem]) rfl ⟨rfl, ?_⟩
  exact below_alloc3 _ _ _ _
theorem eqPitch_same (a b : Int) (w : World) :
    Calls Try.prog 19 #[pchV a b, pchV a b] w fun e w' => e = .returned (.bool true) ∧ Below w.heap.size w w' := by
  go_enter Try.func19, Try.ntmps19
  go_wp2
  go_ret
  exact ⟨rfl, below_alloc2 _ _ _⟩
set_option maxHeartbeats 400000 in
theorem gcdL_spec (a b : Int) (w : World) (ha : 1 ≤ a) (ha' : a ≤ 1000000000000000000) (hb : 1 ≤ b) (hb' : b ≤ 1000000000000000000) :
    Calls Try.prog 30 #[.int .i64 a, .int .i64 b] w (QuietInt (gcdI a b) w) := by
  have h1 : -a ≤ a := by omega
  have h2 : -b ≤ b := by omega
  go_enter Try.func30, Try.ntmps30
  go_wp2_with fail
  go_loopw [0, 1] (fun s t wr => ∃ x y : Int, ∃ d : Nat, s = .int .i64 x ∧ t = .int .i64 y ∧ 0 ≤ x ∧ x ≤ 1000000000000000000 ∧ 0 ≤ y ∧ y ≤ 1000000000000000000 ∧ Hid (gcdI x y = gcdI a b) ∧ wr = w.drewN d) (fun _ t _ => (intOf t).natAbs)
  case atStart => exact ⟨a, b, 0, by go_num, by go_num, by omega, ha', by omega, hb', Lib.hid rfl, rfl⟩
  case round =>
    obtain ⟨x, y, d, rfl, rfl, hx, hx', hy, hy', HG, rfl⟩ := hrel
    by_cases h : y = 0
    · subst h
      have hg := HG.out
      rw [gcdI_zero] at hg
      have HH := Lib.hid hg
      clear hg
      go_wp2_with fail
      go_ret
      refine ⟨ret_int ?_, d, rfl⟩
      rw [← HH.out]
      clear HG HH
      omega
    · have hm := tmod_lt_abs x y h
      have hs := (gcdI_step x y).trans HG.out
      have hm0 : 0 ≤ x.tmod y := Int.tmod_nonneg _ hx
      rw [Int.tmod_eq_emod_of_nonneg hx] at hm hs hm0
      have HS := Lib.hid hs
      clear hs
      have hp : 0 < y := by omega
      go_wp2_with fail
      go_region
      go_wp2_with fail
      go_roundw
      case rel => exact ⟨y, x % y, d + 1, rfl, rfl, hy, hy', hm0, by omega, HS, rfl⟩
      case measure => simp only [intOf]; exact hm
theorem pkB_no1 {n d : Int} (h : ¬ (1 ≤ n ∧ n ≤ 1000000000)) : pkB n d = false := decide_eq_false (fun q => h q.1.1)
theorem pkB_no2 {n d : Int} (h : ¬ (1 ≤ d ∧ d ≤ 1000000000)) : pkB n d = false := decide_eq_false (fun q => h q.1.2)
theorem pkB_gcd {n d g : Int} (h1 : 1 ≤ n ∧ n ≤ 1000000000) (h2 : 1 ≤ d ∧ d ≤ 1000000000) (hg : g = gcdI n d) : pkB n d = (g == 1) := by
  subst hg
  by_cases q : gcdI n d = 1
  · rw [show pkB n d = true from decide_eq_true ⟨⟨h1, h2⟩, q⟩, q]; rfl
  · rw [show pkB n d = false from decide_eq_false (fun r => q r.2)]; exact (by simpa using q : (gcdI n d == 1) = false).symm
theorem below_drewN {B : Nat} {w w' : World} (h : Below B w w') (n : Nat) : Below B w (w'.drewN n) := ⟨h.os, h.tape, h.output, h.size, h.block⟩
set_option maxHeartbeats 400000 in
theorem pitchOk_spec (n d : Int) (w : World) : Calls Try.prog 15 #[pchV n d] w fun e w' => e = .returned (.bool (pkB n d)) ∧ Below w.heap.size w w' := by
  by_cases h1 : 1 ≤ n ∧ n ≤ 1000000000
  · have H1 := Lib.hid (decide_eq_true h1)
    by_cases h2 : 1 ≤ d ∧ d ≤ 1000000000
    · have H2 := Lib.hid (decide_eq_true h2)
      obtain ⟨g, hg⟩ : ∃ g, g = gcdI n d := ⟨_, rfl⟩
      have GC := Lib.hid (fun w => gcdL_spec n d w (by omega) (by omega) (by omega) (by omega))
      rw [← hg] at GC
      have R := Lib.hid (pkB_gcd h1 h2 hg)
      clear hg
      go_enter Try.func15, Try.ntmps15
      go_wp2_with fail
      refine (inT_any _ _ _ _).mono ?_
      rintro e w1 ⟨rfl, rfl⟩
      rw [H1.out]
      go_wp2_with fail
      refine (inT_any _ _ _ _).mono ?_
      rintro e w1 ⟨rfl, rfl⟩
      rw [H2.out]
      go_wp2_with fail
      refine (GC.out _).mono ?_
      rintro e w1 ⟨rfl, k, rfl⟩
      go_wp2_with fail
      go_ret
      exact ⟨ret_boolT R.out.symm, below_drewN (below_alloc1 _ _) _⟩
    · have H2 := Lib.hid (decide_eq_false h2)
      have R := Lib.hid (pkB_no2 (n := n) h2)
      clear h2
      go_enter Try.func15, Try.ntmps15
      go_wp2_with fail
      refine (inT_any _ _ _ _).mono ?_
      rintro e w1 ⟨rfl, rfl⟩
      rw [H1.out]
      go_wp2_with fail
      refine (inT_any _ _ _ _).mono ?_
      rintro e w1 ⟨rfl, rfl⟩
      rw [H2.out]
      go_wp2_with fail
      go_ret
      exact ⟨ret_boolT R.out.symm, below_alloc1 _ _⟩
  · have H1 := Lib.hid (decide_eq_false h1)
    have R := Lib.hid (pkB_no1 (d := d) h1)
    clear h1
    go_enter Try.func15, Try.ntmps15
    go_wp2_with fail
    refine (inT_any _ _ _ _).mono ?_
    rintro e w1 ⟨rfl, rfl⟩
    rw [H1.out]
    go_wp2_with fail
    go_ret
    exact ⟨ret_boolT R.out.symm, below_alloc1 _ _⟩
end Go.Proofs.Ytgoaofkbegfinaa
