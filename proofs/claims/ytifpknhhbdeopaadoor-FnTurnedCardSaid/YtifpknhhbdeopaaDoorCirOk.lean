/- Contracts of impl.CircleOk, impl.sumOf, impl.isPart, impl.isKey and spec.CircleOk, spec.l12Has. -/
import Derived.Test.YtifpknhhbdeopaaDoorCirWalks
import Derived.Deep.DeepCutAuto
namespace Go.Proofs.YtifpknhhbdeopaaDoor
open Go.RowKit Go.Joins
set_option linter.unusedVariables false
/-- The sum of the first k parts. -/
def sumTo (xs : List Int) : Nat → Int
  | 0 => 0
  | k + 1 => sumTo xs k + xs.getD k 0
/-- CircleOk. -/
def CirOk (xs : List Int) : Prop := xs.length = 12 ∧ (∀ j, j < 12 → 0 ≤ xs.getD j 0 ∧ xs.getD j 0 ≤ 12) ∧ sumTo xs 12 = 12
instance (xs : List Int) : Decidable (CirOk xs) := by unfold CirOk; infer_instance
def cirB (xs : List Int) : Bool := decide (CirOk xs)
theorem sumTo_bd {xs : List Int} {n : Nat} (h : ∀ j, j < n → 0 ≤ xs.getD j 0 ∧ xs.getD j 0 ≤ 12) : ∀ k, k ≤ n → 0 ≤ sumTo xs k ∧ sumTo xs k ≤ 12 * k
  | 0, _ => by simp [sumTo]
  | k + 1, hk => by
    have e := sumTo_bd h k (by omega)
    have f := h k (by omega)
    unfold sumTo
    omega
theorem sumTo_mono {xs : List Int} {n : Nat} (h : ∀ j, j < n → 0 ≤ xs.getD j 0 ∧ xs.getD j 0 ≤ 12) {i : Nat} : ∀ d, i + d ≤ n → sumTo xs i ≤ sumTo xs (i + d)
  | 0, _ => Int.le_refl _
  | d + 1, hd => by
    have e := sumTo_mono (i := i) h d (by omega)
    have f := h (i + d) (by omega)
    show sumTo xs i ≤ sumTo xs (i + d) + xs.getD (i + d) 0
    omega
theorem cirOk_sum {xs : List Int} (h : CirOk xs) {k : Nat} (hk : k ≤ 12) : 0 ≤ sumTo xs k ∧ sumTo xs k ≤ 12 := by
  obtain ⟨_, h1, h2⟩ := h
  have e := sumTo_bd h1 k hk
  have f := sumTo_mono h1 (i := k) (12 - k) (by omega)
  rw [show k + (12 - k) = 12 from by omega] at f
  omega
theorem isPart_any (n : Int) (w : World) : Calls Tryd.prog 26 #[.int .i64 n] w fun e w' => e = .returned (.bool (decide (0 ≤ n ∧ n ≤ 12))) ∧ w = w' := by
  by_cases h1 : 0 ≤ n
  · by_cases h2 : n ≤ 12
    · have R := Lib.hid (And.intro h1 h2)
      go_enter Tryd.func26, Tryd.ntmps26
      go_wp2
      go_ret
      exact ⟨ret_boolT (decide_eq_true R.out).symm, rfl⟩
    · have R := Lib.hid h2
      go_enter Tryd.func26, Tryd.ntmps26
      go_wp2
      go_ret
      exact ⟨ret_boolT (decide_eq_false (fun h => by have := R.out; omega)).symm, rfl⟩
  · have R := Lib.hid h1
    go_enter Tryd.func26, Tryd.ntmps26
    go_wp2
    go_ret
    exact ⟨ret_boolT (by have := R.out; simp; omega), rfl⟩
theorem isKey_any (n : Int) (w : World) : Calls Tryd.prog 14 #[.int .i64 n] w fun e w' => e = .returned (.bool (decide (0 ≤ n ∧ n ≤ 11))) ∧ w = w' := by
  by_cases h1 : 0 ≤ n
  · by_cases h2 : n < 12
    · have R := Lib.hid (And.intro h1 (show n ≤ 11 from by omega))
      go_enter Tryd.func14, Tryd.ntmps14
      go_wp2
      go_ret
      exact ⟨ret_boolT (decide_eq_true R.out).symm, rfl⟩
    · have R := Lib.hid h2
      go_enter Tryd.func14, Tryd.ntmps14
      go_wp2
      go_ret
      exact ⟨ret_boolT (decide_eq_false (fun h => by have := R.out; omega)).symm, rfl⟩
  · have R := Lib.hid h1
    go_enter Tryd.func14, Tryd.ntmps14
    go_wp2
    go_ret
    exact ⟨ret_boolT (by have := R.out; simp; omega), rfl⟩
set_option maxHeartbeats 400000 in
theorem sumOf_any (w : World) (g cap n : Nat) (xs : List Int) (hn : n ≤ 12) (hp : ∀ j, j < n → 0 ≤ xs.getD j 0 ∧ xs.getD j 0 ≤ 12) (hc : ∀ j, j < n → w.cell? ⟨g, j, none⟩ = some (.int .i64 (xs.getD j 0))) :
    Calls Tryd.prog 27 #[.slice (some ⟨g, 0, none⟩) n cap] w fun e w' => e = .returned (.int .i64 (sumTo xs n)) ∧ w = w' := by
  have HC := Lib.hid hc
  have HP := Lib.hid hp
  clear hc hp
  go_enter Tryd.func27, Tryd.ntmps27
  go_wp2
  go_loopw [3, 8] (fun s i wr => ∃ (k : Nat) (S : Int), k ≤ n ∧ S = sumTo xs k ∧ i = .int .i64 k ∧ s = .int .i64 S ∧ wr = w) (fun _ i _ => n - (intOf i).toNat)
  case atStart => exact ⟨0, 0, Nat.zero_le _, rfl, rfl, rfl, rfl⟩
  case round =>
    obtain ⟨k, S, hk, hS, rfl, rfl, rfl⟩ := hrel
    have hb := sumTo_bd HP.out k hk
    rw [← hS] at hb
    have HS := Lib.hid hS
    clear hS
    by_cases hlt : k < n
    · have q1 := HC.out k hlt
      have q3 : (k : Int) < n := by omega
      have hx := HP.out k hlt
      obtain ⟨x, hxk⟩ : ∃ x, x = xs.getD k 0 := ⟨_, rfl⟩
      rw [← hxk] at q1 hx
      have HX := Lib.hid hxk
      clear hxk
      go_wp2_with fail
      go_roundw
      case rel => exact ⟨k + 1, S + x, by omega, by rw [HS.out, HX.out]; rfl, by go_num, by go_num, by trivial⟩
      case measure => simp [intOf]; omega
    · have q3 : ¬ (k : Int) < n := by omega
      obtain rfl : k = n := by omega
      go_wp2_with fail
      go_ret
      exact ⟨ret_int HS.out, by trivial⟩
set_option maxHeartbeats 400000 in
theorem cirOk_impl (w : World) (b : Nat) (e : TypeId) (v : Value) (xs : List Int) (hl : xs.length ≤ 2000000) (h : w.ownsRow b e 1 v xs.length (intCs xs)) :
    Calls Tryd.prog 13 #[cirV v] w fun en w' => en = .returned (.bool (cirB xs)) ∧ Below w.heap.size w w' := by
  obtain ⟨n, hn⟩ : ∃ n, n = xs.length := ⟨_, rfl⟩
  rw [← hn] at h hl
  by_cases h12 : n = 12
  · subst h12
    obtain ⟨g, cap, rfl, _, hg⟩ := own_pos h (by omega)
    have HC := Lib.hid (fun j (hj : j < 12) => ((below_alloc1 w (.cells #[.slice (some ⟨g, 0, none⟩) 12 cap] 26)).cell (p := ⟨g, j, none⟩) hg).trans (own_icell h j hj))
    obtain ⟨_, c0, _⟩ := one_alloc (w := w) (v := .slice (some ⟨g, 0, none⟩) 12 cap) (t := 26)
    have B0 := Lib.hid (below_alloc1 w (.cells #[.slice (some ⟨g, 0, none⟩) 12 cap] 26))
    have HN := Lib.hid hn
    clear h hn
    go_enter Tryd.func13, Tryd.ntmps13
    go_upto_region 1 with fail
    obtain ⟨W0, hW⟩ : ∃ W, W = w.alloc (.cells #[.slice (some ⟨g, 0, none⟩) 12 cap] 26) := ⟨_, rfl⟩
    rw [← hW] at HC c0 B0 ⊢
    clear hW
    go_wp2_with fail
    go_loopw [12] (fun i wr => ∃ k : Nat, k ≤ 12 ∧ Hid (∀ j, j < k → 0 ≤ xs.getD j 0 ∧ xs.getD j 0 ≤ 12) ∧ i = .int .i64 k ∧ wr = W0) (fun i _ => 12 - (intOf i).toNat)
    case atStart => exact ⟨0, Nat.zero_le _, Lib.hid (fun j hj => by omega), rfl, rfl⟩
    case round =>
      obtain ⟨k, hk, HA, rfl, rfl⟩ := hrel
      by_cases hlt : k < 12
      · have q1 := HC.out k hlt
        have q3 : (k : Int) < 12 := by omega
        obtain ⟨x, hxk⟩ : ∃ x, x = xs.getD k 0 := ⟨_, rfl⟩
        rw [← hxk] at q1
        have HX := Lib.hid hxk
        clear hxk
        by_cases hx : 0 ≤ x ∧ x ≤ 12
        · have C := isPart_any x
          rw [decide_eq_true hx] at C
          have HXB := Lib.hid hx
          clear hx
          go_wp2_with fail
          refine (C _).mono ?_
          rintro e1 w1 ⟨rfl, rfl⟩
          go_wp2_with fail
          go_roundw
          case rel => exact ⟨k + 1, by omega, Lib.hid (fun j hj => (show j < k ∨ j = k from by omega).elim (fun h => HA.out j h) (fun h => by rw [h, ← HX.out]; exact HXB.out)), by go_num, by trivial⟩
          case measure => simp [intOf]; omega
        · have C := isPart_any x
          rw [decide_eq_false hx] at C
          have HXB := Lib.hid hx
          clear hx
          go_wp2_with fail
          refine (C _).mono ?_
          rintro e1 w1 ⟨rfl, rfl⟩
          go_wp2_with fail
          go_ret
          exact ⟨ret_boolT (decide_eq_false (fun h => HXB.out (by rw [HX.out]; exact h.2.1 k hlt))).symm, B0.out⟩
      · have q3 : ¬ (k : Int) < 12 := by omega
        obtain rfl : k = 12 := by omega
        have C := sumOf_any wr g cap 12 xs (by omega) HA.out HC.out
        obtain ⟨S, hS⟩ : ∃ S, S = sumTo xs 12 := ⟨_, rfl⟩
        rw [← hS] at C
        have HS := Lib.hid hS
        clear hS
        by_cases hs : S = 12
        · have t1 : (S == 12) = true := by simp [hs]
          have HSB := Lib.hid hs
          clear hs
          go_wp2_with fail
          refine C.mono ?_
          rintro e1 w1 ⟨rfl, rfl⟩
          go_wp2_with fail
          go_ret
          exact ⟨ret_boolT (decide_eq_true (⟨HN.out.symm, HA.out, HS.out.symm.trans HSB.out⟩ : CirOk xs)).symm, B0.out⟩
        · have t1 : (S == 12) = false := by simp [hs]
          have HSB := Lib.hid hs
          clear hs
          go_wp2_with fail
          refine C.mono ?_
          rintro e1 w1 ⟨rfl, rfl⟩
          go_wp2_with fail
          go_ret
          exact ⟨ret_boolT (decide_eq_false (fun h => HSB.out (HS.out.trans h.2.2))).symm, B0.out⟩
  · obtain ⟨p, c, rfl⟩ := own_slice h
    have t0 : ((n : Int) != (12 : Int)) = true := by simp; omega
    have HR := Lib.hid h12
    have HN := Lib.hid hn
    clear h hn h12
    go_enter Tryd.func13, Tryd.ntmps13
    go_wp2
    go_ret
    exact ⟨ret_boolT (decide_eq_false (fun h => HR.out (HN.out.trans h.1))).symm, below_alloc1 w _⟩
set_option maxHeartbeats 400000 in
theorem cirOk_spec (w : World) (b : Nat) (e : TypeId) (v : Value) (xs : List Int) (hl : xs.length ≤ 2000000) (h : w.ownsRow b e 1 v xs.length (intCs xs)) :
    Calls Tryd.prog 24 #[cirV v] w fun en w' => en = .returned (.bool (cirB xs)) ∧ Below w.heap.size w w' := by
  obtain ⟨n, hn⟩ : ∃ n, n = xs.length := ⟨_, rfl⟩
  rw [← hn] at h hl
  obtain ⟨p, cap, rfl⟩ := own_slice h
  have HC := Lib.hid (fun j (hj : j < n) => show ∃ g, p = some ⟨g, 0, none⟩ ∧ (w.alloc (.cells #[.slice p n cap] 26)).cell? ⟨g, j, none⟩ = some (.int .i64 (xs.getD j 0)) from by
    obtain ⟨g, cap', e1, _, hg⟩ := own_pos h (by omega)
    simp only [Value.slice.injEq] at e1
    obtain ⟨rfl, _, rfl⟩ := e1
    exact ⟨g, rfl, ((below_alloc1 w (.cells #[.slice (some ⟨g, 0, none⟩) n cap] 26)).cell (p := ⟨g, j, none⟩) hg).trans (own_icell h j hj)⟩)
  obtain ⟨_, c0, _⟩ := one_alloc (w := w) (v := .slice p n cap) (t := 26)
  have B0 := Lib.hid (below_alloc1 w (.cells #[.slice p n cap] 26))
  have HN := Lib.hid hn
  clear h hn
  go_enter Tryd.func24, Tryd.ntmps24
  go_upto_region 1 with fail
  obtain ⟨W0, hW⟩ : ∃ W, W = w.alloc (.cells #[.slice p n cap] 26) := ⟨_, rfl⟩
  rw [← hW] at HC c0 B0 ⊢
  clear hW
  go_wp2_with fail
  go_loopw [3, 4] (fun s i wr => ∃ (k : Nat) (S : Int), k ≤ n ∧ Hid (∀ j, j < k → 0 ≤ xs.getD j 0 ∧ xs.getD j 0 ≤ 12) ∧ S = sumTo xs k ∧ s = .int .i64 S ∧ i = .int .i64 k ∧ wr = W0) (fun _ i _ => n - (intOf i).toNat)
  case atStart => exact ⟨0, 0, Nat.zero_le _, Lib.hid (fun j hj => by omega), rfl, rfl, rfl, rfl⟩
  case round =>
    obtain ⟨k, S, hk, HA, hS, rfl, rfl, rfl⟩ := hrel
    have hb := sumTo_bd HA.out k (Nat.le_refl _)
    rw [← hS] at hb
    have HS := Lib.hid hS
    clear hS
    by_cases hlt : k < n
    · obtain ⟨g, hp, q1⟩ := HC.out k hlt
      subst hp
      have q3 : (k : Int) < n := by omega
      obtain ⟨x, hxk⟩ : ∃ x, x = xs.getD k 0 := ⟨_, rfl⟩
      rw [← hxk] at q1
      have HX := Lib.hid hxk
      clear hxk
      by_cases hx : 0 ≤ x ∧ x ≤ 12
      · have C := inT_any x 0 12
        rw [decide_eq_true hx] at C
        have HXB := Lib.hid hx
        go_wp2_with fail
        refine (C _).mono ?_
        rintro e1 w1 ⟨rfl, rfl⟩
        go_wp2_with fail
        go_roundw
        case rel => exact ⟨k + 1, S + x, by omega, Lib.hid (fun j hj => (show j < k ∨ j = k from by omega).elim (fun h => HA.out j h) (fun h => by rw [h, ← HX.out]; exact HXB.out)), by rw [HS.out, HX.out]; rfl, by go_num, by go_num, by trivial⟩
        case measure => simp [intOf]; omega
      · have C := inT_any x 0 12
        rw [decide_eq_false hx] at C
        have HXB := Lib.hid hx
        clear hx
        go_wp2_with fail
        refine (C _).mono ?_
        rintro e1 w1 ⟨rfl, rfl⟩
        go_wp2_with fail
        go_ret
        exact ⟨ret_boolT (decide_eq_false (fun h => HXB.out (by rw [HX.out]; exact h.2.1 k (by have := h.1; have := HN.out; omega)))).symm, B0.out⟩
    · have q3 : ¬ (k : Int) < n := by omega
      obtain rfl : k = n := by omega
      by_cases h12 : k = 12
      · subst h12
        by_cases hs : S = 12
        · have t1 : (S == 12) = true := by simp [hs]
          have HSB := Lib.hid hs
          clear hs
          go_wp2_with fail
          go_ret
          exact ⟨ret_boolT (decide_eq_true (⟨HN.out.symm, HA.out, HS.out.symm.trans HSB.out⟩ : CirOk xs)).symm, B0.out⟩
        · have t1 : (S == 12) = false := by simp [hs]
          have HSB := Lib.hid hs
          clear hs
          go_wp2_with fail
          go_ret
          exact ⟨ret_boolT (decide_eq_false (fun h => HSB.out (HS.out.trans h.2.2))).symm, B0.out⟩
      · have t1 : ((k : Int) == (12 : Int)) = false := by simp; omega
        have HR := Lib.hid h12
        clear h12
        go_wp2_with fail
        go_ret
        exact ⟨ret_boolT (decide_eq_false (fun h => HR.out (HN.out.trans h.1))).symm, B0.out⟩
end Go.Proofs.YtifpknhhbdeopaaDoor
