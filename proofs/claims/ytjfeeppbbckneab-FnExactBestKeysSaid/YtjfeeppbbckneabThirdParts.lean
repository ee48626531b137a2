/- Sums of parts of a circle that go on behind the last one; thirds and their errors, by one table that the kernel decides. -/
import Derived.Test.YtjfeeppbbckneabCirFifth
namespace Go.Proofs.Ytjfeeppbbckneab
open Go.RowKit Go.Joins
set_option linter.unusedVariables false
/-- The sum of k parts from the place i on. -/
def cycTo (xs : List Int) (i : Nat) : Nat → Int
  | 0 => 0
  | k + 1 => cycTo xs i k + xs.getD ((i + k) % 12) 0
theorem cyc_zero (xs : List Int) : ∀ k, k ≤ 12 → cycTo xs 0 k = sumTo xs k
  | 0, _ => rfl
  | k + 1, h => by
    unfold cycTo sumTo
    rw [cyc_zero xs k (by omega), show (0 + k) % 12 = k from by omega]
/-- One place further: the first part is taken away, the one behind the last is added. -/
theorem cyc_shift (xs : List Int) (i : Nat) : ∀ k, cycTo xs (i + 1) k + xs.getD (i % 12) 0 = cycTo xs i (k + 1)
  | 0 => by simp [cycTo]
  | k + 1 => by
    have e := cyc_shift xs i k
    unfold cycTo
    rw [← e, show i + 1 + k = i + (k + 1) from by omega]
    omega
theorem cyc_all (xs : List Int) : ∀ i, cycTo xs i 12 = sumTo xs 12
  | 0 => cyc_zero xs 12 (by omega)
  | i + 1 => by
    have e : cycTo xs (i + 1) 12 + xs.getD (i % 12) 0 = cycTo xs i 13 := cyc_shift xs i 12
    have h : cycTo xs i 13 = cycTo xs i 12 + xs.getD ((i + 12) % 12) 0 := rfl
    rw [show (i + 12) % 12 = i % 12 from by omega, cyc_all xs i] at h
    omega
theorem cyc_mono {xs : List Int} (h : CirOk xs) (i : Nat) {k : Nat} : ∀ d, cycTo xs i k ≤ cycTo xs i (k + d)
  | 0 => Int.le_refl _
  | d + 1 => by
    have e := cyc_mono h i (k := k) d
    have f := cir_part h (j := (i + (k + d)) % 12) (by omega)
    show cycTo xs i k ≤ cycTo xs i (k + d) + xs.getD ((i + (k + d)) % 12) 0
    omega
/-- Of a valid circle no sum is greater than the whole. -/
theorem cyc_bd {xs : List Int} (h : CirOk xs) (i : Nat) {k : Nat} (hk : k ≤ 12) : 0 ≤ cycTo xs i k ∧ cycTo xs i k ≤ 12 := by
  have a := cyc_mono h i (k := 0) k
  have b := cyc_mono h i (k := k) (12 - k)
  rw [show k + (12 - k) = 12 from by omega, cyc_all, h.2.2] at b
  rw [Nat.zero_add] at a
  exact ⟨a, b⟩
/-- A third that is narrower by p parts, and by how much it is wider than the pure one. -/
def thV (p : Int) : Iv := simV ⟨19 * p - 72, 48 - 12 * p, 0, 12⟩
def erV (p : Int) : Iv := simV ⟨19 * p - 48, 48 - 12 * p, -12, 12⟩
def thiChk (p : Nat) : Bool :=
  (diffV ⟨2, 0, 0, 1⟩ (chV 4 p)).2 && eqV (diffV ⟨2, 0, 0, 1⟩ (chV 4 p)).1 (thV p) && okV (thV p) &&
  (diffV ⟨-2, 0, 1, 1⟩ (thV p)).2 && eqV (diffV ⟨-2, 0, 1, 1⟩ (thV p)).1 (erV p) && okV (erV p) &&
  (decide (0 < sgnV (erV p)) == decide (p < 12))
theorem thi_chk : ∀ p, p < 13 → thiChk p = true := by decide +kernel
theorem thi_all {p : Int} (h : 0 ≤ p ∧ p ≤ 12) : diffV ⟨2, 0, 0, 1⟩ (chV 4 p) = (thV p, true) ∧ okV (thV p) = true ∧ diffV ⟨-2, 0, 1, 1⟩ (thV p) = (erV p, true) ∧ okV (erV p) = true ∧ decide (0 < sgnV (erV p)) = decide (p < 12) := by
  obtain ⟨j, rfl⟩ : ∃ j : Nat, p = (j : Int) := ⟨p.toNat, by omega⟩
  have k := thi_chk j (by omega)
  unfold thiChk at k
  simp only [Bool.and_eq_true, beq_iff_eq] at k
  obtain ⟨⟨⟨⟨⟨⟨k1, k2⟩, k3⟩, k4⟩, k5⟩, k6⟩, k7⟩ := k
  refine ⟨Prod.ext (eqV_eq k2) k1, k3, Prod.ext (eqV_eq k5) k4, k6, ?_⟩
  rw [k7]
  exact decide_eq_decide.2 (by omega)
/-- What a sum of n parts answers. -/
def CycAt (n : Nat) (xs : List Int) (i y : Int) : Prop :=
  ((CirOk xs ∧ 0 ≤ i ∧ i ≤ 11) ∧ y = cycTo xs i.toNat n) ∨ ((cirB xs && decide (0 ≤ i ∧ i ≤ 11)) = false ∧ y = 0)
theorem cycAt_ex (n : Nat) (xs : List Int) (i : Int) : ∃ y, CycAt n xs i y := by
  rcases key_cases xs i with h | h
  · exact ⟨_, .inl ⟨h, rfl⟩⟩
  · exact ⟨_, .inr ⟨h, rfl⟩⟩
/-- What ThirdAt and ThirdError answer. -/
def ThAt (xs : List Int) (i p q r s : Int) : Prop :=
  ((CirOk xs ∧ 0 ≤ i ∧ i ≤ 11) ∧ p = (thV (cycTo xs i.toNat 4)).two ∧ q = (thV (cycTo xs i.toNat 4)).three ∧ r = (thV (cycTo xs i.toNat 4)).five ∧ s = (thV (cycTo xs i.toNat 4)).root) ∨
  ((cirB xs && decide (0 ≤ i ∧ i ≤ 11)) = false ∧ p = 0 ∧ q = 0 ∧ r = 0 ∧ s = 0)
theorem thAt_ex (xs : List Int) (i : Int) : ∃ p q r s, ThAt xs i p q r s := by
  rcases key_cases xs i with h | h
  · exact ⟨_, _, _, _, .inl ⟨h, rfl, rfl, rfl, rfl⟩⟩
  · exact ⟨_, _, _, _, .inr ⟨h, rfl, rfl, rfl, rfl⟩⟩
def ErAt (xs : List Int) (i p q r s : Int) : Prop :=
  ((CirOk xs ∧ 0 ≤ i ∧ i ≤ 11) ∧ p = (erV (cycTo xs i.toNat 4)).two ∧ q = (erV (cycTo xs i.toNat 4)).three ∧ r = (erV (cycTo xs i.toNat 4)).five ∧ s = (erV (cycTo xs i.toNat 4)).root) ∨
  ((cirB xs && decide (0 ≤ i ∧ i ≤ 11)) = false ∧ p = 0 ∧ q = 0 ∧ r = 0 ∧ s = 0)
theorem erAt_ex (xs : List Int) (i : Int) : ∃ p q r s, ErAt xs i p q r s := by
  rcases key_cases xs i with h | h
  · exact ⟨_, _, _, _, .inl ⟨h, rfl, rfl, rfl, rfl⟩⟩
  · exact ⟨_, _, _, _, .inr ⟨h, rfl, rfl, rfl, rfl⟩⟩
/-- The third and its error of one key together. -/
theorem er_of {xs : List Int} {i p q r s : Int} (h : ErAt xs i p q r s) : ∃ a b c d y, ThAt xs i a b c d ∧ diffV ⟨-2, 0, 1, 1⟩ ⟨a, b, c, d⟩ = (⟨p, q, r, s⟩, y) := by
  rcases h with ⟨hc, rfl, rfl, rfl, rfl⟩ | ⟨hb, rfl, rfl, rfl, rfl⟩
  · have k := (thi_all (cyc_bd hc.1 i.toNat (k := 4) (by omega))).2.2.1
    exact ⟨_, _, _, _, _, .inl ⟨hc, rfl, rfl, rfl, rfl⟩, k⟩
  · exact ⟨0, 0, 0, 0, false, .inr ⟨hb, rfl, rfl, rfl, rfl⟩, Prod.ext (eqV_eq (by decide +kernel)) (by decide +kernel)⟩
end Go.Proofs.Ytjfeeppbbckneab
/- Contracts of impl.partsFrom, spec.l13Sum, and of ThirdParts and SmallThirdParts, both sides. -/
namespace Go.Proofs.Ytjfeeppbbckneab
open Go.RowKit Go.Joins
set_option linter.unusedVariables false
set_option maxHeartbeats 1000000 in
theorem partsFrom_any {xs : List Int} (hc : CirOk xs) (i n : Nat) (hi : i < 12) (hn : n ≤ 12) (w : World) (g cap : Nat) (hg : g < w.heap.size) (hcl : ∀ j, j < 12 → w.cell? ⟨g, j, none⟩ = some (.int .i64 (xs.getD j 0))) :
    Calls Try.prog 45 #[cirV (.slice (some ⟨g, 0, none⟩) 12 cap), .int .i64 i, .int .i64 n] w fun e w' => e = .returned (.int .i64 (cycTo xs i n)) ∧ Below w.heap.size w w' := by
  have HC := Lib.hid (fun j (hj : j < 12) => ((below_alloc1 w (.cells #[.slice (some ⟨g, 0, none⟩) 12 cap] 26)).cell (p := ⟨g, j, none⟩) hg).trans (hcl j hj))
  obtain ⟨_, c0, _⟩ := one_alloc (w := w) (v := .slice (some ⟨g, 0, none⟩) 12 cap) (t := 26)
  have B0 := Lib.hid (below_alloc1 w (.cells #[.slice (some ⟨g, 0, none⟩) 12 cap] 26))
  have HK := Lib.hid hc
  clear hcl hc
  go_enter Try.func45, Try.ntmps45
  go_upto_region 1 with fail
  obtain ⟨W0, hW⟩ : ∃ W, W = w.alloc (.cells #[.slice (some ⟨g, 0, none⟩) 12 cap] 26) := ⟨_, rfl⟩
  rw [← hW] at HC c0 B0 ⊢
  clear hW
  go_wp2_with fail
  go_loopw [7, 10] (fun s k wr => ∃ (t : Nat) (S : Int), t ≤ n ∧ S = cycTo xs i t ∧ s = .int .i64 S ∧ k = .int .i64 t ∧ wr = W0) (fun _ k _ => n - (intOf k).toNat)
  case atStart => exact ⟨0, 0, Nat.zero_le _, rfl, rfl, rfl, rfl⟩
  case round =>
    obtain ⟨t, S, ht, hS, rfl, rfl, rfl⟩ := hrel
    have hb := cyc_bd HK.out i (k := t) (by omega)
    rw [← hS] at hb
    have HS := Lib.hid hS
    clear hS
    by_cases hlt : t < n
    · have q3 : (t : Int) < n := by omega
      obtain ⟨x, hx⟩ : ∃ x, x = xs.getD ((i + t) % 12) 0 := ⟨_, rfl⟩
      have q1 : wr.cell? ⟨g, (i + t) % 12, none⟩ = some (.int .i64 x) := (HC.out _ (by omega)).trans (by rw [hx])
      have HX := Lib.hid hx
      have hxb : 0 ≤ x ∧ x ≤ 12 := by rw [hx]; exact cir_part HK.out (by omega)
      have hl12 : (i + t) % 12 < 12 := by omega
      clear hx
      go_wp2_with fail
      go_roundw
      case rel => exact ⟨t + 1, S + x, by omega, by rw [HS.out, HX.out]; rfl, by go_num, by go_num, by trivial⟩
      case measure => simp [intOf]; omega
    · have q3 : ¬ (t : Int) < n := by omega
      obtain rfl : t = n := by omega
      go_wp2_with fail
      go_ret
      exact ⟨ret_int HS.out, B0.out⟩
set_option maxHeartbeats 1000000 in
theorem l13Sum_any {xs : List Int} (hc : CirOk xs) (i n : Nat) (hi : i < 12) (hn : n ≤ 12) (w : World) (g cap : Nat) (hg : g < w.heap.size) (hcl : ∀ j, j < 12 → w.cell? ⟨g, j, none⟩ = some (.int .i64 (xs.getD j 0))) :
    Calls Try.prog 49 #[cirV (.slice (some ⟨g, 0, none⟩) 12 cap), .int .i64 i, .int .i64 n] w fun e w' => e = .returned (.int .i64 (cycTo xs i n)) ∧ Below w.heap.size w w' := by
  have HC := Lib.hid (fun j (hj : j < 12) => ((below_alloc1 w (.cells #[.slice (some ⟨g, 0, none⟩) 12 cap] 26)).cell (p := ⟨g, j, none⟩) hg).trans (hcl j hj))
  obtain ⟨_, c0, _⟩ := one_alloc (w := w) (v := .slice (some ⟨g, 0, none⟩) 12 cap) (t := 26)
  have B0 := Lib.hid (below_alloc1 w (.cells #[.slice (some ⟨g, 0, none⟩) 12 cap] 26))
  have HK := Lib.hid hc
  clear hcl hc
  go_enter Try.func49, Try.ntmps49
  go_upto_region 1 with fail
  obtain ⟨W0, hW⟩ : ∃ W, W = w.alloc (.cells #[.slice (some ⟨g, 0, none⟩) 12 cap] 26) := ⟨_, rfl⟩
  rw [← hW] at HC c0 B0 ⊢
  clear hW
  go_wp2_with fail
  go_loopw [7, 8] (fun s k wr => ∃ (t : Nat) (S : Int), t ≤ n ∧ S = cycTo xs i t ∧ s = .int .i64 S ∧ k = .int .i64 t ∧ wr = W0) (fun _ k _ => n - (intOf k).toNat)
  case atStart => exact ⟨0, 0, Nat.zero_le _, rfl, rfl, rfl, rfl⟩
  case round =>
    obtain ⟨t, S, ht, hS, rfl, rfl, rfl⟩ := hrel
    have hb := cyc_bd HK.out i (k := t) (by omega)
    rw [← hS] at hb
    have HS := Lib.hid hS
    clear hS
    by_cases hlt : t < n
    · have q3 : (t : Int) < n := by omega
      obtain ⟨x, hx⟩ : ∃ x, x = xs.getD ((i + t) % 12) 0 := ⟨_, rfl⟩
      have q1 : wr.cell? ⟨g, (i + t) % 12, none⟩ = some (.int .i64 x) := (HC.out _ (by omega)).trans (by rw [hx])
      have HX := Lib.hid hx
      have hxb : 0 ≤ x ∧ x ≤ 12 := by rw [hx]; exact cir_part HK.out (by omega)
      have hl12 : (i + t) % 12 < 12 := by omega
      clear hx
      go_wp2_with fail
      go_roundw
      case rel => exact ⟨t + 1, S + x, by omega, by rw [HS.out, HX.out]; rfl, by go_num, by go_num, by trivial⟩
      case measure => simp [intOf]; omega
    · have q3 : ¬ (t : Int) < n := by omega
      obtain rfl : t = n := by omega
      go_wp2_with fail
      go_ret
      exact ⟨ret_int HS.out, B0.out⟩
set_option maxRecDepth 100000 in
set_option maxHeartbeats 2000000 in
theorem parts_impl {xs : List Int} {i y : Int} (hf : CycAt 4 xs i y) (w : World) (b : Nat) (e : TypeId) (v : Value) (hl : xs.length ≤ 2000000) (h : w.ownsRow b e 1 v xs.length (intCs xs)) :
    Calls Try.prog 14 #[cirV v, .int .i64 i] w fun en w' => en = .returned (.int .i64 y) ∧ Below w.heap.size w w' := by
  have CO := Lib.hid (cirOk_impl _ b e v xs hl (own_below h (below_alloc1 w (.cells #[v] 26))))
  have CK := Lib.hid (isKey_any i)
  rcases hf with ⟨⟨hc, hi⟩, hy⟩ | ⟨hb, rfl⟩
  · rw [show cirB xs = true from decide_eq_true hc] at CO
    rw [decide_eq_true hi] at CK
    obtain ⟨j, hj⟩ : ∃ j, j = i.toNat := ⟨_, rfl⟩
    rw [← hj] at hy
    have hi' : i = (j : Int) := by omega
    have hj12 : j < 12 := by omega
    subst hi'
    clear hj hi hl
    obtain ⟨g, cap, rfl, hg, _, _, hcl⟩ := cir_row h hc
    have HP := Lib.hid (fun w (hg : g < w.heap.size) hcl => partsFrom_any hc j 4 hj12 (by omega) w g cap hg hcl)
    rw [← hy] at HP
    have HC := Lib.hid hcl
    have HG := Lib.hid hg
    clear hy hcl h hc hg
    go_enter Try.func14, Try.ntmps14
    go_wp2_with fail
    refine CO.out.mono ?_
    rintro e1 w1 ⟨rfl, b1⟩
    obtain ⟨_, c0, _⟩ := one_keep b1 (one_alloc (w := w) (v := .slice (some ⟨g, 0, none⟩) 12 cap) (t := 26))
    have B1 := Lib.hid ((below_alloc1 w (.cells #[.slice (some ⟨g, 0, none⟩) 12 cap] 26)).trans (b1.mono (by simp)))
    clear b1
    go_wp2_with fail
    refine (CK.out _).mono ?_
    rintro e2 w2 ⟨rfl, rfl⟩
    go_wp2_with fail
    refine (HP.out _ (Nat.lt_of_lt_of_le HG.out B1.out.size) (fun t ht => (B1.out.cell (p := ⟨g, t, none⟩) HG.out).trans (HC.out t ht))).mono ?_
    rintro e3 w3 ⟨rfl, b3⟩
    have B3 := Lib.hid (B1.out.trans (b3.mono B1.out.size))
    clear c0 b3 B1
    go_wp2_with fail
    go_ret
    exact ⟨rfl, B3.out⟩
  · generalize cirB xs = y at CO hb
    generalize decide (0 ≤ i ∧ i ≤ 11) = z at CK hb
    obtain ⟨p0, c0, rfl⟩ := own_slice h
    clear h hl
    generalize xs.length = n at CO ⊢
    cases y
    · go_enter Try.func14, Try.ntmps14
      go_wp2_with fail
      refine CO.out.mono ?_
      rintro e1 w1 ⟨rfl, b1⟩
      have B1 := Lib.hid ((below_alloc1 w (.cells #[.slice p0 n c0] 26)).trans (b1.mono (by simp)))
      clear b1
      go_wp2_with fail
      go_ret
      exact ⟨rfl, B1.out⟩
    · simp only [Bool.true_and] at hb
      subst hb
      go_enter Try.func14, Try.ntmps14
      go_wp2_with fail
      refine CO.out.mono ?_
      rintro e1 w1 ⟨rfl, b1⟩
      have B1 := Lib.hid ((below_alloc1 w (.cells #[.slice p0 n c0] 26)).trans (b1.mono (by simp)))
      clear b1
      go_wp2_with fail
      refine (CK.out _).mono ?_
      rintro e2 w2 ⟨rfl, rfl⟩
      go_wp2_with fail
      go_ret
      exact ⟨rfl, B1.out⟩
end Go.Proofs.Ytjfeeppbbckneab
