/- Circles: a struct of one row of ints. Contracts of laws.szCircle, laws.toCircle, laws.eqCircle, laws.markCircle, laws.heldCircle. -/
import Derived.Test.YtppbcjpabmllnaaMarkOwn
import Derived.Test.YtppbcjpabmllnaaToneWalks
import Derived.OpenShut
import Derived.Lib.SmallJoins
import Derived.Deep.DeepCutAuto
namespace Go.Proofs.Ytppbcjpabmllnaa
open Go.RowKit Go.Joins Go.WideShapes Go.ChangeShapes Go.ChangeAt
set_option linter.unusedVariables false
/-- The value of a circle. -/
abbrev cirV (v : Value) : Value := .agg #[v]
/-- One value lies at block m, and it may be written. -/
def One (m : Nat) (v : Value) (w : World) : Prop := m < w.heap.size ∧ w.cell? ⟨m, 0, none⟩ = some v ∧ ∀ o, w.frozen? ⟨m, o, none⟩ = false
theorem one_alloc {w : World} {v : Value} {t : TypeId} : One w.heap.size v (w.alloc (.cells #[v] t)) := ⟨by simp, by simp [go_sem], fun o => by simp [go_sem]⟩
theorem one_keep {W w : World} {m : Nat} {v : Value} (hb : Below W.heap.size W w) (h : One m v W) : One m v w :=
  ⟨Nat.lt_of_lt_of_le h.1 hb.size, (hb.cell h.1).trans h.2.1, fun o => (hb.frozen h.1).trans (h.2.2 o)⟩
theorem one_al {w : World} {m : Nat} {v : Value} {o : Obj} (h : One m v w) : One m v (w.alloc o) := one_keep ((Below.refl _ _).alloc (Nat.le_refl _) o) h
theorem one_set {w : World} {m : Nat} {v u : Value} (h : One m v w) : One m u (w.setCell ⟨m, 0, none⟩ u) :=
  ⟨by simpa using h.1, by simp [go_sem, h.2.1], fun o => by simp [go_sem, h.2.2]⟩
theorem one_oth {w : World} {n m j : Nat} {v u : Value} (hn : n ≠ m) (h : One m v w) : One m v (w.setCell ⟨n, j, none⟩ u) :=
  ⟨by simpa using h.1, (World.cell?_setCell_other _ _ _ _ (fun e => hn (by injection e))).trans h.2.1, fun o => by simp [go_sem, h.2.2]⟩
theorem own_base {w : World} {b b' : Nat} {e : TypeId} {size : Nat} {v : Value} {n : Nat} {xs : List Value} (h : w.ownsRow b' e size v n xs) (hb : b ≤ b') : w.ownsRow b e size v n xs := by
  refine ⟨h.1, ?_⟩
  rcases h.2 with h1 | ⟨g, cap, cur, h1, h2, h3⟩
  · exact .inl h1
  · exact .inr ⟨g, cap, cur, h1, Nat.le_trans hb h2, h3⟩
theorem own_slice {w : World} {base : Nat} {e : TypeId} {v : Value} {n : Nat} {xs : List Value} (h : w.ownsRow base e 1 v n xs) : ∃ p c, v = .slice p n c := by
  rcases own_shape h with ⟨h, h'⟩ | ⟨g, cap, h, _⟩
  · exact ⟨_, _, by rw [h, h']⟩
  · exact ⟨_, _, h⟩
theorem grown_row {w w' : World} (h : Below w.heap.size w w') (r : Option Nat) : w.grownBy w' r := ⟨h.os, h.tape, h.output, h.size, fun k hk _ => h.block k hk⟩
section
variable {H : Type} {enc : TypeId × Value → H} {P : Program} {w : World} {base : Nat} {held : Bool}
/-- A struct of one slice of ints, by value, opened. -/
theorem open_cir {r : Reach} {b0 : Nat} {t e i : TypeId} {f0 : Field} {v : Value} {d : DataW H} {p : List MemPlace} (hs : P.underlying t = some (.struct #[f0])) (ht : P.underlying e = some (.slice i)) (hi : P.underlying i = some (.int .i64)) (h1 : f0.type = e) (h2 : f0.offset = 0) (h3 : P.cellsOf e = 1) (hci : P.cellsOf i = 1) (hC : P.cellsOf t = 1)
    (hv : Value.okWide P w r b0 t v) (h : DataW.Trod enc P w base (fun _ => true) held t v d p) :
    ∃ a len cap zs, v = .agg #[.slice a len cap] ∧ IsRow .i64 w a len cap zs := by
  obtain ⟨cs, rfl, hsz⟩ := okWide_struct hs hv
  obtain ⟨c0, rfl⟩ : ∃ c0, cs = #[c0] := by
    have hz := hsz.trans hC
    obtain ⟨l⟩ := cs
    match l, hz with
    | [c0], _ => exact ⟨c0, rfl⟩
  obtain ⟨fuel, hf'⟩ := h
  obtain ⟨xs, n, _, _, hl, hlen, hg⟩ := DataW.trod_struct hs hf'
  match xs, hlen with
  | [y0], _ =>
    have k0 := hg 0 f0 rfl
    rw [h1, h2, h3] at k0
    have k1 : DataW.trod enc P w base (fun _ => true) held n e [c0] = some y0 := by simpa [Value.cells] using k0
    obtain ⟨a, len, cap, hcs⟩ := slice_form ht k1
    simp only [List.cons.injEq, and_true] at hcs
    subst hcs
    rcases open_ints ht hi hci k1 with ⟨hcs, _⟩ | ⟨x, l, c, zs, hcs, _, hl, hm, hz, _, hcell, hwz⟩
    · simp at hcs; obtain ⟨rfl, rfl, rfl⟩ := hcs; exact ⟨none, 0, 0, [], rfl, .inl ⟨rfl, rfl, rfl, rfl⟩⟩
    · simp at hcs; obtain ⟨rfl, rfl, rfl⟩ := hcs; exact ⟨_, _, _, zs, rfl, .inr ⟨_, rfl, hl, hm, by simpa using hz, hcell, hwz⟩⟩
end
/-- What a function that makes a circle leaves. -/
def CirPost (xs : List Int) (w : World) (e : Ending) (w' : World) : Prop :=
  ∃ v, e = .returned (cirV v) ∧ w'.ownsRow w.heap.size 3 1 v xs.length (intCs xs) ∧ Below w.heap.size w w'
end Go.Proofs.Ytppbcjpabmllnaa
/- Contracts of impl.CircleOk, impl.sumOf, impl.isPart, impl.isKey and spec.CircleOk, spec.l12Has. -/
namespace Go.Proofs.Ytppbcjpabmllnaa
open Go.RowKit Go.Joins
set_option linter.unusedVariables false
/-- The sum of the first k parts. -/
def sumTo (xs : List Int) : Nat → Int
  | 0 => 0
  | k + 1 => sumTo xs k + xs.getD k 0
/-- CircleOk. -/
def CirOk (xs : List Int) : Prop := xs.length = 12 ∧ (∀ j, j < 12 → 0 ≤ xs.getD j 0 ∧ xs.getD j 0 ≤ 12) ∧ sumTo xs 12 = 12
instance (xs : List Int) : Decidable (CirOk xs) := by unfold CirOk; infer_instance
def cirB (xs : List Int) : Bool := decide (CirOk xs)
theorem sumTo_bd {xs : List Int} {n : Nat} (h : ∀ j, j < n → 0 ≤ xs.getD j 0 ∧ xs.getD j 0 ≤ 12) : ∀ k, k ≤ n → 0 ≤ sumTo xs k ∧ sumTo xs k ≤ 12 * k
  | 0, _ => by simp [sumTo]
  | k + 1, hk => by
    have e := sumTo_bd h k (by omega)
    have f := h k (by omega)
    unfold sumTo
    omega
theorem sumTo_mono {xs : List Int} {n : Nat} (h : ∀ j, j < n → 0 ≤ xs.getD j 0 ∧ xs.getD j 0 ≤ 12) {i : Nat} : ∀ d, i + d ≤ n → sumTo xs i ≤ sumTo xs (i + d)
  | 0, _ => Int.le_refl _
  | d + 1, hd => by
    have e := sumTo_mono (i := i) h d (by omega)
    have f := h (i + d) (by omega)
    show sumTo xs i ≤ sumTo xs (i + d) + xs.getD (i + d) 0
    omega
theorem cirOk_sum {xs : List Int} (h : CirOk xs) {k : Nat} (hk : k ≤ 12) : 0 ≤ sumTo xs k ∧ sumTo xs k ≤ 12 := by
  obtain ⟨_, h1, h2⟩ := h
  have e := sumTo_bd h1 k hk
  have f := sumTo_mono h1 (i := k) (12 - k) (by omega)
  rw [show k + (12 - k) = 12 from by omega] at f
  omega
/-- The first n numbers lie in a range. -/
def InTo (xs : List Int) (lo hi : Int) (n : Nat) : Prop := ∀ j, j < n → lo ≤ xs.getD j 0 ∧ xs.getD j 0 ≤ hi
instance (xs : List Int) (lo hi : Int) (n : Nat) : Decidable (InTo xs lo hi n) := by unfold InTo; infer_instance
set_option maxHeartbeats 400000 in
theorem areWithin_any (w : World) (g cap n : Nat) (xs : List Int) (lo hi : Int) (hn : n ≤ 2000000) (hc : ∀ j, j < n → w.cell? ⟨g, j, none⟩ = some (.int .i64 (xs.getD j 0))) :
    Calls Try.prog 46 #[.slice (some ⟨g, 0, none⟩) n cap, .int .i64 lo, .int .i64 hi] w fun e w' => e = .returned (.bool (decide (InTo xs lo hi n))) ∧ w = w' := by
  have HC := Lib.hid hc
  clear hc
  obtain ⟨y, hy⟩ : ∃ y, y = decide (InTo xs lo hi n) := ⟨_, rfl⟩
  rw [← hy]
  have HY := Lib.hid hy
  clear hy
  go_enter Try.func46, Try.ntmps46
  go_wp2
  go_loopw [11] (fun i wr => ∃ k : Nat, k ≤ n ∧ Hid (InTo xs lo hi k) ∧ i = .int .i64 k ∧ wr = w) (fun i _ => n - (intOf i).toNat)
  case atStart => exact ⟨0, Nat.zero_le _, Lib.hid (fun j hj => by omega), rfl, rfl⟩
  case round =>
    obtain ⟨k, hk, HA, rfl, hwr⟩ := hrel
    have hwr2 := hwr.symm
    clear hwr
    subst hwr2
    by_cases hlt : k < n
    · have q1 := HC.out k hlt
      have q3 : (k : Int) < n := by omega
      obtain ⟨x, hxk⟩ : ∃ x, x = xs.getD k 0 := ⟨_, rfl⟩
      rw [← hxk] at q1
      have HX := Lib.hid hxk
      have HLT := Lib.hid hlt
      clear hxk hlt
      by_cases t1 : x < lo
      · have R := Lib.hid (show y = false from by rw [HY.out]; exact decide_eq_false (fun q => by have := (q k HLT.out).1; rw [← HX.out] at this; omega))
        go_wp2_with fail
        go_ret
        exact ⟨ret_bool R.out.symm, by trivial⟩
      · by_cases t2 : hi < x
        · have R := Lib.hid (show y = false from by rw [HY.out]; exact decide_eq_false (fun q => by have := (q k HLT.out).2; rw [← HX.out] at this; omega))
          go_wp2_with fail
          go_ret
          exact ⟨ret_bool R.out.symm, by trivial⟩
        · have HI := Lib.hid (show lo ≤ x ∧ x ≤ hi from by omega)
          go_wp2_with fail
          go_roundw
          case rel => exact ⟨k + 1, HLT.out, Lib.hid (fun j hj => (show j < k ∨ j = k from by omega).elim (HA.out j) (fun h => by rw [h, ← HX.out]; exact HI.out)), by go_num, by trivial⟩
          case measure => simp [intOf]; omega
    · have q3 : ¬ (k : Int) < n := by omega
      obtain rfl : k = n := by omega
      have R := Lib.hid (show y = true from by rw [HY.out]; exact decide_eq_true HA.out)
      go_wp2_with fail
      go_ret
      exact ⟨ret_bool R.out.symm, by trivial⟩
theorem sumTo_wide {xs : List Int} {n : Nat} (h : ∀ j, j < n → -1000 ≤ xs.getD j 0 ∧ xs.getD j 0 ≤ 1000) : ∀ k, k ≤ n → -1000 * k ≤ sumTo xs k ∧ sumTo xs k ≤ 1000 * k
  | 0, _ => by simp [sumTo]
  | k + 1, hk => by
    have a := sumTo_wide h k (by omega)
    have b := h k (by omega)
    unfold sumTo
    omega
set_option maxHeartbeats 400000 in
theorem sumOf_wide (w : World) (g cap n : Nat) (xs : List Int) (hn : n ≤ 12) (hp : ∀ j, j < n → -1000 ≤ xs.getD j 0 ∧ xs.getD j 0 ≤ 1000) (hc : ∀ j, j < n → w.cell? ⟨g, j, none⟩ = some (.int .i64 (xs.getD j 0))) :
    Calls Try.prog 32 #[.slice (some ⟨g, 0, none⟩) n cap] w fun e w' => e = .returned (.int .i64 (sumTo xs n)) ∧ w = w' := by
  have HC := Lib.hid hc
  have HP := Lib.hid hp
  clear hc hp
  go_enter Try.func32, Try.ntmps32
  go_wp2
  go_loopw [3, 8] (fun s i wr => ∃ (k : Nat) (S : Int), k ≤ n ∧ S = sumTo xs k ∧ i = .int .i64 k ∧ s = .int .i64 S ∧ wr = w) (fun _ i _ => n - (intOf i).toNat)
  case atStart => exact ⟨0, 0, Nat.zero_le _, rfl, rfl, rfl, rfl⟩
  case round =>
    obtain ⟨k, S, hk, hS, rfl, rfl, rfl⟩ := hrel
    have hb := sumTo_wide HP.out k hk
    rw [← hS] at hb
    have HS := Lib.hid hS
    clear hS
    by_cases hlt : k < n
    · have q1 := HC.out k hlt
      have q3 : (k : Int) < n := by omega
      have hx := HP.out k hlt
      obtain ⟨x, hxk⟩ : ∃ x, x = xs.getD k 0 := ⟨_, rfl⟩
      rw [← hxk] at q1 hx
      have HX := Lib.hid hxk
      clear hxk
      go_wp2_with fail
      go_roundw
      case rel => exact ⟨k + 1, S + x, by omega, by rw [HS.out, HX.out]; rfl, by go_num, by go_num, by trivial⟩
      case measure => simp [intOf]; omega
    · have q3 : ¬ (k : Int) < n := by omega
      obtain rfl : k = n := by omega
      go_wp2_with fail
      go_ret
      exact ⟨ret_int HS.out, by trivial⟩
theorem sumOf_any (w : World) (g cap n : Nat) (xs : List Int) (hn : n ≤ 12) (hp : ∀ j, j < n → 0 ≤ xs.getD j 0 ∧ xs.getD j 0 ≤ 12) (hc : ∀ j, j < n → w.cell? ⟨g, j, none⟩ = some (.int .i64 (xs.getD j 0))) :
    Calls Try.prog 32 #[.slice (some ⟨g, 0, none⟩) n cap] w fun e w' => e = .returned (.int .i64 (sumTo xs n)) ∧ w = w' :=
  sumOf_wide w g cap n xs hn (fun j hj => by have := hp j hj; omega) hc
end Go.Proofs.Ytppbcjpabmllnaa
