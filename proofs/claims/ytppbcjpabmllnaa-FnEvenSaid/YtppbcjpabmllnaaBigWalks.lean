/- Contracts of spec.l01In, spec.BigOk and impl.BigOk, and the walk of laws.FnExactBigOk. -/
import Derived.Test.YtppbcjpabmllnaaIntRows
import Derived.Test.YtppbcjpabmllnaaBigMath
import Derived.Laws.AppendOwn
import Derived.Deep.RegionHeld3
namespace Go.Proofs.Ytppbcjpabmllnaa
open Go.RowKit
set_option linter.unusedVariables false
theorem in_any (n lo hi : Int) (w : World) : Calls Try.prog 37 #[.int .i64 n, .int .i64 lo, .int .i64 hi] w fun e w' => e = .returned (.bool (decide (lo ≤ n ∧ n ≤ hi))) ∧ w = w' := by
  by_cases h1 : lo ≤ n
  · by_cases h2 : n ≤ hi
    · have R := Lib.hid (And.intro h1 h2)
      go_enter Try.func37, Try.ntmps37
      go_wp2
      go_ret
      exact ⟨ret_bool (decide_eq_true R.out).symm, rfl⟩
    · have R := Lib.hid h2
      go_enter Try.func37, Try.ntmps37
      go_wp2
      go_ret
      exact ⟨ret_bool (decide_eq_false (fun h => by have := R.out; omega)).symm, rfl⟩
  · have R := Lib.hid h1
    go_enter Try.func37, Try.ntmps37
    go_wp2
    go_ret
    exact ⟨ret_bool (by have := R.out; simp; omega), rfl⟩
end Go.Proofs.Ytppbcjpabmllnaa
/- Contracts of spec.BigOf and impl.BigOf, and the walk of laws.FnExactBigOf. -/
namespace Go.Proofs.Ytppbcjpabmllnaa
open Go.RowKit
set_option linter.unusedVariables false
theorem own_zero_lit (w : World) (T : TypeId) : (w.alloc (.cells #[] T)).ownsRow w.heap.size T 1 (.slice (some ⟨w.heap.size, 0, none⟩) 0 0) ([] : List Int).length (intCs []) :=
  World.ownsRow_lit w #[] 0 (Nat.le_refl _) (by unfold maxLen; omega) rfl
theorem isnoc {w1 : World} {B : Nat} {e : TypeId} {v : Value} {l : List Int} {n : Nat} {y : Int} (hn : n = l.length) (h : w1.ownsRow B e 1 v (n + 1) (intCs l ++ #[Value.int .i64 y].toList)) : w1.ownsRow B e 1 v (l ++ [y]).length (intCs (l ++ [y])) := by
  subst hn
  rw [intCs_app, List.length_append]
  exact h
end Go.Proofs.Ytppbcjpabmllnaa
/- Contracts of impl's times and impl.TimesBig. -/
namespace Go.Proofs.Ytppbcjpabmllnaa
open Go.RowKit
set_option linter.unusedVariables false
theorem slice_own {w : World} {b : Nat} {e : TypeId} {v : Value} {n : Nat} {xs : List Value} (h : w.ownsRow b e 1 v n xs) : ∃ p c, v = .slice p n c := by
  rcases own_shape h with ⟨h, h'⟩ | ⟨g, cap, h, _⟩
  · exact ⟨_, _, by rw [h, h']⟩
  · exact ⟨_, _, h⟩
/-- Where a product stands: what is out, and what is still to come. -/
def MulTo (N : Int) (xs out : List Int) (k : Nat) (c : Int) : Prop := out.length = k ∧ 0 ≤ c ∧ c ≤ 1000 ∧ out ++ mulB N (xs.drop k) c = mulB N xs 0
theorem mulTo_zero (N : Int) (xs : List Int) : MulTo N xs [] 0 0 := ⟨rfl, by omega, by omega, rfl⟩
theorem mulTo_step {N : Int} {xs out : List Int} {k : Nat} {c x y : Int} (h : MulTo N xs out k c) (hk : k < xs.length) (hx : x = xs.getD k 0) (hy : x * N = y) (hy0 : 0 ≤ y) (hy1 : y ≤ 9999000) : MulTo N xs (out ++ [(y + c) % 10000]) (k + 1) ((y + c) / 10000) := by
  obtain ⟨h1, h2, h3, h4⟩ := h
  refine ⟨by simp [h1], by omega, by omega, ?_⟩
  have e : xs.drop k = x :: xs.drop (k + 1) := by rw [List.drop_eq_getElem_cons hk, hx]; simp [hk]
  rw [e, show mulB N (x :: xs.drop (k + 1)) c = (x * N + c) % 10000 :: mulB N (xs.drop (k + 1)) ((x * N + c) / 10000) from rfl, hy] at h4
  rw [List.append_assoc]
  exact h4
theorem mulTo_end {N : Int} {xs out : List Int} {c : Int} (h : MulTo N xs out xs.length c) : mulB N xs 0 = out ++ (if 0 < c then [c] else []) := by
  rw [← h.2.2.2, List.drop_length]; rfl
theorem mul_bdT {x N : Int} (h0 : 0 ≤ x) (h1 : x ≤ 9999) (n0 : 0 ≤ N) (n1 : N ≤ 1000) : 0 ≤ x * N ∧ x * N ≤ 9999000 :=
  ⟨Int.mul_nonneg h0 n0, by have := Int.mul_le_mul h1 n1 n0 (by omega); omega⟩
/-- Where a product by any factor stands. -/
def GTo (N : Int) (xs out : List Int) (k : Nat) (c : Int) : Prop := out.length = k ∧ 0 ≤ c ∧ c ≤ N ∧ out ++ mulG N (xs.drop k) c = mulG N xs 0
theorem gTo_zero (N : Int) (xs : List Int) (h : 1 ≤ N) : GTo N xs [] 0 0 := ⟨rfl, by omega, by omega, rfl⟩
theorem gTo_step {N : Int} {xs out : List Int} {k : Nat} {c x y : Int} (h : GTo N xs out k c) (hk : k < xs.length) (hx : x = xs.getD k 0) (hy : x * N = y) (hy0 : 0 ≤ y) (hy1 : y ≤ 9999 * N) : GTo N xs (out ++ [(y + c) % 10000]) (k + 1) ((y + c) / 10000) := by
  obtain ⟨h1, h2, h3, h4⟩ := h
  refine ⟨by simp [h1], by omega, by omega, ?_⟩
  have e : xs.drop k = x :: xs.drop (k + 1) := by rw [List.drop_eq_getElem_cons hk, hx]; simp [hk]
  rw [e, show mulG N (x :: xs.drop (k + 1)) c = (x * N + c) % 10000 :: mulG N (xs.drop (k + 1)) ((x * N + c) / 10000) from rfl, hy] at h4
  rw [List.append_assoc]
  exact h4
theorem gTo_end {N : Int} {xs out : List Int} {c : Int} (h : GTo N xs out xs.length c) : out ++ ofB c.toNat = mulG N xs 0 := by
  rw [← h.2.2.2, List.drop_length]; rfl
theorem mulG_len2 (n : Int) (h1 : 1 ≤ n) (h2 : n ≤ 1000000000000) : ∀ (xs : List Int) (c : Int), 0 ≤ c → c ≤ n → BdB xs → (mulG n xs c).length ≤ xs.length + 4
  | [], c, c0, c1, _ => by
    unfold mulG
    have := ofB_len 4 c.toNat (by omega)
    simp only [List.length_nil]
    omega
  | x :: xs, c, c0, c1, hx => by
    have x0 := bdB_head hx
    have xn0 : 0 ≤ x * n := Int.mul_nonneg x0.1 (by omega)
    have xn1 : x * n ≤ 9999 * n := Int.mul_le_mul_of_nonneg_right x0.2 (by omega)
    have := mulG_len2 n h1 h2 xs ((x * n + c) / 10000) (by omega) (by omega) (bdB_tail hx)
    unfold mulG
    simp only [List.length_cons]
    omega
theorem tail_step {out ys : List Int} {m : Nat} (h : out ++ ofB m = ys) (hm : 0 < m) : (out ++ [((m % 10000 : Nat) : Int)]) ++ ofB (m / 10000) = ys := by
  rw [← h, ofB_pos m (by omega), List.append_assoc]; rfl
theorem tail_end {out ys : List Int} (h : out ++ ofB 0 = ys) : out = ys := by rw [← h, ofB_zero, List.append_nil]
theorem tail_len {out ys : List Int} {m : Nat} (h : out ++ ofB m = ys) : out.length ≤ ys.length := by rw [← h]; simp
theorem ret_own {T : TypeId} {w w' : World} {v : Value} {xs ys : List Int} {b c : Bool} (hx : (ys, c) = (xs, b)) (h : w'.ownsRow w.heap.size T 1 v xs.length (intCs xs)) (hb : Below w.heap.size w w') : OwnPostB T ys c w (.returned (.tuple #[v, .bool b])) w' := by
  cases hx; exact ⟨v, rfl, h, hb⟩
theorem timesR_no {xs : List Int} {n : Int} (h : ¬ (OkB xs ∧ 0 ≤ n ∧ n ≤ 1000)) : TimesR xs n = ([], false) := by unfold TimesR; rw [if_neg h]
theorem timesR_long {xs : List Int} {n : Int} (h : ¬ (timesB xs n).length ≤ 120) : TimesR xs n = ([], false) := by unfold TimesR; rw [if_neg h]; split <;> rfl
theorem timesR_yes {xs : List Int} {n : Int} (h : OkB xs ∧ 0 ≤ n ∧ n ≤ 1000) (h' : (timesB xs n).length ≤ 120) : TimesR xs n = (timesB xs n, true) := by unfold TimesR; rw [if_pos h, if_pos h']
end Go.Proofs.Ytppbcjpabmllnaa
/- Contract of spec.TimesBig. -/
namespace Go.Proofs.Ytppbcjpabmllnaa
open Go.RowKit
set_option linter.unusedVariables false
theorem own_lower {w : World} {base base' : Nat} {e : TypeId} {v : Value} {n : Nat} {xs : List Value} (h : w.ownsRow base e 1 v n xs) (hb : base' ≤ base) : w.ownsRow base' e 1 v n xs := by
  obtain ⟨h1, h2⟩ := h
  refine ⟨h1, ?_⟩
  rcases h2 with h2 | ⟨g, cap, cur, hv, hg, r⟩
  · exact .inl h2
  · exact .inr ⟨g, cap, cur, hv, Nat.le_trans hb hg, r⟩
end Go.Proofs.Ytppbcjpabmllnaa
/- Contracts of impl.PowerBig and spec.PowerBig. -/
namespace Go.Proofs.Ytppbcjpabmllnaa
open Go.RowKit
set_option linter.unusedVariables false
theorem powR_no {b e : Int} (h : ¬ (1 ≤ b ∧ b ≤ 1000 ∧ 0 ≤ e ∧ e ≤ 2000)) : PowR b e = ([], false) := by unfold PowR; rw [if_neg h]
theorem powR_long {b : Int} {e k : Nat} (hk : k ≤ e) (h : powB b k = none) : PowR b e = ([], false) := by
  unfold PowR
  rw [Int.toNat_natCast, powB_none h e hk]
  split <;> rfl
theorem powR_yes {b : Int} {e : Nat} {xs : List Int} (h1 : 1 ≤ b) (h2 : b ≤ 1000) (h3 : e ≤ 2000) (h : powB b e = some xs) : PowR b e = (xs, true) := by
  unfold PowR
  rw [Int.toNat_natCast, h, if_pos (by omega)]
theorem powB_next {b : Int} {k : Nat} {xs : List Int} (h : powB b k = some xs) (hl : (timesB xs b).length ≤ 120) : powB b (k + 1) = some (timesB xs b) := by
  unfold powB; rw [h]; simp only; rw [if_pos hl]
theorem powB_over {b : Int} {k : Nat} {xs : List Int} (h : powB b k = some xs) (hl : ¬ (timesB xs b).length ≤ 120) : powB b (k + 1) = none := by
  unfold powB; rw [h]; simp only; rw [if_neg hl]
theorem one_lit (w : World) (T : TypeId) : (w.alloc (.cells #[.int .i64 1] T)).ownsRow w.heap.size T 1 (.slice (some ⟨w.heap.size, 0, none⟩) 1 1) ([1] : List Int).length (intCs [1]) :=
  World.ownsRow_lit w #[.int .i64 1] 1 (Nat.le_refl _) (by unfold maxLen; omega) rfl
theorem zero_lit2 (w : World) (o : Obj) (T : TypeId) : ((w.alloc o).alloc (.cells #[] T)).ownsRow w.heap.size T 1 (.slice (some ⟨w.heap.size + 1, 0, none⟩) 0 0) ([] : List Int).length (intCs []) := by
  have e : (w.alloc o).heap.size = w.heap.size + 1 := by simp
  have h := own_zero_lit (w.alloc o) T
  rw [e] at h
  exact own_lower h (by omega)
theorem powR_len (b e : Int) : (PowR b e).1.length ≤ 120 := by
  unfold PowR
  split
  · next h =>
    split
    · simp
    · next xs hx => exact (powB_ok h.1 h.2.1 _ xs hx).1
  · simp
end Go.Proofs.Ytppbcjpabmllnaa
/- Contracts of impl's timesPower and powersProduct: the groups of V * B^E; the groups of 2^t * 3^h * 5^f. -/
namespace Go.Proofs.Ytppbcjpabmllnaa
open Go.RowKit
set_option linter.unusedVariables false
/-- A row of ints at its own base, and what was below the base is unchanged. -/
def OwnAt (base : Nat) (xs : List Int) (w : World) (e : Ending) (w' : World) : Prop :=
  ∃ v, e = .returned v ∧ w'.ownsRow base 3 1 v xs.length (intCs xs) ∧ Below w.heap.size w w'
theorem pow_next (V B k j : Nat) : V * B ^ k * B ^ j = V * B ^ (k + j) := by rw [Nat.pow_add, Nat.mul_assoc]
theorem pow_one' (B : Nat) : B = B ^ 1 := by rw [Nat.pow_one]
theorem pow_ge1 (B j : Nat) (h : 1 ≤ B) : 1 ≤ B ^ j := Nat.pow_pos (by omega)
end Go.Proofs.Ytppbcjpabmllnaa
/- Contracts of impl.signOfInt, impl's compare, impl.CompareBig and spec.CompareBig. -/
namespace Go.Proofs.Ytppbcjpabmllnaa
open Go.RowKit
set_option linter.unusedVariables false
def clampJ (n lo hi : Int) : Int := if hi < lo ∨ n < lo then lo else if hi < n then hi else n
def sgnI (n : Int) : Int := if n < 0 then -1 else if 0 < n then 1 else 0
theorem slice_cmp {w : World} {b : Nat} {e : TypeId} {v : Value} {n : Nat} {xs : List Value} (h : w.ownsRow b e 1 v n xs) : ∃ p c, v = .slice p n c := by
  rcases own_shape h with ⟨h, h'⟩ | ⟨g, cap, h, _⟩
  · exact ⟨_, _, by rw [h, h']⟩
  · exact ⟨_, _, h⟩
end Go.Proofs.Ytppbcjpabmllnaa
