/- The family of a part is what the choices of twelve bits make of it, in their order (by the kernel). -/
import Derived.Test.YtfkimbpohlllkaaFamCode
namespace Go.Proofs.Ytfkimbpohlllkaa
open Go.RowKit Go.Joins
set_option linter.unusedVariables false
/-- The ones of a choice, and the family as the choices make it. -/
def popC (c : Nat) : Nat := (List.range 12).foldl (fun s i => s + c / 2 ^ i % 2) 0
def onesChk (c : Nat) : Bool := decide (onesF (c : Int) = (popC c : Int)) && decide (popC c ≤ 12)
theorem ones_chk : (List.range 4096).all onesChk = true := by decide +kernel
theorem ones_pop {c : Nat} (hc : c < 4096) : onesF (c : Int) = (popC c : Int) ∧ popC c ≤ 12 := by
  have h := List.all_eq_true.1 ones_chk c (List.mem_range.2 hc)
  unfold onesChk at h
  simp only [Bool.and_eq_true, decide_eq_true_eq] at h
  exact h
/-- Whether a choice is taken, and the circles of the first n choices. -/
def takenC (p : Int) (c : Nat) : Bool := (popC c : Int) * p == 12
def oneC (p : Int) (c : Nat) : List (List Int) := if takenC p c = true then [choL p c 12] else []
def chosR (p : Int) (a : Nat) : Nat → List (List Int)
  | 0 => []
  | n + 1 => chosR p a n ++ oneC p (a + n)
theorem chosR_add (p : Int) (a n : Nat) : ∀ m, chosR p a (n + m) = chosR p a n ++ chosR p (a + n) m
  | 0 => by simp [chosR]
  | m + 1 => by
    show chosR p a (n + m) ++ oneC p (a + (n + m)) = chosR p a n ++ (chosR p (a + n) m ++ oneC p (a + n + m))
    rw [chosR_add p a n m, List.append_assoc, Nat.add_assoc]
def chosB (p : Int) : Nat → Nat → List (List Int)
  | 0, c => oneC p c
  | k + 1, c => chosB p k (2 * c) ++ chosB p k (2 * c + 1)
theorem chosB_eq (p : Int) : ∀ k c, chosB p k c = chosR p (c * 2 ^ k) (2 ^ k)
  | 0, c => by simp [chosB, chosR]
  | k + 1, c => by
    unfold chosB
    rw [chosB_eq p k (2 * c), chosB_eq p k (2 * c + 1), Nat.pow_succ, show 2 ^ k * 2 = 2 ^ k + 2 ^ k from by omega, chosR_add]
    rw [show 2 * c * 2 ^ k = c * (2 ^ k + 2 ^ k) from by rw [Nat.mul_add, Nat.mul_comm 2 c, Nat.mul_assoc, Nat.two_mul, Nat.mul_add], show (2 * c + 1) * 2 ^ k = c * (2 ^ k + 2 ^ k) + 2 ^ k from by rw [Nat.add_mul, Nat.one_mul, Nat.mul_comm 2 c, Nat.mul_assoc, Nat.two_mul]]
def chosL (p : Int) (n : Nat) : List (List Int) := chosR p 0 n
theorem chos_fam (p : Int) (hp : FamOk p) : chosL p 4096 = famOf p := by
  have e : famOf p = famL p 12 [] 12 := by unfold famOf; rw [if_pos hp]
  have b := chosB_eq p 12 0
  unfold chosL
  rw [e, show (4096 : Nat) = 2 ^ 12 from rfl, ← Nat.zero_mul (2 ^ 12), ← b]
  clear e b
  rcases (famOk_iff p).1 hp with rfl | rfl | rfl | rfl | rfl <;> clear hp <;> decide +kernel
end Go.Proofs.Ytfkimbpohlllkaa
