/- Chains of fifths from -12 to 12: in ascending order, their steps, and what the law asks of these. -/
import Derived.Test.YtdnlebijmiaclabDoorFifMath
import Derived.Test.YtdnlebijmiaclabDoorCntMath
import Derived.Test.YtdnlebijmiaclabDoorSameTone
import Derived.Test.YtdnlebijmiaclabDoorOctWalks
namespace Go.Proofs.YtdnlebijmiaclabDoor
open Go.RowKit Go.Joins
set_option linter.unusedVariables false
def full12 : List Int := [0, 12, (-5), 7, (-10), 2, (-3), 9, (-8), 4, (-1), 11, (-6), 6, (-11), 1, (-4), 8, (-9), 3, (-2), 10, (-7), 5, (-12)]
def chE (p q : Nat) : List Int := full12.filter (fun e => decide (-(p : Int) ≤ e ∧ e ≤ (q : Int)))
/-- The chain from p fifths down to q fifths up, in ascending order. -/
def chG (p q t : Nat) : Iv := if t < p + q + 1 then fifV ((chE p q).getD t 0) else chainF (-(p : Int)) t
def sI (p q t : Nat) : Nat := if t < p + q + 1 then ((chE p q).getD t 0 + p).toNat else t
def rI (p q u : Nat) : Nat := if u < p + q + 1 then (chE p q).idxOf ((u : Int) - p) else u
def allN (n : Nat) (f : Nat → Bool) : Bool := (List.range n).all f
theorem allN_of {n : Nat} {f : Nat → Bool} (h : allN n f = true) : ∀ i, i < n → f i = true := fun i hi => List.all_eq_true.1 h i (List.mem_range.2 hi)
def permChk (p q : Nat) : Bool := allN (p + q + 1) (fun t => decide (sI p q t < p + q + 1) && decide (rI p q t < p + q + 1) && (rI p q (sI p q t) == t) && (sI p q (rI p q t) == t) && decide (((sI p q t : Nat) : Int) - p = (chE p q).getD t 0) && allN t (fun s => decide (keyV (chG p q s) ≤ keyV (chG p q t))))
theorem perm_chk : ∀ p, p < 13 → ∀ q, q < 13 → permChk p q = true := by decide +kernel
theorem chain_is (p q : Nat) (hp : p < 13) (hq : q < 13) : MV 0 (p + q + 1) (chainF (-(p : Int))) (chG p q) ∧ AscF keyV 0 (p + q + 1) (chG p q) := by
  have h := perm_chk p hp q hq
  unfold permChk at h
  have k := fun i hi => allN_of h i hi
  simp only [Bool.and_eq_true, decide_eq_true_eq, beq_iff_eq] at k
  refine ⟨⟨sI p q, rI p q, fun t => ?_, fun t => ?_, fun t ht => ?_, fun t => ?_⟩, fun s t _ h2 h3 => ?_⟩
  · rcases Nat.lt_or_ge t (p + q + 1) with c | c
    · exact (k t c).1.1.1.2
    · unfold sI
      rw [if_neg (by omega)]
      unfold rI
      rw [if_neg (by omega)]
  · rcases Nat.lt_or_ge t (p + q + 1) with c | c
    · exact (k t c).1.1.2
    · unfold rI
      rw [if_neg (by omega)]
      unfold sI
      rw [if_neg (by omega)]
  · unfold sI
    rw [if_neg (by omega)]
  · unfold chG
    rcases Nat.lt_or_ge t (p + q + 1) with c | c
    · rw [if_pos c, ← (k t c).1.2]
      unfold chainF
      congr 1; omega
    · rw [if_neg (by omega)]
      unfold sI
      rw [if_neg (by omega)]
  · have := allN_of (k t h3).2 s h2
    simpa using this
/-- What follows element i: the next one, or the octave. -/
def nxG (p q i : Nat) : Iv := if i + 1 < p + q + 1 then chG p q (i + 1) else ⟨1, 0, 0, 1⟩
/-- Step i. -/
def stG (p q i : Nat) : Iv := (diffV (chG p q i) (nxG p q i)).1
/-- The sum of the first k steps; the greatest and the least of the first k and the first one. -/
def sumG (p q : Nat) : Nat → Iv
  | 0 => ⟨0, 0, 0, 1⟩
  | k + 1 => (addV (sumG p q k) (stG p q k)).1
def bigG (p q : Nat) : Nat → Iv
  | 0 => stG p q 0
  | k + 1 => if 0 < cmpV (stG p q k) (bigG p q k) then stG p q k else bigG p q k
def leastG (p q : Nat) : Nat → Iv
  | 0 => stG p q 0
  | k + 1 => if cmpV (stG p q k) (leastG p q k) < 0 then stG p q k else leastG p q k
def eqV (x y : Iv) : Bool := x.two == y.two && (x.three == y.three) && (x.five == y.five) && (x.root == y.root)
theorem eqV_iff {x y : Iv} : eqV x y = true ↔ x = y := by
  cases x; cases y; simp [eqV, and_assoc]
def stepChk (p q : Nat) : Bool := allN (p + q + 1) (fun i => (diffV (chG p q i) (nxG p q i)).2 && decide (0 < cmpV (stG p q i) ⟨0, 0, 0, 1⟩) && (addV (sumG p q i) (stG p q i)).2)
theorem step_chk : ∀ p, p < 13 → ∀ q, q < 13 → stepChk p q = true := by decide +kernel
def endChk (p q : Nat) : Bool := same8 (chG p q 0).two (chG p q 0).three (chG p q 0).five (chG p q 0).root 0 0 0 1 && eqV (sumG p q (p + q + 1)) ⟨1, 0, 0, 1⟩ && decide (1 ≤ cntV (rowL (p + q + 1) (stG p q)) ∧ cntV (rowL (p + q + 1) (stG p q)) ≤ 3)
theorem end_chk : ∀ p, p < 13 → ∀ q, q < 13 → endChk p q = true := by decide +kernel
def lastChk (p q : Nat) : Bool := allN (p + q + 1) (fun i => eqV (stG p q i) (bigG p q (p + q + 1)) || eqV (stG p q i) (leastG p q (p + q + 1)) || (eqV (addV (stG p q i) (leastG p q (p + q + 1))).1 (bigG p q (p + q + 1)) && (addV (stG p q i) (leastG p q (p + q + 1))).2))
theorem last_chk : ∀ p, p < 13 → ∀ q, q < 13 → lastChk p q = true := by decide +kernel
end Go.Proofs.YtdnlebijmiaclabDoor
