/- Powers of powers, counted out for the exponents below 60, without any Go text. -/
import Derived.Test.YtpagmeekbdiaoaaBigMath
namespace Go.Proofs.Ytpagmeekbdiaoaa
/-- Four powers, each from the one before. -/
def powSt : Nat → Option (List Int) × Option (List Int) × Option (List Int) × Option (List Int)
  | 0 => (some [1], some [1], some [1], some [1])
  | k + 1 =>
    let s := powSt k
    let f (b : Int) (o : Option (List Int)) : Option (List Int) := match o with
      | none => none
      | some xs => if (timesB xs b).length ≤ 120 then some (timesB xs b) else none
    (f 4 s.1, f 2 (f 2 s.2.1), f 27 s.2.2.1, f 3 (f 3 (f 3 s.2.2.2)))
theorem powSt_eq : ∀ k, powSt k = (powB 4 k, powB 2 (2 * k), powB 27 k, powB 3 (3 * k))
  | 0 => rfl
  | k + 1 => by
    rw [show 2 * (k + 1) = 2 * k + 1 + 1 from by omega, show 3 * (k + 1) = 3 * k + 1 + 1 + 1 from by omega]
    unfold powSt
    rw [powSt_eq k]
    rfl
def chk (k : Nat) (s : Option (List Int) × Option (List Int) × Option (List Int) × Option (List Int)) : Bool :=
  match s with
  | (some a, some b, some c, some d) => (a == b) && (c == d) && (cmpB d b == (if 0 < k then 1 else 0))
  | _ => false
theorem chk_all : ∀ k, k < 60 → chk k (powSt k) = true := by decide +kernel
end Go.Proofs.Ytpagmeekbdiaoaa
