/- What laws.FnCircles calls in a round; laws.at with one answer in every world behind; five cells in two blocks. -/
import Derived.Test.YtjfeeppbbckneaaCirPitch
import Derived.Test.YtjfeeppbbckneaaDrawCir
import Derived.Test.YtjfeeppbbckneaaAtWalks
import Derived.Test.YtjfeeppbbckneaaTimesTone
import Derived.Test.YtjfeeppbbckneaaZedC
namespace Go.Proofs.Ytjfeeppbbckneaa
open Go.RowKit Go.Joins
set_option linter.unusedVariables false
/-- What the law's round calls. -/
structure CirSay (xs : List Int) (k : Nat) (a b c d e f g h p q r s a' b' c' d' : Int) : Prop where
  fif : FtAt xs k e f g h
  pit : PtAt xs k p q r s
  add : ∀ w, Calls Try.prog 15 #[ivV a b c d, ivV e f g h] w fun en w' => en = .returned (.tuple #[ivV a' b' c' d', .bool true]) ∧ Below w.heap.size w w'
  spc : ∀ w, Calls Try.prog 17 #[ivV a b c d, ivV p q r s] w fun en w' => en = .returned (.bool true) ∧ Below w.heap.size w w'
/-- The sum of the first k fifths. -/
def SumIs (xs : List Int) (k : Nat) (a b c d : Int) : Prop := a = (chV k (sumTo xs k)).two ∧ b = (chV k (sumTo xs k)).three ∧ c = (chV k (sumTo xs k)).five ∧ d = (chV k (sumTo xs k)).root
theorem cirSay_ex {xs : List Int} (h : CirOk xs) {k : Nat} (hk : k < 12) {a b c d : Int} (hs : SumIs xs k a b c d) : ∃ e f g h p q r s a' b' c' d', CirSay xs k a b c d e f g h p q r s a' b' c' d' ∧ SumIs xs (k + 1) a' b' c' d' := by
  obtain ⟨rfl, rfl, rfl, rfl⟩ := hs
  have hx := cir_part h hk
  have hc := pt_chOk h hk
  have hn := (cirOk_sum h (k := k + 1) (by omega)).2
  have e1 : sumTo xs (k + 1) = sumTo xs k + xs.getD k 0 := rfl
  have e2 : ((k : Int) + 1) = ((k + 1 : Nat) : Int) := by omega
  have ad := ch_add hc (by omega) hx.1 (by omega)
  rw [e2, ← e1] at ad
  refine ⟨(chV 1 (xs.getD k 0)).two, (chV 1 (xs.getD k 0)).three, (chV 1 (xs.getD k 0)).five, (chV 1 (xs.getD k 0)).root, (pitV k (sumTo xs k)).two, (pitV k (sumTo xs k)).three, (pitV k (sumTo xs k)).five, (pitV k (sumTo xs k)).root, _, _, _, _, ⟨?_, ?_, fun w => ?_, fun w => ?_⟩, rfl, rfl, rfl, rfl⟩
  · exact .inl ⟨⟨h, by omega, by omega⟩, ⟨by omega, by omega, hx.1, hx.2⟩, rfl, rfl, rfl, rfl⟩
  · exact .inl ⟨⟨h, by omega, by omega⟩, rfl, rfl, rfl, rfl⟩
  · have t := add_total (chV k (sumTo xs k)) (chV 1 (xs.getD k 0)) w
    rw [ad] at t
    exact t
  · have t := pc_impl (ch_within hc) (pit_within hc) w
    simpa using t
theorem sum_start (xs : List Int) : SumIs xs 0 0 0 0 1 := by
  have e : chV ((0 : Nat) : Int) (sumTo xs 0) = ⟨0, 0, 0, 1⟩ := eqV_eq ch_end.2
  exact ⟨(congrArg Iv.two e).symm, (congrArg Iv.three e).symm, (congrArg Iv.five e).symm, (congrArg Iv.root e).symm⟩
theorem sum_end {xs : List Int} (h : CirOk xs) {a b c d : Int} (hs : SumIs xs 12 a b c d) : a = 7 ∧ b = 0 ∧ c = 0 ∧ d = 1 := by
  obtain ⟨rfl, rfl, rfl, rfl⟩ := hs
  have e : chV ((12 : Nat) : Int) (sumTo xs 12) = ⟨7, 0, 0, 1⟩ := by rw [h.2.2]; exact eqV_eq ch_end.1
  exact ⟨congrArg Iv.two e, congrArg Iv.three e, congrArg Iv.five e, congrArg Iv.root e⟩
theorem ones_ok : CirOk onesL := by decide
theorem ones_sum : ∀ k, k < 12 → sumTo onesL k = (k : Int) := by decide
/-- The pitches of the equal circle have no power of three. -/
theorem ones_pit {k : Nat} (hk : k < 12) : ∃ p r s, PtAt onesL k p 0 r s := by
  refine ⟨_, _, _, .inl ⟨⟨ones_ok, by omega, by omega⟩, rfl, ?_, rfl, rfl⟩⟩
  have e : ((k : Int)).toNat = k := by omega
  rw [e, ones_sum k hk, pit_three (by omega) (by omega)]
end Go.Proofs.Ytjfeeppbbckneaa
