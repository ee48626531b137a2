/- Four fifths and two octaves down, step by step, by one table that the kernel decides; what laws.FnThirds calls. -/
import Derived.Test.YtohfepcdgbgojabDoorWideThird
import Derived.Test.YtohfepcdgbgojabDoorTimesTone
namespace Go.Proofs.YtohfepcdgbgojabDoor
open Go.RowKit Go.Joins
set_option linter.unusedVariables false
/-- f fifths, narrower by n twelfths of the comma, without two octaves. -/
def trV (f n : Int) : Iv := simV ⟨19 * n - 12 * f - 24, 12 * f - 12 * n, 0, 12⟩
def trChk (f n q : Nat) : Bool := (addV (trV f n) (chV 1 q)).2 && eqV (addV (trV f n) (chV 1 q)).1 (trV (f + 1) (n + q))
theorem tr_chk : ∀ f, f < 4 → ∀ n, n < 13 → ∀ q, q < 13 → n + q ≤ 12 → trChk f n q = true := by decide +kernel
def trEnd (n : Nat) : Bool := eqV (trV 4 n) (thV n) && (addV (thV n) ⟨2, 0, -1, 1⟩).2 && eqV (addV (thV n) ⟨2, 0, -1, 1⟩).1 (erV n)
theorem tr_end : ∀ n, n < 13 → trEnd n = true := by decide +kernel
theorem tr_start : eqV (trV 0 0) ⟨-2, 0, 0, 1⟩ = true := by decide +kernel
theorem tr_add {f : Nat} {n q : Int} (hf : f < 4) (hn : 0 ≤ n) (hq : 0 ≤ q) (h : n + q ≤ 12) : addV (trV f n) (chV 1 q) = (trV ((f : Int) + 1) (n + q), true) := by
  obtain ⟨j, rfl⟩ : ∃ j : Nat, n = (j : Int) := ⟨n.toNat, by omega⟩
  obtain ⟨l, rfl⟩ : ∃ l : Nat, q = (l : Int) := ⟨q.toNat, by omega⟩
  have k := tr_chk f hf j (by omega) l (by omega) (by omega)
  unfold trChk at k
  simp only [Bool.and_eq_true] at k
  exact Prod.ext (eqV_eq k.2) k.1
theorem tr_last {n : Int} (h : 0 ≤ n ∧ n ≤ 12) : trV 4 n = thV n ∧ addV (thV n) ⟨2, 0, -1, 1⟩ = (erV n, true) := by
  obtain ⟨j, rfl⟩ : ∃ j : Nat, n = (j : Int) := ⟨n.toNat, by omega⟩
  have k := tr_end j (by omega)
  unfold trEnd at k
  simp only [Bool.and_eq_true] at k
  exact ⟨eqV_eq k.1.1, Prod.ext (eqV_eq k.2) k.1.2⟩
/-- The sum of the first k fifths above the key r. -/
def SumT (xs : List Int) (r k : Nat) (a b c d : Int) : Prop := a = (trV k (cycTo xs r k)).two ∧ b = (trV k (cycTo xs r k)).three ∧ c = (trV k (cycTo xs r k)).five ∧ d = (trV k (cycTo xs r k)).root
theorem sumT_start (xs : List Int) (r : Nat) : SumT xs r 0 (-2) 0 0 1 := by
  have e : trV ((0 : Nat) : Int) (cycTo xs r 0) = ⟨-2, 0, 0, 1⟩ := eqV_eq tr_start
  exact ⟨(congrArg Iv.two e).symm, (congrArg Iv.three e).symm, (congrArg Iv.five e).symm, (congrArg Iv.root e).symm⟩
/-- What a round calls: FifthAt and AddIntervals. -/
def FifAt (W : World) (v : Value) (i e f g h : Int) : Prop := ∀ X, Below W.heap.size W X → Calls Tryd.prog 16 #[cirV v, .int .i64 i] X fun en w' => en = .returned (ivV e f g h) ∧ Below X.heap.size X w'
theorem fif_run {W : World} {v : Value} {i e f g h : Int} (H : FifAt W v i e f g h) (X : World) (hX : Below W.heap.size W X) : Calls Tryd.prog 16 #[cirV v, .int .i64 i] X fun en w' => en = .returned (ivV e f g h) ∧ Below X.heap.size X w' := H X hX
def AddTo (a b c d e f g h p q r s : Int) : Prop := ∀ w, Calls Tryd.prog 15 #[ivV a b c d, ivV e f g h] w fun en w' => en = .returned (.tuple #[ivV p q r s, .bool true]) ∧ Below w.heap.size w w'
theorem addTo_run {a b c d e f g h p q r s : Int} (H : AddTo a b c d e f g h p q r s) (w : World) : Calls Tryd.prog 15 #[ivV a b c d, ivV e f g h] w fun en w' => en = .returned (.tuple #[ivV p q r s, .bool true]) ∧ Below w.heap.size w w' := H w
theorem sumT_next {xs : List Int} (hc : CirOk xs) {r k : Nat} (hk : k < 4) {a b c d : Int} (hs : SumT xs r k a b c d) {W : World} {B : Nat} {ty : TypeId} {v : Value} (h : W.ownsRow B ty 1 v 12 (intCs xs)) :
    ∃ e f g h p q u s, FifAt W v (((r + k) % 12 : Nat) : Int) e f g h ∧ AddTo a b c d e f g h p q u s ∧ SumT xs r (k + 1) p q u s := by
  obtain ⟨rfl, rfl, rfl, rfl⟩ := hs
  have hx := cir_part hc (j := (r + k) % 12) (by omega)
  have hn := cyc_bd hc r (k := k) (by omega)
  have hm := cyc_bd hc r (k := k + 1) (by omega)
  have e1 : cycTo xs r (k + 1) = cycTo xs r k + xs.getD ((r + k) % 12) 0 := rfl
  have ad := tr_add hk hn.1 hx.1 (by omega)
  rw [← e1, show (k : Int) + 1 = ((k + 1 : Nat) : Int) from by omega] at ad
  refine ⟨(chV 1 (xs.getD ((r + k) % 12) 0)).two, (chV 1 (xs.getD ((r + k) % 12) 0)).three, (chV 1 (xs.getD ((r + k) % 12) 0)).five, (chV 1 (xs.getD ((r + k) % 12) 0)).root, _, _, _, _, fun X hX => ?_, fun w => ?_, rfl, rfl, rfl, rfl⟩
  · refine fifth_impl (.inl ⟨⟨hc, by omega, by omega⟩, ?_⟩) X _ _ v (by rw [hc.1]; omega) (own_eq (own_below h hX) (rfl : xs = xs) hc.1.symm)
    rw [Int.toNat_natCast]
    exact ⟨⟨by omega, by omega, hx.1, hx.2⟩, rfl, rfl, rfl, rfl⟩
  · have t := add_total (trV k (cycTo xs r k)) (chV 1 (xs.getD ((r + k) % 12) 0)) w
    rw [ad] at t
    exact t
/-- What the end calls. -/
def IvSay (fn : FuncId) (W : World) (v : Value) (i a b c d : Int) : Prop := ∀ X, Below W.heap.size W X → Calls Tryd.prog fn #[cirV v, .int .i64 i] X fun en w' => en = .returned (ivV a b c d) ∧ Below X.heap.size X w'
structure ThiSay (A : Addr) (xs : List Int) (v : Value) (r : Nat) (W : World) (a b c d e f g h P S x9 x10 x11 C : Int) (z : Bool) : Prop where
  add : AddTo a b c d 2 0 (-1) 1 e f g h
  at3 : IvSay 13 W v r a b c d
  err : IvSay 19 W v r e f g h
  par : ∀ X, Below W.heap.size W X → Calls Tryd.prog 11 #[cirV v, .int .i64 r] X fun en w' => en = .returned (.int .i64 P) ∧ Below X.heap.size X w'
  sma : ∀ X, Below W.heap.size W X → Calls Tryd.prog 18 #[cirV v, .int .i64 r] X fun en w' => en = .returned (.int .i64 S) ∧ Below X.heap.size X w'
  wid : ∀ X, Below W.heap.size W X → SenAt A X → Calls Tryd.prog 17 #[cirV v, .int .i64 r] X fun en w' => en = .returned (.bool z) ∧ Below X.heap.size X w'
  sgn : ∀ X, SenAt A X → Calls Tryd.prog 20 #[ivV e f g h] X fun en w' => en = .returned (.int .i64 C) ∧ Below X.heap.size X w'
  wz : z = decide (P < 12)
  cz : z = decide (0 < C)
  sum : 12 - S = x9 + x10 + x11
  bS : 0 ≤ S ∧ S ≤ 12
  bx : (0 ≤ x9 ∧ x9 ≤ 12) ∧ (0 ≤ x10 ∧ x10 ≤ 12) ∧ (0 ≤ x11 ∧ x11 ≤ 12)
  g9 : x9 = xs.getD ((r + 9) % 12) 0
  g10 : x10 = xs.getD ((r + 10) % 12) 0
  g11 : x11 = xs.getD ((r + 11) % 12) 0
theorem thiSay_ex (A : Addr) {xs : List Int} (hc : CirOk xs) {r : Nat} (hr : r < 12) {a b c d : Int} (hs : SumT xs r 4 a b c d) {W : World} {B : Nat} {ty : TypeId} {v : Value} (o : W.ownsRow B ty 1 v 12 (intCs xs)) :
    ∃ e f g h P S x9 x10 x11 C z, ThiSay A xs v r W a b c d e f g h P S x9 x10 x11 C z := by
  obtain ⟨rfl, rfl, rfl, rfl⟩ := hs
  have hp := cyc_bd hc r (k := 4) (by omega)
  have h9 := cyc_bd hc r (k := 9) (by omega)
  obtain ⟨t1, t2⟩ := tr_last hp
  obtain ⟨k1, k2, k3, k4, k5⟩ := thi_all hp
  have hrr : ((r : Int)).toNat = r := by omega
  have hl : xs.length ≤ 2000000 := by rw [hc.1]; omega
  have hv : CirOk xs ∧ (0 : Int) ≤ r ∧ (r : Int) ≤ 11 := ⟨hc, by omega, by omega⟩
  have own : ∀ X, Below W.heap.size W X → X.ownsRow B ty 1 v xs.length (intCs xs) := fun X hX => own_eq (own_below o hX) (rfl : xs = xs) hc.1.symm
  rw [show ((4 : Nat) : Int) = 4 from rfl, t1]
  refine ⟨(erV (cycTo xs r 4)).two, (erV (cycTo xs r 4)).three, (erV (cycTo xs r 4)).five, (erV (cycTo xs r 4)).root, cycTo xs r 4, cycTo xs r 9, _, _, _, cmpV (erV (cycTo xs r 4)) ⟨0, 0, 0, 1⟩, decide (cycTo xs r 4 < 12), ⟨fun w => ?_, fun X hX => ?_, fun X hX => ?_, fun X hX => ?_, fun X hX => ?_, fun X hX hs => ?_, fun X hs => ?_, rfl, ?_, ?_, h9, ?_, rfl, rfl, rfl⟩⟩
  · have t := add_total (thV (cycTo xs r 4)) ⟨2, 0, -1, 1⟩ w
    rw [t2] at t
    exact t
  · exact thirdAt_impl (.inl ⟨hv, by rw [hrr], by rw [hrr], by rw [hrr], by rw [hrr]⟩) X _ _ v hl (own X hX)
  · exact thirdErr_impl (.inl ⟨hv, by rw [hrr], by rw [hrr], by rw [hrr], by rw [hrr]⟩) X _ _ v hl (own X hX)
  · exact parts_impl (.inl ⟨hv, by rw [hrr]⟩) X _ _ v hl (own X hX)
  · exact small_impl (.inl ⟨hv, by rw [hrr]⟩) X _ _ v hl (own X hX)
  · exact wide_impl (.inl ⟨hv, by rw [hrr]⟩) A X _ _ v hl (own X hX) hs
  · exact sign_impl A _ _ _ _ X hs
  · rw [← k5, cmpV_prime k4]
  · have e : cycTo xs r 12 = cycTo xs r 9 + xs.getD ((r + 9) % 12) 0 + xs.getD ((r + 10) % 12) 0 + xs.getD ((r + 11) % 12) 0 := rfl
    rw [cyc_all, hc.2.2] at e
    omega
  · exact ⟨cir_part hc (by omega), cir_part hc (by omega), cir_part hc (by omega)⟩
end Go.Proofs.YtohfepcdgbgojabDoor
