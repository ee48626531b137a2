/- What laws.FnCircles calls in a round; laws.at with one answer in every world behind; five cells in two blocks. -/
import Derived.Test.YtjlhlkdhcekdhaaCirPitch
import Derived.Test.YtjlhlkdhcekdhaaDrawCir
import Derived.Test.YtjlhlkdhcekdhaaAtWalks
import Derived.Test.YtjlhlkdhcekdhaaAddTone
namespace Go.Proofs.Ytjlhlkdhcekdhaa
open Go.RowKit Go.Joins
set_option linter.unusedVariables false
/-- What the law's round calls. -/
structure CirSay (xs : List Int) (k : Nat) (a b c d e f g h p q r s a' b' c' d' : Int) : Prop where
  fif : FtAt xs k e f g h
  pit : PtAt xs k p q r s
  add : ∀ w, Calls Try.prog 12 #[ivV a b c d, ivV e f g h] w fun en w' => en = .returned (.tuple #[ivV a' b' c' d', .bool true]) ∧ Below w.heap.size w w'
  spc : ∀ w, Calls Try.prog 14 #[ivV a b c d, ivV p q r s] w fun en w' => en = .returned (.bool true) ∧ Below w.heap.size w w'
/-- The sum of the first k fifths. -/
def SumIs (xs : List Int) (k : Nat) (a b c d : Int) : Prop := a = (chV k (sumTo xs k)).two ∧ b = (chV k (sumTo xs k)).three ∧ c = (chV k (sumTo xs k)).five ∧ d = (chV k (sumTo xs k)).root
theorem cirSay_ex {xs : List Int} (h : CirOk xs) {k : Nat} (hk : k < 12) {a b c d : Int} (hs : SumIs xs k a b c d) : ∃ e f g h p q r s a' b' c' d', CirSay xs k a b c d e f g h p q r s a' b' c' d' ∧ SumIs xs (k + 1) a' b' c' d' := by
  obtain ⟨rfl, rfl, rfl, rfl⟩ := hs
  have hx := cir_part h hk
  have hc := pt_chOk h hk
  have hn := (cirOk_sum h (k := k + 1) (by omega)).2
  have e1 : sumTo xs (k + 1) = sumTo xs k + xs.getD k 0 := rfl
  have e2 : ((k : Int) + 1) = ((k + 1 : Nat) : Int) := by omega
  have ad := ch_add hc (by omega) hx.1 (by omega)
  rw [e2, ← e1] at ad
  refine ⟨(chV 1 (xs.getD k 0)).two, (chV 1 (xs.getD k 0)).three, (chV 1 (xs.getD k 0)).five, (chV 1 (xs.getD k 0)).root, (pitV k (sumTo xs k)).two, (pitV k (sumTo xs k)).three, (pitV k (sumTo xs k)).five, (pitV k (sumTo xs k)).root, _, _, _, _, ⟨?_, ?_, fun w => ?_, fun w => ?_⟩, rfl, rfl, rfl, rfl⟩
  · exact .inl ⟨⟨h, by omega, by omega⟩, ⟨by omega, by omega, hx.1, hx.2⟩, rfl, rfl, rfl, rfl⟩
  · exact .inl ⟨⟨h, by omega, by omega⟩, rfl, rfl, rfl, rfl⟩
  · have t := add_total (chV k (sumTo xs k)) (chV 1 (xs.getD k 0)) w
    rw [ad] at t
    exact t
  · have t := pc_impl (ch_within hc) (pit_within hc) w
    simpa using t
theorem sum_start (xs : List Int) : SumIs xs 0 0 0 0 1 := by
  have e : chV ((0 : Nat) : Int) (sumTo xs 0) = ⟨0, 0, 0, 1⟩ := eqV_eq ch_end.2
  exact ⟨(congrArg Iv.two e).symm, (congrArg Iv.three e).symm, (congrArg Iv.five e).symm, (congrArg Iv.root e).symm⟩
theorem sum_end {xs : List Int} (h : CirOk xs) {a b c d : Int} (hs : SumIs xs 12 a b c d) : a = 7 ∧ b = 0 ∧ c = 0 ∧ d = 1 := by
  obtain ⟨rfl, rfl, rfl, rfl⟩ := hs
  have e : chV ((12 : Nat) : Int) (sumTo xs 12) = ⟨7, 0, 0, 1⟩ := by rw [h.2.2]; exact eqV_eq ch_end.1
  exact ⟨congrArg Iv.two e, congrArg Iv.three e, congrArg Iv.five e, congrArg Iv.root e⟩
theorem ones_ok : CirOk onesL := by decide
theorem ones_sum : ∀ k, k < 12 → sumTo onesL k = (k : Int) := by decide
/-- The pitches of the equal circle have no power of three. -/
theorem ones_pit {k : Nat} (hk : k < 12) : ∃ p r s, PtAt onesL k p 0 r s := by
  refine ⟨_, _, _, .inl ⟨⟨ones_ok, by omega, by omega⟩, rfl, ?_, rfl, rfl⟩⟩
  have e : ((k : Int)).toNat = k := by omega
  rw [e, ones_sum k hk, pit_three (by omega) (by omega)]
/-- laws.at has one answer in every world behind. -/
theorem at_fix {w : World} {a : Option Addr} {len cap : Nat} {zs : List Int} (hr : IsRow .u8 w a len cap zs) (hl : len ≤ 1048576) (i : Nat) (hi : i ≤ 1000) :
    ∃ u : Nat, u ≤ 255 ∧ ∀ X, Below w.heap.size w X → Calls Try.prog 17 #[.slice a len cap, .int .i64 (i : Int)] X fun e w' => e = .returned (.int .i64 (u : Int)) ∧ X = w' := by
  by_cases h0 : len = 0
  · subst h0
    refine ⟨0, by omega, fun X _ => ?_⟩
    clear hr
    go_enter Try.func17, Try.ntmps17
    go_wp2
    go_ret
    exact ⟨rfl, rfl⟩
  · obtain ⟨j, hj⟩ : ∃ j : Nat, ((i : Int) * 5 + 1) % (len : Int) = (j : Int) := ⟨(i * 5 + 1) % len, by push_cast; rfl⟩
    have hjl : j < len := by have h1 := Int.emod_lt_of_pos ((i : Int) * 5 + 1) (show (0 : Int) < (len : Int) by omega); omega
    have hjq : (j : Int) < len := by omega
    obtain ⟨g, off, z, rfl, hg, z0, z1, hz⟩ := row_byte hr j hjl
    obtain ⟨u, rfl⟩ := Int.eq_ofNat_of_zero_le z0
    refine ⟨u, by omega, fun X hX => ?_⟩
    have hz' := (hX.cell (p := ⟨g, off + j, none⟩) hg).trans hz
    have t0 : ((len : Int) == 0) = false := by simp; omega
    have hm : ((i : Int) * 5 + 1).tmod (len : Int) = (j : Int) := by rw [Int.tmod_eq_emod_of_nonneg (by omega)]; exact hj
    have q1 : IntKind.i64.wrap (u : Int) = (u : Int) := IntWalk.i64_in _ ⟨by omega, by omega⟩
    clear hr hz hX
    go_enter Try.func17, Try.ntmps17
    go_wp2
    go_ret
    exact ⟨rfl, rfl⟩
/-- An interval at block n, a value at block m. -/
abbrev TC (n m : Nat) (a b c d : Int) (v : Value) (w : World) : Prop := w.cell? ⟨n, 0, none⟩ = some (.int .i64 a) ∧ w.cell? ⟨n, 1, none⟩ = some (.int .i64 b) ∧ w.cell? ⟨n, 2, none⟩ = some (.int .i64 c) ∧ w.cell? ⟨n, 3, none⟩ = some (.int .i64 d) ∧ w.cell? ⟨m, 0, none⟩ = some v
theorem tc_keep {W w : World} {n m : Nat} {a b c d : Int} {v : Value} (hn : n < W.heap.size ∧ m < W.heap.size) (hb : Below W.heap.size W w) (H : TC n m a b c d v W) : TC n m a b c d v w := by
  obtain ⟨h0, h1, h2, h3, h4⟩ := H
  exact ⟨(hb.cell hn.1).trans h0, (hb.cell hn.1).trans h1, (hb.cell hn.1).trans h2, (hb.cell hn.1).trans h3, (hb.cell hn.2).trans h4⟩
theorem below_alC {W X : World} {o : Obj} (h : Below W.heap.size W X) : Below W.heap.size W (X.alloc o) := h.alloc h.size o
theorem below_set4C {W w : World} {m : Nat} {v0 v1 v2 v3 : Value} (hm : W.heap.size ≤ m) (h : Below W.heap.size W w) : Below W.heap.size W ((((w.setCell ⟨m, 0, none⟩ v0).setCell ⟨m, 1, none⟩ v1).setCell ⟨m, 2, none⟩ v2).setCell ⟨m, 3, none⟩ v3) :=
  (((h.setCell hm _).setCell hm _).setCell hm _).setCell hm _
/-- A fresh interval of zeros lies at block m, behind B. -/
abbrev Zc (B m : Nat) (w : World) : Prop := B ≤ m ∧ m < w.heap.size ∧ w.cell? ⟨m, 0, none⟩ = some (.int .i64 0) ∧ w.cell? ⟨m, 1, none⟩ = some (.int .i64 0) ∧ w.cell? ⟨m, 2, none⟩ = some (.int .i64 0) ∧ w.cell? ⟨m, 3, none⟩ = some (.int .i64 0) ∧ ∀ o, w.frozen? ⟨m, o, none⟩ = false
theorem zc_alloc {W X : World} {t : TypeId} (h : Below W.heap.size W X) : Zc W.heap.size X.heap.size (X.alloc (.cells #[.int .i64 0, .int .i64 0, .int .i64 0, .int .i64 0] t)) :=
  ⟨h.size, by simp, by simp [go_sem], by simp [go_sem], by simp [go_sem], by simp [go_sem], fun o => by simp [go_sem]⟩
theorem zc_drew {X : World} {B m : Nat} (h : Zc B m X) : Zc B m X.drew := h
theorem calls_zc {P : Program} {k : FuncId} {args : Array Value} {W w : World} {v : Value} {B m : Nat} (h : Below W.heap.size W w) (hz : Zc B m w) (hk : Calls P k args w fun e w' => e = .returned v ∧ Below w.heap.size w w') :
    Calls P k args w fun e w' => e = .returned v ∧ Below W.heap.size W w' ∧ Zc B m w' :=
  hk.mono fun _ _ ⟨he, hb⟩ => ⟨he, h.trans (hb.mono h.size), hz.1, Nat.lt_of_lt_of_le hz.2.1 hb.size, (hb.cell hz.2.1).trans hz.2.2.1, (hb.cell hz.2.1).trans hz.2.2.2.1, (hb.cell hz.2.1).trans hz.2.2.2.2.1, (hb.cell hz.2.1).trans hz.2.2.2.2.2.1, fun o => (hb.frozen (p := ⟨m, o, none⟩) hz.2.1).trans (hz.2.2.2.2.2.2 o)⟩
theorem four_setC {w : World} {B m : Nat} {p q r s : Int} (hz : Zc B m w) :
    Four m p q r s ((((w.setCell ⟨m, 0, none⟩ (.int .i64 p)).setCell ⟨m, 1, none⟩ (.int .i64 q)).setCell ⟨m, 2, none⟩ (.int .i64 r)).setCell ⟨m, 3, none⟩ (.int .i64 s)) :=
  four_set ⟨hz.2.1, hz.2.2.1, hz.2.2.2.1, hz.2.2.2.2.1, hz.2.2.2.2.2.1⟩
end Go.Proofs.Ytjlhlkdhcekdhaa
