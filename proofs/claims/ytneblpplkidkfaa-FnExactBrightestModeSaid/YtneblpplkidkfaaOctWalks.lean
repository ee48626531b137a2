/- What WithinOctave and InvertInterval answer, told without a look inside; a block of zeros kept over calls. -/
import Derived.Test.YtneblpplkidkfaaOctImpl
import Derived.Test.YtneblpplkidkfaaToneWalks
import Derived.Test.YtneblpplkidkfaaSameTone
import Derived.Deep.DeepCutAuto
import Derived.Deep.RegionWith
namespace Go.Proofs.Ytneblpplkidkfaa
open Go.RowKit Go.Joins
set_option linter.unusedVariables false
/-- The simplest form, if it is valid. -/
def CheckAt (a b c d p q r s : Int) (y : Bool) : Prop :=
  (-1000000 ≤ a ∧ a ≤ 1000000 ∧ -1000000 ≤ b ∧ b ≤ 1000000 ∧ -1000000 ≤ c ∧ c ≤ 1000000 ∧ 1 ≤ d ∧ d ≤ 1000000) ∧
  ((y = true ∧ okI (a.tdiv (gcd4 a b c d)) (b.tdiv (gcd4 a b c d)) (c.tdiv (gcd4 a b c d)) (d.tdiv (gcd4 a b c d)) = true ∧ p = a.tdiv (gcd4 a b c d) ∧ q = b.tdiv (gcd4 a b c d) ∧ r = c.tdiv (gcd4 a b c d) ∧ s = d.tdiv (gcd4 a b c d)) ∨
   (y = false ∧ okI (a.tdiv (gcd4 a b c d)) (b.tdiv (gcd4 a b c d)) (c.tdiv (gcd4 a b c d)) (d.tdiv (gcd4 a b c d)) = false ∧ p = 0 ∧ q = 0 ∧ r = 0 ∧ s = 0))
theorem checkAt_ex {a b c d : Int} (h : -1000000 ≤ a ∧ a ≤ 1000000 ∧ -1000000 ≤ b ∧ b ≤ 1000000 ∧ -1000000 ≤ c ∧ c ≤ 1000000 ∧ 1 ≤ d ∧ d ≤ 1000000) : ∃ p q r s y, CheckAt a b c d p q r s y := by
  obtain ⟨x, hx⟩ : ∃ x : Bool, okI (a.tdiv (gcd4 a b c d)) (b.tdiv (gcd4 a b c d)) (c.tdiv (gcd4 a b c d)) (d.tdiv (gcd4 a b c d)) = x := ⟨_, rfl⟩
  cases x
  · exact ⟨0, 0, 0, 0, false, h, Or.inr ⟨rfl, hx, rfl, rfl, rfl, rfl⟩⟩
  · exact ⟨_, _, _, _, true, h, Or.inl ⟨rfl, hx, rfl, rfl, rfl, rfl⟩⟩
/-- A block of four zeros that may be written. -/
def Zero4 (m : Nat) (w : World) : Prop := Four m 0 0 0 0 w ∧ ∀ o, w.frozen? ⟨m, o, none⟩ = false
theorem zero4_keep {W w : World} {m : Nat} (hb : Below W.heap.size W w) (h : Zero4 m W) : Zero4 m w :=
  ⟨four_keep hb h.1, fun o => (hb.frozen (p := ⟨m, o, none⟩) h.1.1).trans (h.2 o)⟩
theorem zero4_alloc {w : World} {t : TypeId} : Zero4 w.heap.size (w.alloc (.cells #[.int .i64 0, .int .i64 0, .int .i64 0, .int .i64 0] t)) := ⟨four_alloc, fun o => by simp [go_sem]⟩
theorem calls_zero {P : Program} {k : FuncId} {args : Array Value} {W w : World} {v : Value} {m : Nat} (hz : Zero4 m W) (h : Below W.heap.size W w) (hk : Calls P k args w fun e w' => e = .returned v ∧ Below w.heap.size w w') :
    Calls P k args w fun e w' => e = .returned v ∧ Below W.heap.size W w' ∧ Zero4 m w' :=
  hk.mono fun _ _ ⟨he, hb⟩ => ⟨he, h.trans (hb.mono h.size), zero4_keep (h.trans (hb.mono h.size)) hz⟩
theorem below_set4w {w w' : World} {B m : Nat} {v0 v1 v2 v3 : Value} (hm : B ≤ m) (h : Below B w w') : Below B w ((((w'.setCell ⟨m, 0, none⟩ v0).setCell ⟨m, 1, none⟩ v1).setCell ⟨m, 2, none⟩ v2).setCell ⟨m, 3, none⟩ v3) :=
  (((h.setCell hm _).setCell hm _).setCell hm _).setCell hm _
/-- The results, in their block, behind the region's store. -/
theorem stored4 {W w2 : World} {B z : Nat} {p q r s : Int} (hB : B ≤ W.heap.size) (hz : B ≤ z) (hb : Below W.heap.size W w2) (h4 : Four z 0 0 0 0 w2) :
    ∃ X, X = ((((w2.setCell ⟨z, 0, none⟩ (.int .i64 p)).setCell ⟨z, 1, none⟩ (.int .i64 q)).setCell ⟨z, 2, none⟩ (.int .i64 r)).setCell ⟨z, 3, none⟩ (.int .i64 s)) ∧ Four z p q r s X ∧ Below B W X :=
  ⟨_, rfl, four_set h4, below_set4w hz (hb.mono hB)⟩
/-- What WithinOctave answers. -/
def WithinAt (a b c d p q r s : Int) (y : Bool) : Prop :=
  (∃ n m u, OctAt a b c d n ∧ LessAt a d n m u ∧ CheckAt u b c d p q r s y) ∨ (okI a b c d = false ∧ p = 0 ∧ q = 0 ∧ r = 0 ∧ s = 0 ∧ y = false)
theorem withinAt_ex (a b c d : Int) : ∃ p q r s y, WithinAt a b c d p q r s y := by
  obtain ⟨x, hx⟩ : ∃ x : Bool, okI a b c d = x := ⟨_, rfl⟩
  cases x
  · exact ⟨0, 0, 0, 0, false, Or.inr ⟨hx, rfl, rfl, rfl, rfl, rfl⟩⟩
  · obtain ⟨n, hn⟩ := octAt_ex hx
    obtain ⟨d1, d2, a1, a2, b1, b2, c1, c2⟩ := okI_nums hx
    have k := octAt_bd hn rfl
    obtain ⟨p, q, r, s, y, hc⟩ := checkAt_ex (a := a - n * d) (b := b) (c := c) (d := d) ⟨by omega, by omega, by omega, by omega, by omega, by omega, by omega, by omega⟩
    exact ⟨p, q, r, s, y, Or.inl ⟨n, n * d, a - n * d, hn, ⟨rfl, rfl, by omega, by omega, by omega, by omega⟩, hc⟩⟩
end Go.Proofs.Ytneblpplkidkfaa
/- Contract of impl.WithinOctave. -/
namespace Go.Proofs.Ytneblpplkidkfaa
open Go.RowKit Go.Joins
set_option linter.unusedVariables false
end Go.Proofs.Ytneblpplkidkfaa
/- Contract of impl.InvertInterval. -/
namespace Go.Proofs.Ytneblpplkidkfaa
open Go.RowKit Go.Joins
set_option linter.unusedVariables false
/-- What InvertInterval answers. -/
def InvAt (a b c d p q r s : Int) (y : Bool) : Prop :=
  (okI a b c d = true ∧ CheckAt (d - a) (-b) (-c) d p q r s y) ∨ (okI a b c d = false ∧ p = 0 ∧ q = 0 ∧ r = 0 ∧ s = 0 ∧ y = false)
theorem invAt_ex (a b c d : Int) : ∃ p q r s y, InvAt a b c d p q r s y := by
  obtain ⟨x, hx⟩ : ∃ x : Bool, okI a b c d = x := ⟨_, rfl⟩
  cases x
  · exact ⟨0, 0, 0, 0, false, Or.inr ⟨hx, rfl, rfl, rfl, rfl, rfl⟩⟩
  · obtain ⟨d1, d2, a1, a2, b1, b2, c1, c2⟩ := okI_nums hx
    obtain ⟨p, q, r, s, y, hc⟩ := checkAt_ex (a := d - a) (b := -b) (c := -c) (d := d) ⟨by omega, by omega, by omega, by omega, by omega, by omega, by omega, by omega⟩
    exact ⟨p, q, r, s, y, Or.inl ⟨hx, hc⟩⟩
/-- The octave and the interval downwards, added. -/
theorem inv_add {x : Iv} (hx : 1 ≤ x.root) : simV (sumV ⟨1, 0, 0, 1⟩ (simV ⟨x.two * -1, x.three * -1, x.five * -1, x.root⟩)) = simV ⟨x.root - x.two, -x.three, -x.five, x.root⟩ := by
  have hr : 1 ≤ (⟨x.two * -1, x.three * -1, x.five * -1, x.root⟩ : Iv).root := hx
  rw [sumV_comm, simV_eq (sumV_root (simV_root hr) (by decide)) (sumV_root hr (by decide)) (sumV_prop (simV_prop hr))]
  unfold sumV
  simp only
  congr 2 <;> omega
/-- What AddIntervals answers here. -/
theorem addInv {a b c d p q r s : Int} {y : Bool} (hx : okI a b c d = true) (h : CheckAt (d - a) (-b) (-c) d p q r s y) :
    addV ⟨1, 0, 0, 1⟩ (simV ⟨a * -1, b * -1, c * -1, d⟩) = (⟨p, q, r, s⟩, y) := by
  obtain ⟨d1, d2, a1, a2, b1, b2, c1, c2⟩ := okI_nums hx
  have okN : okV (simV ⟨a * -1, b * -1, c * -1, d⟩) = true := simV_ok (show okI (a * -1) (b * -1) (c * -1) d = true from okI_mk (by omega))
  have e := inv_add (x := ⟨a, b, c, d⟩) d1
  simp only at e
  unfold addV
  rw [e]
  rcases h.2 with ⟨rfl, hk, rfl, rfl, rfl, rfl⟩ | ⟨rfl, hk, rfl, rfl, rfl, rfl⟩
  · rw [if_pos ⟨by decide, okN, hk⟩]; rfl
  · rw [if_neg (fun h => by have := h.2.2; unfold okV simV at this; simp only at this; rw [hk] at this; cases this)]
/-- The interval downwards. -/
def DownAt (a b c d e f g h p q r s : Int) (y : Bool) : Prop := okI a b c d = true ∧ CheckAt (d - a) (-b) (-c) d p q r s y ∧ (⟨e, f, g, h⟩ : Iv) = simV ⟨a * -1, b * -1, c * -1, d⟩
/-- What differenceOf answers. -/
def diffV (x y : Iv) : Iv × Bool := if okV x = true then addV y (simV ⟨x.two * -1, x.three * -1, x.five * -1, x.root⟩) else (⟨0, 0, 0, 0⟩, false)
theorem inv_diff {a b c d p q r s : Int} {y : Bool} (h : InvAt a b c d p q r s y) : diffV ⟨a, b, c, d⟩ ⟨1, 0, 0, 1⟩ = (⟨p, q, r, s⟩, y) := by
  unfold diffV
  rcases h with ⟨hx, hc⟩ | ⟨h, rfl, rfl, rfl, rfl, rfl⟩
  · rw [if_pos (show okV ⟨a, b, c, d⟩ = true from hx)]
    exact addInv hx hc
  · rw [if_neg (fun k => by rw [show okV ⟨a, b, c, d⟩ = okI a b c d from rfl, h] at k; cases k)]
end Go.Proofs.Ytneblpplkidkfaa
/- Contract of impl.SamePitchClass. -/
namespace Go.Proofs.Ytneblpplkidkfaa
open Go.RowKit Go.Joins
set_option linter.unusedVariables false
end Go.Proofs.Ytneblpplkidkfaa
