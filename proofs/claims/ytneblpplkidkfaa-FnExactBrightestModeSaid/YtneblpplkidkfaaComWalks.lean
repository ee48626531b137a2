/- Contracts of CommaOf and CommaName, both sides; what a comma is, told without a look inside. -/
import Derived.Test.YtneblpplkidkfaaToneWalks
import Derived.Deep.DeepCutAuto
import Derived.Deep.RegionWith
namespace Go.Proofs.Ytneblpplkidkfaa
open Go.RowKit Go.Joins
set_option linter.unusedVariables false
/-- The comma with number k and its name. -/
def ComAt (k a b c d : Int) (s : List UInt8) : Prop :=
  (k = 1 ∧ a = -19 ∧ b = 12 ∧ c = 0 ∧ d = 1 ∧ s = [112, 121, 116, 104, 97, 103, 111, 114, 101, 97, 110]) ∨
  (k = 2 ∧ a = -4 ∧ b = 4 ∧ c = -1 ∧ d = 1 ∧ s = [115, 121, 110, 116, 111, 110, 105, 99]) ∨
  (k = 3 ∧ a = 7 ∧ b = 0 ∧ c = -3 ∧ d = 1 ∧ s = [100, 105, 101, 115, 105, 115]) ∨
  (k = 4 ∧ a = -15 ∧ b = 8 ∧ c = 1 ∧ d = 1 ∧ s = [115, 99, 104, 105, 115, 109, 97]) ∨
  (k = 5 ∧ a = 11 ∧ b = -4 ∧ c = -2 ∧ d = 1 ∧ s = [100, 105, 97, 115, 99, 104, 105, 115, 109, 97]) ∨
  (k = 6 ∧ a = 3 ∧ b = 4 ∧ c = -4 ∧ d = 1 ∧ s = [103, 114, 101, 97, 116, 100, 105, 101, 115, 105, 115]) ∨
  ((k == 1) = false ∧ (k == 2) = false ∧ (k == 3) = false ∧ (k == 4) = false ∧ (k == 5) = false ∧ (k == 6) = false ∧ a = 0 ∧ b = 0 ∧ c = 0 ∧ d = 0 ∧ s = [])
theorem comAt_ex (k : Int) : ∃ a b c d s, ComAt k a b c d s := by
  by_cases h1 : k = 1
  · exact ⟨_, _, _, _, _, Or.inl ⟨h1, rfl, rfl, rfl, rfl, rfl⟩⟩
  by_cases h2 : k = 2
  · exact ⟨_, _, _, _, _, Or.inr (Or.inl ⟨h2, rfl, rfl, rfl, rfl, rfl⟩)⟩
  by_cases h3 : k = 3
  · exact ⟨_, _, _, _, _, Or.inr (Or.inr (Or.inl ⟨h3, rfl, rfl, rfl, rfl, rfl⟩))⟩
  by_cases h4 : k = 4
  · exact ⟨_, _, _, _, _, Or.inr (Or.inr (Or.inr (Or.inl ⟨h4, rfl, rfl, rfl, rfl, rfl⟩)))⟩
  by_cases h5 : k = 5
  · exact ⟨_, _, _, _, _, Or.inr (Or.inr (Or.inr (Or.inr (Or.inl ⟨h5, rfl, rfl, rfl, rfl, rfl⟩))))⟩
  by_cases h6 : k = 6
  · exact ⟨_, _, _, _, _, Or.inr (Or.inr (Or.inr (Or.inr (Or.inr (Or.inl ⟨h6, rfl, rfl, rfl, rfl, rfl⟩)))))⟩
  exact ⟨0, 0, 0, 0, [], Or.inr (Or.inr (Or.inr (Or.inr (Or.inr (Or.inr ⟨by simpa using h1, by simpa using h2, by simpa using h3, by simpa using h4, by simpa using h5, by simpa using h6, rfl, rfl, rfl, rfl, rfl⟩)))))⟩
/-- A block of four zeros that may be written. -/
def Zed4 (m : Nat) (w : World) : Prop := Four m 0 0 0 0 w ∧ ∀ o, w.frozen? ⟨m, o, none⟩ = false
theorem zed4_keep {W w : World} {m : Nat} (hb : Below W.heap.size W w) (h : Zed4 m W) : Zed4 m w :=
  ⟨four_keep hb h.1, fun o => (hb.frozen (p := ⟨m, o, none⟩) h.1.1).trans (h.2 o)⟩
theorem zed4_alloc {w : World} {t : TypeId} : Zed4 w.heap.size (w.alloc (.cells #[.int .i64 0, .int .i64 0, .int .i64 0, .int .i64 0] t)) := ⟨four_alloc, fun o => by simp [go_sem]⟩
theorem calls_zed {P : Program} {k : FuncId} {args : Array Value} {W w : World} {v : Value} {m : Nat} (hz : Zed4 m W) (h : Below W.heap.size W w) (hk : Calls P k args w fun e w' => e = .returned v ∧ Below w.heap.size w w') :
    Calls P k args w fun e w' => e = .returned v ∧ Below W.heap.size W w' ∧ Zed4 m w' :=
  hk.mono fun _ _ ⟨he, hb⟩ => ⟨he, h.trans (hb.mono h.size), zed4_keep (h.trans (hb.mono h.size)) hz⟩
theorem zed4_store {w w2 : World} {z : Nat} {p q r s : Int} (hz : w.heap.size ≤ z) (hb : Below w.heap.size w w2) (h4 : Four z 0 0 0 0 w2) :
    ∃ X, X = ((((w2.setCell ⟨z, 0, none⟩ (.int .i64 p)).setCell ⟨z, 1, none⟩ (.int .i64 q)).setCell ⟨z, 2, none⟩ (.int .i64 r)).setCell ⟨z, 3, none⟩ (.int .i64 s)) ∧ Four z p q r s X ∧ Below w.heap.size w X :=
  ⟨_, rfl, four_set h4, (((hb.setCell hz _).setCell hz _).setCell hz _).setCell hz _⟩
end Go.Proofs.Ytneblpplkidkfaa
