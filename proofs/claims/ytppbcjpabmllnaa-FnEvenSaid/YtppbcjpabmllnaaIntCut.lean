/- A row of ints cut short, zeros behind it: what 'clear' at a slice's end leaves. -/
import Derived.Test.YtppbcjpabmllnaaNumBase
import Derived.Lib.SmallJoins
namespace Go.Proofs.Ytppbcjpabmllnaa
open Go.RowKit Go.Joins
set_option linter.unusedVariables false
theorem own_cutI {w : World} {base g n cap i : Nat} {e : TypeId} {xs : List Value} (h : w.ownsRow base e 1 (.slice (some ⟨g, 0, none⟩) n cap) n xs) (hi : i ≤ n) : w.ownsRow base e 1 (.slice (some ⟨g, 0, none⟩) i cap) i (xs.take i) := by
  refine ⟨by rw [List.length_take, h.1]; omega, ?_⟩
  rcases h.2 with ⟨h', _⟩ | ⟨g', cap', cur, h', hb, hg, hnc, hcm, hcs, htake⟩
  · simp at h'
  · simp only [Value.slice.injEq, Option.some.injEq, Addr.mk.injEq, and_true, true_and] at h'
    obtain ⟨rfl, rfl⟩ := h'
    refine .inr ⟨g, cap, cur, rfl, hb, hg, Nat.le_trans hi hnc, hcm, hcs, ?_⟩
    rw [← htake, List.take_take]
    simp only [Nat.mul_one]
    rw [Nat.min_eq_left hi]
theorem own_behindI {base g i cap : Nat} {e : TypeId} {xs : List Value} (hg : base ≤ g) : ∀ (vs : List Value) (o : Nat) (w : World), w.ownsRow base e 1 (.slice (some ⟨g, 0, none⟩) i cap) i xs → i ≤ o →
    (w.setCells g o vs).ownsRow base e 1 (.slice (some ⟨g, 0, none⟩) i cap) i xs ∧ ∀ w0, Below base w0 w → Below base w0 (w.setCells g o vs)
  | [], o, w, h, _ => ⟨h, fun _ hb => hb⟩
  | v :: vs, o, w, h, ho => by
    have k := (h.stored o v).1
    rw [List.set_eq_of_length_le (by rw [h.1]; omega)] at k
    obtain ⟨k1, k2⟩ := own_behindI hg vs (o + 1) (w.setCell ⟨g, o, none⟩ v) k (by omega)
    exact ⟨k1, fun w0 hb => k2 w0 (hb.setCell (p := ⟨g, o, none⟩) hg v)⟩
theorem zero_cells1 (n : Nat) : (Builtin.zeroCells (#[.int .i64 0] : Array Value) n).toList = List.replicate n (.int .i64 0) := by
  unfold Builtin.zeroCells
  apply List.ext_getElem
  · simp
  · intro i h1 h2
    simp [Nat.mod_one]
theorem clear_int {P : Program} (w : World) (t e ty : TypeId) (ht : P.underlying t = some (.slice e)) (hv : ∀ w, (zeroValue e).run P w = .ok (.int .i64 0) w) (b o n c : Nat) (hn : 0 < n)
    (hc : ∀ j, j < n → (w.cell? ⟨b, o + j, none⟩).isSome = true) (hf : ∀ j, j < n → w.frozen? ⟨b, o + j, none⟩ = false) :
    (Builtin.clear_ #[t] ty #[.slice (some ⟨b, o, none⟩) n c]).run P w = .ok (.tuple #[]) (w.setCells b o (List.replicate n (.int .i64 0))) := by
  have hz : (Value.int .i64 0).cells = #[.int .i64 0] := by simp [Value.cells]
  have hzc : (Builtin.zeroCells (Value.int .i64 0).cells n).toList = List.replicate n (.int .i64 0) := by rw [hz]; exact zero_cells1 n
  have hst := run_storeCells_cells (P := P) b o (List.replicate n (.int .i64 0)) 0 w (by simpa using hc) (by simpa using hf) (by intro v hv'; rw [List.eq_of_mem_replicate hv']; rfl)
  simp only [Nat.add_zero] at hst
  obtain ⟨m, rfl⟩ : ∃ m, n = m + 1 := ⟨n - 1, by omega⟩
  simp [Builtin.clear_, run_underlying ht, hv, hzc, hst]
end Go.Proofs.Ytppbcjpabmllnaa
