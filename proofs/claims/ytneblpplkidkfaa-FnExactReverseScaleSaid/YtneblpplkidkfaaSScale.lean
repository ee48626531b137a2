/- Contracts of spec.ScaleOk, spec.ScaleSum, spec.SpanAt, spec.SpansOf, spec.HasTwoSizes and spec.MajorScale. -/
import Derived.Test.YtneblpplkidkfaaScMath
import Derived.Test.YtneblpplkidkfaaScRows
import Derived.Test.YtneblpplkidkfaaBigWalks
import Derived.Deep.RegionHeld3
namespace Go.Proofs.Ytneblpplkidkfaa
open Go.RowKit Go.Joins
set_option linter.unusedVariables false
set_option maxHeartbeats 1000000 in
theorem scOk_spec {xs : List Int} {y : Bool} (hf : ScAt xs y) (w : World) (b : Nat) (e : TypeId) (v : Value) (hl : xs.length ≤ 2000000) (h : w.ownsRow b e 1 v xs.length (intCs xs)) :
    Calls Try.prog 40 #[cirV v] w fun en w' => en = .returned (.bool y) ∧ Below w.heap.size w w' := by
  obtain ⟨n, hn⟩ : ∃ n, n = xs.length := ⟨_, rfl⟩
  rw [← hn] at h hl
  obtain ⟨p, cap, rfl⟩ := own_slice h
  have HC := Lib.hid (fun j (hj : j < n) => show ∃ g, p = some ⟨g, 0, none⟩ ∧ (w.alloc (.cells #[.slice p n cap] 26)).cell? ⟨g, j, none⟩ = some (.int .i64 (xs.getD j 0)) from by
    obtain ⟨g, cap', e1, _, hg⟩ := own_pos h (by omega)
    simp only [Value.slice.injEq] at e1
    obtain ⟨rfl, _, rfl⟩ := e1
    exact ⟨g, rfl, ((below_alloc1 w (.cells #[.slice (some ⟨g, 0, none⟩) n cap] 26)).cell (p := ⟨g, j, none⟩) hg).trans (own_icell h j hj)⟩)
  obtain ⟨_, c0, _⟩ := one_alloc (w := w) (v := .slice p n cap) (t := 26)
  have B0 := Lib.hid (below_alloc1 w (.cells #[.slice p n cap] 26))
  have HN := Lib.hid hn
  have HF := Lib.hid hf
  clear h hn hf
  go_enter Try.func40, Try.ntmps40
  go_upto_region 1 with fail
  obtain ⟨W0, hW⟩ : ∃ W, W = w.alloc (.cells #[.slice p n cap] 26) := ⟨_, rfl⟩
  rw [← hW] at HC c0 B0 ⊢
  clear hW
  go_wp2_with fail
  go_loopw [3, 4] (fun s i wr => ∃ (k : Nat) (S : Int), k ≤ n ∧ Hid (∀ j, j < k → 1 ≤ xs.getD j 0 ∧ xs.getD j 0 ≤ 20) ∧ S = sumTo xs k ∧ s = .int .i64 S ∧ i = .int .i64 k ∧ wr = W0) (fun _ i _ => n - (intOf i).toNat)
  case atStart => exact ⟨0, 0, Nat.zero_le _, Lib.hid (fun j hj => by omega), rfl, rfl, rfl, rfl⟩
  case round =>
    obtain ⟨k, S, hk, HA, hS, rfl, rfl, rfl⟩ := hrel
    have hb := sum_bd20 HA.out k (Nat.le_refl _)
    rw [← hS] at hb
    have HS := Lib.hid hS
    clear hS
    by_cases hlt : k < n
    · obtain ⟨g, hp, q1⟩ := HC.out k hlt
      subst hp
      have q3 : (k : Int) < n := by omega
      obtain ⟨x, hxk⟩ : ∃ x, x = xs.getD k 0 := ⟨_, rfl⟩
      rw [← hxk] at q1
      have HX := Lib.hid hxk
      clear hxk
      have C := inT_any x 1 20
      by_cases hx : 1 ≤ x ∧ x ≤ 20
      · rw [decide_eq_true hx] at C
        have HXB := Lib.hid hx
        go_wp2_with fail
        refine (C _).mono ?_
        rintro e1 w1 ⟨rfl, rfl⟩
        go_wp2_with fail
        go_roundw
        case rel => exact ⟨k + 1, S + x, by omega, Lib.hid (fun j hj => (show j < k ∨ j = k from by omega).elim (fun h => HA.out j h) (fun h => by rw [h, ← HX.out]; exact HXB.out)), by rw [HS.out, HX.out]; rfl, by go_num, by go_num, by trivial⟩
        case measure => simp [intOf]; omega
      · rw [decide_eq_false hx] at C
        have HXB := Lib.hid hx
        have R := Lib.hid (show y = false from by rw [HF.out]; exact decide_eq_false (fun h => HXB.out (by rw [HX.out]; exact h.2.1 k (by have := HN.out; omega))))
        clear hx
        go_wp2_with fail
        refine (C _).mono ?_
        rintro e1 w1 ⟨rfl, rfl⟩
        go_wp2_with fail
        go_ret
        exact ⟨ret_bool R.out.symm, B0.out⟩
    · have q3 : ¬ (k : Int) < n := by omega
      obtain rfl : k = n := by omega
      have C := inT_any (k : Int) 1 12
      by_cases h12 : 1 ≤ (k : Int) ∧ (k : Int) ≤ 12
      · rw [decide_eq_true h12] at C
        have R := Lib.hid (show y = decide (S ≤ 60) from by
          rw [HF.out]
          exact decide_eq_decide.2 ⟨fun h => by rw [HS.out, HN.out]; exact h.2.2, fun h => ⟨by have := HN.out; omega, by rw [← HN.out]; exact HA.out, by rw [← HN.out, ← HS.out]; exact h⟩⟩)
        clear h12
        go_wp2_with fail
        refine (C _).mono ?_
        rintro e1 w1 ⟨rfl, rfl⟩
        go_wp2_with fail
        go_ret
        exact ⟨ret_bool R.out.symm, B0.out⟩
      · rw [decide_eq_false h12] at C
        have R := Lib.hid (show y = false from by rw [HF.out]; exact decide_eq_false (fun h => h12 (by have := h.1; have := HN.out; omega)))
        clear h12
        go_wp2_with fail
        refine (C _).mono ?_
        rintro e1 w1 ⟨rfl, rfl⟩
        go_wp2_with fail
        go_ret
        exact ⟨ret_bool R.out.symm, B0.out⟩
/-- A scale's box and its sizes. -/
def ScBox (xs : List Int) (m q n c : Nat) (w : World) : Prop := (m < w.heap.size ∧ q < w.heap.size) ∧ w.cell? ⟨m, 0, none⟩ = some (.slice (some ⟨q, 0, none⟩) n c) ∧ ∀ j, j < n → w.cell? ⟨q, j, none⟩ = some (.int .i64 (xs.getD j 0))
theorem scBox_keep {xs : List Int} {m q n c : Nat} {w w' : World} (h : ScBox xs m q n c w) (hb : Below w.heap.size w w') : ScBox xs m q n c w' :=
  ⟨⟨Nat.lt_of_lt_of_le h.1.1 hb.size, Nat.lt_of_lt_of_le h.1.2 hb.size⟩, (hb.cell h.1.1).trans h.2.1, fun j hj => (hb.cell (p := ⟨q, j, none⟩) h.1.2).trans (h.2.2 j hj)⟩
theorem scBox_cell {xs : List Int} {m q n c : Nat} {w : World} (h : ScBox xs m q n c w) : w.cell? ⟨m, 0, none⟩ = some (.slice (some ⟨q, 0, none⟩) n c) := h.2.1
/-- A row that is not empty, laid into a box. -/
theorem scBox_new {xs : List Int} {w W0 : World} {b : Nat} {e : TypeId} {v : Value} {n : Nat} (hn : 0 < n) (h : w.ownsRow b e 1 v n (intCs xs)) (hW : W0 = w.alloc (.cells #[v] 26)) :
    ∃ q c, v = .slice (some ⟨q, 0, none⟩) n c ∧ ScBox xs w.heap.size q n c W0 := by
  obtain ⟨q, c, rfl, _, hq⟩ := own_pos h hn
  refine ⟨q, c, rfl, ?_⟩
  subst hW
  have X0 := one_alloc (w := w) (v := .slice (some ⟨q, 0, none⟩) n c) (t := 26)
  have B0 := below_alloc1 w (.cells #[.slice (some ⟨q, 0, none⟩) n c] 26)
  exact ⟨⟨X0.1, Nat.lt_of_lt_of_le hq B0.size⟩, X0.2.1, fun j hj => (B0.cell (p := ⟨q, j, none⟩) hq).trans (own_icell h j hj)⟩
set_option maxHeartbeats 1000000 in
theorem major_spec (w : World) : Calls Try.prog 49 #[] w (CirPost majL w) := by
  go_enter Try.func49, Try.ntmps49
  go_wp2_with fail
  refine bodyPost_ret (v := cirV (.slice (some ⟨w.heap.size + 1, 0, none⟩) 7 7)) (by simp [results, Try.results49, go_sem]) rfl ⟨_, rfl, own_of_heap (xs := majL) ?_ (by omega) rfl (by decide), below_alloc2 _ _ _⟩
  exact alloc_at
/-- The row's cells where one number is written. -/
theorem row_set21 {w : World} {B g n cap i : Nat} {e : TypeId} {L : List Int} {y : Int} (h : w.ownsRow B e 1 (.slice (some ⟨g, 0, none⟩) n cap) n (intCs L)) : (w.setCell ⟨g, i, none⟩ (.int .i64 y)).ownsRow B e 1 (.slice (some ⟨g, 0, none⟩) n cap) n (intCs (L.set i y)) := by
  have s := (h.stored i (.int .i64 y)).1
  rwa [show (intCs L).set i (.int .i64 y) = intCs (L.set i y) from by simp [intCs]] at s
theorem gap_app {w : World} {B g cap l : Nat} {e : TypeId} {L : List Int} (hl : l = L.length) (h : w.ownsRow B e 1 (.slice (some ⟨g, 0, none⟩) (l + 1) cap) (l + 1) (intCs L ++ [.int .i64 0])) : w.ownsRow B e 1 (.slice (some ⟨g, 0, none⟩) (l + 1) cap) (l + 1) (intCs (gapL L l 0)) := by
  subst hl
  rw [gap_end]
  simpa [intCs] using h
end Go.Proofs.Ytneblpplkidkfaa
