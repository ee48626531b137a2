/- Contracts of impl.partsFrom, spec.l13Sum, and of ThirdParts and SmallThirdParts, both sides. -/
import Derived.Test.YtifpknhhbdeopaaDoorThirdMath
namespace Go.Proofs.YtifpknhhbdeopaaDoor
open Go.RowKit Go.Joins
set_option linter.unusedVariables false
set_option maxHeartbeats 1000000 in
theorem partsFrom_any {xs : List Int} (hc : CirOk xs) (i n : Nat) (hi : i < 12) (hn : n ≤ 12) (w : World) (g cap : Nat) (hg : g < w.heap.size) (hcl : ∀ j, j < 12 → w.cell? ⟨g, j, none⟩ = some (.int .i64 (xs.getD j 0))) :
    Calls Tryd.prog 15 #[cirV (.slice (some ⟨g, 0, none⟩) 12 cap), .int .i64 i, .int .i64 n] w fun e w' => e = .returned (.int .i64 (cycTo xs i n)) ∧ Below w.heap.size w w' := by
  have HC := Lib.hid (fun j (hj : j < 12) => ((below_alloc1 w (.cells #[.slice (some ⟨g, 0, none⟩) 12 cap] 26)).cell (p := ⟨g, j, none⟩) hg).trans (hcl j hj))
  obtain ⟨_, c0, _⟩ := one_alloc (w := w) (v := .slice (some ⟨g, 0, none⟩) 12 cap) (t := 26)
  have B0 := Lib.hid (below_alloc1 w (.cells #[.slice (some ⟨g, 0, none⟩) 12 cap] 26))
  have HK := Lib.hid hc
  clear hcl hc
  go_enter Tryd.func15, Tryd.ntmps15
  go_upto_region 1 with fail
  obtain ⟨W0, hW⟩ : ∃ W, W = w.alloc (.cells #[.slice (some ⟨g, 0, none⟩) 12 cap] 26) := ⟨_, rfl⟩
  rw [← hW] at HC c0 B0 ⊢
  clear hW
  go_wp2_with fail
  go_loopw [7, 10] (fun s k wr => ∃ (t : Nat) (S : Int), t ≤ n ∧ S = cycTo xs i t ∧ s = .int .i64 S ∧ k = .int .i64 t ∧ wr = W0) (fun _ k _ => n - (intOf k).toNat)
  case atStart => exact ⟨0, 0, Nat.zero_le _, rfl, rfl, rfl, rfl⟩
  case round =>
    obtain ⟨t, S, ht, hS, rfl, rfl, rfl⟩ := hrel
    have hb := cyc_bd HK.out i (k := t) (by omega)
    rw [← hS] at hb
    have HS := Lib.hid hS
    clear hS
    by_cases hlt : t < n
    · have q3 : (t : Int) < n := by omega
      obtain ⟨x, hx⟩ : ∃ x, x = xs.getD ((i + t) % 12) 0 := ⟨_, rfl⟩
      have q1 : wr.cell? ⟨g, (i + t) % 12, none⟩ = some (.int .i64 x) := (HC.out _ (by omega)).trans (by rw [hx])
      have HX := Lib.hid hx
      have hxb : 0 ≤ x ∧ x ≤ 12 := by rw [hx]; exact cir_part HK.out (by omega)
      have hl12 : (i + t) % 12 < 12 := by omega
      clear hx
      go_wp2_with fail
      go_roundw
      case rel => exact ⟨t + 1, S + x, by omega, by rw [HS.out, HX.out]; rfl, by go_num, by go_num, by trivial⟩
      case measure => simp [intOf]; omega
    · have q3 : ¬ (t : Int) < n := by omega
      obtain rfl : t = n := by omega
      go_wp2_with fail
      go_ret
      exact ⟨ret_int HS.out, B0.out⟩
set_option maxRecDepth 100000 in
set_option maxHeartbeats 2000000 in
theorem parts_impl {xs : List Int} {i y : Int} (hf : CycAt 4 xs i y) (w : World) (b : Nat) (e : TypeId) (v : Value) (hl : xs.length ≤ 2000000) (h : w.ownsRow b e 1 v xs.length (intCs xs)) :
    Calls Tryd.prog 8 #[cirV v, .int .i64 i] w fun en w' => en = .returned (.int .i64 y) ∧ Below w.heap.size w w' := by
  have CO := Lib.hid (cirOk_impl _ b e v xs hl (own_below h (below_alloc1 w (.cells #[v] 26))))
  have CK := Lib.hid (isKey_any i)
  rcases hf with ⟨⟨hc, hi⟩, hy⟩ | ⟨hb, rfl⟩
  · rw [show cirB xs = true from decide_eq_true hc] at CO
    rw [decide_eq_true hi] at CK
    obtain ⟨j, hj⟩ : ∃ j, j = i.toNat := ⟨_, rfl⟩
    rw [← hj] at hy
    have hi' : i = (j : Int) := by omega
    have hj12 : j < 12 := by omega
    subst hi'
    clear hj hi hl
    obtain ⟨g, cap, rfl, hg, _, _, hcl⟩ := cir_row h hc
    have HP := Lib.hid (fun w (hg : g < w.heap.size) hcl => partsFrom_any hc j 4 hj12 (by omega) w g cap hg hcl)
    rw [← hy] at HP
    have HC := Lib.hid hcl
    have HG := Lib.hid hg
    clear hy hcl h hc hg
    go_enter Tryd.func8, Tryd.ntmps8
    go_wp2_with fail
    refine CO.out.mono ?_
    rintro e1 w1 ⟨rfl, b1⟩
    obtain ⟨_, c0, _⟩ := one_keep b1 (one_alloc (w := w) (v := .slice (some ⟨g, 0, none⟩) 12 cap) (t := 26))
    have B1 := Lib.hid ((below_alloc1 w (.cells #[.slice (some ⟨g, 0, none⟩) 12 cap] 26)).trans (b1.mono (by simp)))
    clear b1
    go_wp2_with fail
    refine (CK.out _).mono ?_
    rintro e2 w2 ⟨rfl, rfl⟩
    go_wp2_with fail
    refine (HP.out _ (Nat.lt_of_lt_of_le HG.out B1.out.size) (fun t ht => (B1.out.cell (p := ⟨g, t, none⟩) HG.out).trans (HC.out t ht))).mono ?_
    rintro e3 w3 ⟨rfl, b3⟩
    have B3 := Lib.hid (B1.out.trans (b3.mono B1.out.size))
    clear c0 b3 B1
    go_wp2_with fail
    go_ret
    exact ⟨rfl, B3.out⟩
  · generalize cirB xs = y at CO hb
    generalize decide (0 ≤ i ∧ i ≤ 11) = z at CK hb
    obtain ⟨p0, c0, rfl⟩ := own_slice h
    clear h hl
    generalize xs.length = n at CO ⊢
    cases y
    · go_enter Tryd.func8, Tryd.ntmps8
      go_wp2_with fail
      refine CO.out.mono ?_
      rintro e1 w1 ⟨rfl, b1⟩
      have B1 := Lib.hid ((below_alloc1 w (.cells #[.slice p0 n c0] 26)).trans (b1.mono (by simp)))
      clear b1
      go_wp2_with fail
      go_ret
      exact ⟨rfl, B1.out⟩
    · simp only [Bool.true_and] at hb
      subst hb
      go_enter Tryd.func8, Tryd.ntmps8
      go_wp2_with fail
      refine CO.out.mono ?_
      rintro e1 w1 ⟨rfl, b1⟩
      have B1 := Lib.hid ((below_alloc1 w (.cells #[.slice p0 n c0] 26)).trans (b1.mono (by simp)))
      clear b1
      go_wp2_with fail
      refine (CK.out _).mono ?_
      rintro e2 w2 ⟨rfl, rfl⟩
      go_wp2_with fail
      go_ret
      exact ⟨rfl, B1.out⟩
end Go.Proofs.YtifpknhhbdeopaaDoor
