/- Contracts of spec.Closes and spec.GroupThirds. -/
import Derived.Test.YtjfeeppbbckneabClosMath
import Derived.Test.YtjfeeppbbckneabIntRows
import Derived.Deep.RegionHeld3
namespace Go.Proofs.Ytjfeeppbbckneab
open Go.RowKit Go.Joins
set_option linter.unusedVariables false
set_option maxRecDepth 100000 in
set_option maxHeartbeats 2000000 in
theorem closes_spec (w : World) (b : Nat) (e : TypeId) (v : Value) (xs : List Int) (hl : xs.length ≤ 2000000) (h : w.ownsRow b e 1 v xs.length (intCs xs)) :
    Calls Try.prog 32 #[v] w fun en w' => en = .returned (.bool (closB xs)) ∧ Below w.heap.size w w' := by
  obtain ⟨n, hn⟩ : ∃ n, n = xs.length := ⟨_, rfl⟩
  rw [← hn] at h hl
  have HN := Lib.hid hn
  have HW := Lib.hid h
  obtain ⟨y, hy⟩ : ∃ y, y = closB xs := ⟨_, rfl⟩
  rw [← hy]
  have HY := Lib.hid hy
  clear h hn hy
  by_cases h0 : n = 0
  · obtain ⟨p, c, rfl⟩ := own_slice HW.out
    have HF := Lib.hid (show y = false from by rw [HY.out]; exact clos_len (by have := HN.out; omega))
    have t0 : ((n : Int) == 12) = false := by simp; omega
    go_enter Try.func32, Try.ntmps32
    go_wp2_with fail
    go_loopw [3, 4] (fun s k wr => s = .int .i64 0 ∧ k = .int .i64 0 ∧ wr = w) (fun _ _ _ => 0)
    case atStart => exact ⟨rfl, rfl, rfl⟩
    case round =>
      obtain ⟨rfl, rfl, rfl⟩ := hrel
      have q3 : ¬ (0 : Int) < (n : Int) := by omega
      go_wp2_with fail
      go_ret
      exact ⟨ret_bool HF.out.symm, Below.refl _ _⟩
  · obtain ⟨g, cap, rfl, hg, _⟩ := own_pos HW.out (by omega)
    by_cases h12 : n = 12
    · subst h12
      clear h0
      go_enter Try.func32, Try.ntmps32
      go_wp2_with fail
      go_loopw [3, 4] (fun s k wr => ∃ (t : Nat) (S : Int), t ≤ 12 ∧ S = sumTo xs t ∧ Hid (∀ j, j < t → -1000 ≤ xs.getD j 0 ∧ xs.getD j 0 ≤ 1000) ∧ s = .int .i64 S ∧ k = .int .i64 t ∧ wr = w) (fun _ k _ => 12 - (intOf k).toNat)
      case atStart => exact ⟨0, 0, Nat.zero_le _, rfl, Lib.hid (fun j hj => by omega), rfl, rfl, rfl⟩
      case round =>
        obtain ⟨t, S, ht, hS, HA, rfl, rfl, hwr⟩ := hrel
        have hwr2 := hwr.symm
        clear hwr
        subst hwr2
        have hb := clos_bd HA.out t (Nat.le_refl _)
        rw [← hS] at hb
        have HS := Lib.hid hS
        clear hS
        by_cases hlt : t < 12
        · have q3 : (t : Int) < 12 := by omega
          have q1 := own_icell HW.out t hlt
          obtain ⟨x, hx⟩ : ∃ x, x = xs.getD t 0 := ⟨_, rfl⟩
          rw [← hx] at q1
          have HX := Lib.hid hx
          have HLT := Lib.hid hlt
          clear hx hlt
          by_cases hin : -1000 ≤ x ∧ x ≤ 1000
          · have IN := Lib.hid (inT_any x (-1000) 1000 w)
            rw [decide_eq_true hin] at IN
            have HIN := Lib.hid hin
            go_wp2_with fail
            refine IN.out.mono ?_
            rintro e2 w2 ⟨rfl, rfl⟩
            go_wp2_with fail
            go_roundw
            case rel => exact ⟨t + 1, S + x, HLT.out, by rw [HS.out, HX.out]; rfl, Lib.hid (fun j hj => (show j < t ∨ j = t from by omega).elim (HA.out j) (fun h => by rw [h, ← HX.out]; exact HIN.out)), by go_num, by go_num, by first | trivial | rfl⟩
            case measure => simp [intOf]; omega
          · have IN := Lib.hid (inT_any x (-1000) 1000 w)
            rw [decide_eq_false hin] at IN
            have HF := Lib.hid (show y = false from by rw [HY.out]; exact clos_bad HLT.out (by rw [← HX.out]; exact hin))
            clear hin
            go_wp2_with fail
            refine IN.out.mono ?_
            rintro e2 w2 ⟨rfl, rfl⟩
            go_wp2_with fail
            go_ret
            exact ⟨ret_bool HF.out.symm, Below.refl _ _⟩
        · have q3 : ¬ (t : Int) < 12 := by omega
          obtain rfl : t = 12 := by omega
          have HF := Lib.hid (show y = (S == 12) from by rw [HY.out, HS.out]; exact clos_sum HN.out.symm HA.out)
          go_wp2_with fail
          go_ret
          exact ⟨ret_bool HF.out.symm, Below.refl _ _⟩
    · have HF := Lib.hid (show y = false from by rw [HY.out]; exact clos_len (by have := HN.out; omega))
      have t0 : ((n : Int) != 12) = true := by simp; omega
      have hp : 0 < n := by omega
      clear h0 h12
      go_enter Try.func32, Try.ntmps32
      go_wp2_with fail
      go_loopw [3, 4] (fun s k wr => s = .int .i64 0 ∧ k = .int .i64 0 ∧ wr = w) (fun _ _ _ => 0)
      case atStart => exact ⟨rfl, rfl, rfl⟩
      case round =>
        obtain ⟨rfl, rfl, rfl⟩ := hrel
        have q3 : (0 : Int) < (n : Int) := by omega
        have q1 := own_icell HW.out 0 hp
        obtain ⟨x, hx⟩ : ∃ x, x = xs.getD 0 0 := ⟨_, rfl⟩
        rw [← hx] at q1
        clear hx
        have IN := Lib.hid (fun w => inT_any x (-1000) 1000 w)
        obtain ⟨z, hz⟩ : ∃ z, z = decide (-1000 ≤ x ∧ x ≤ 1000) := ⟨_, rfl⟩
        rw [← hz] at IN
        clear hz
        cases z
        · go_wp2_with fail
          refine (IN.out _).mono ?_
          rintro e2 w2 ⟨rfl, rfl⟩
          go_wp2_with fail
          go_ret
          exact ⟨ret_bool HF.out.symm, Below.refl _ _⟩
        · go_wp2_with fail
          refine (IN.out _).mono ?_
          rintro e2 w2 ⟨rfl, rfl⟩
          go_wp2_with fail
          go_ret
          exact ⟨ret_bool HF.out.symm, Below.refl _ _⟩
/-- A sum of four parts behind a world that is named. -/
def SmSay (v : Value) (i p : Int) (W : World) : Prop := ∀ X, Below W.heap.size W X → Calls Try.prog 49 #[cirV v, .int .i64 i, .int .i64 4] X fun e w' => e = .returned (.int .i64 p) ∧ Below W.heap.size W w'
theorem sm_run {v : Value} {i p : Int} {W : World} (h : SmSay v i p W) (X : World) (hX : Below W.heap.size W X) : Calls Try.prog 49 #[cirV v, .int .i64 i, .int .i64 4] X fun e w' => e = .returned (.int .i64 p) ∧ Below W.heap.size W w' := h X hX
theorem sm_says {xs : List Int} (hc : CirOk xs) {i : Nat} (hi : i < 12) {W : World} {g cap : Nat} (hg : g < W.heap.size) (hcl : ∀ j, j < 12 → W.cell? ⟨g, j, none⟩ = some (.int .i64 (xs.getD j 0))) :
    SmSay (.slice (some ⟨g, 0, none⟩) 12 cap) (i : Int) (cycTo xs i 4) W := fun X hX =>
  (l13Sum_any hc i 4 hi (by omega) X g cap (Nat.lt_of_lt_of_le hg hX.size) (fun j hj => (hX.cell (p := ⟨g, j, none⟩) hg).trans (hcl j hj))).mono fun _ _ ⟨he, hb⟩ => ⟨he, hX.trans (hb.mono hX.size)⟩
/-- The circle's box. -/
theorem one_c {w : World} {m : Nat} {v : Value} (h : One m v w) : w.cell? ⟨m, 0, none⟩ = some v := h.2.1
set_option maxRecDepth 100000 in
set_option maxHeartbeats 4000000 in
theorem groupThirds_spec {xs : List Int} {i p q r : Int} (hf : GtAt xs i p q r) (w : World) (b : Nat) (e : TypeId) (v : Value) (hl : xs.length ≤ 2000000) (h : w.ownsRow b e 1 v xs.length (intCs xs)) :
    Calls Try.prog 34 #[cirV v, .int .i64 i] w fun en w' => en = .returned (.tuple #[.int .i64 p, .int .i64 q, .int .i64 r]) ∧ Below w.heap.size w w' := by
  have CO := Lib.hid (fun X (hX : Below w.heap.size w X) => cirOk_spec X b e v xs hl (own_below h hX))
  have IN := Lib.hid (fun X => inT_any i 0 3 X)
  have B0 := Lib.hid (below_alloc1 w (.cells #[v] 26))
  have C0 := Lib.hid (one_alloc (w := w) (v := v) (t := 26))
  rcases hf with ⟨⟨hc, hi⟩, hp, hq, hr⟩ | ⟨hb, rfl, rfl, rfl⟩
  · rw [show cirB xs = true from decide_eq_true hc] at CO
    rw [decide_eq_true hi] at IN
    obtain ⟨j, hj⟩ : ∃ j, j = i.toNat := ⟨_, rfl⟩
    rw [← hj] at hp hq hr
    have hi' : i = (j : Int) := by omega
    have hj4 : j < 4 := by omega
    subst hi'
    clear hj hi hl
    obtain ⟨g, cap, rfl, hg, _, _, hcl⟩ := cir_row h hc
    obtain ⟨W0, hW⟩ : ∃ W, W = w.alloc (.cells #[.slice (some ⟨g, 0, none⟩) 12 cap] 26) := ⟨_, rfl⟩
    rw [← hW] at B0 C0
    have S0 := Lib.hid (fun X (hX : Below w.heap.size w X) => sm_says hc (i := j) (by omega) (Nat.lt_of_lt_of_le hg hX.size) (fun t ht => (hX.cell (p := ⟨g, t, none⟩) hg).trans (hcl t ht)) (cap := cap))
    have S4 := Lib.hid (fun X (hX : Below w.heap.size w X) => sm_says hc (i := j + 4) (by omega) (Nat.lt_of_lt_of_le hg hX.size) (fun t ht => (hX.cell (p := ⟨g, t, none⟩) hg).trans (hcl t ht)) (cap := cap))
    have S8 := Lib.hid (fun X (hX : Below w.heap.size w X) => sm_says hc (i := j + 8) (by omega) (Nat.lt_of_lt_of_le hg hX.size) (fun t ht => (hX.cell (p := ⟨g, t, none⟩) hg).trans (hcl t ht)) (cap := cap))
    rw [← hp] at S0
    rw [← hq, show ((j + 4 : Nat) : Int) = (j : Int) + 4 from by omega] at S4
    rw [← hr, show ((j + 8 : Nat) : Int) = (j : Int) + 8 from by omega] at S8
    clear hcl h hc hg hp hq hr
    go_enter Try.func34, Try.ntmps34
    go_upto_region 1 with fail
    rw [← hW]
    obtain ⟨m, hm⟩ : ∃ m, m = w.heap.size := ⟨_, rfl⟩
    rw [← hm] at C0 ⊢
    clear hW hm
    have c0 := one_c C0.out
    go_wp2_with fail
    refine (CO.out _ B0.out).mono ?_
    rintro e1 w1 ⟨rfl, b1⟩
    have C1 := Lib.hid (one_keep b1 C0.out)
    have B1 := Lib.hid (B0.out.trans (b1.mono B0.out.size))
    clear b1 c0 C0 B0
    go_wp2_with fail
    refine (IN.out _).mono ?_
    rintro e2 w2 ⟨rfl, rfl⟩
    have Q0 := S0.out _ B1.out
    have Q4 := S4.out _ B1.out
    have Q8 := S8.out _ B1.out
    clear S0 S4 S8
    have c1 := one_c C1.out
    have t4 : IntKind.i64.wrap ((j : Int) + 4) = (j : Int) + 4 := IntWalk.i64_in _ (by omega)
    have t8 : IntKind.i64.wrap ((j : Int) + 8) = (j : Int) + 8 := IntWalk.i64_in _ (by omega)
    go_upto_region 3 with fail
    go_region_held3 (fun w' => w'.cell? ⟨m, 0, none⟩ = some (.slice (some ⟨g, 0, none⟩) 12 cap)) (with_reducible first | exact one_c (one_keep (Below.refl _ _).drew C1.out) | exact one_c (one_keep (by assumption) C1.out) | exact one_c C1.out)
      (first
        | (go_at_call 49; refine (sm_run (W := w1) (by with_reducible assumption) _ (by with_reducible first | assumption | exact (Below.refl _ _) | exact (Below.refl _ _).drew)).mono ?_; rintro e1 w3 ⟨rfl, hb⟩))
    all_goals
      have B3 := Lib.hid (B1.out.trans (hb.mono B1.out.size))
      go_wp2_with fail
      exact bodyPost_ret (v := .tuple #[.int .i64 p, .int .i64 q, .int .i64 r]) (by simp [results, Try.results34, go_sem]) rfl ⟨rfl, B3.out⟩
  · obtain ⟨p0, c0, rfl⟩ := own_slice h
    clear h hl
    generalize cirB xs = y at CO hb
    generalize decide (0 ≤ i ∧ i ≤ 3) = z at IN hb
    generalize xs.length = n at CO B0 C0 ⊢
    cases y
    · go_enter Try.func34, Try.ntmps34
      go_wp2_with fail
      refine (CO.out _ B0.out).mono ?_
      rintro e1 w1 ⟨rfl, b1⟩
      have B1 := Lib.hid (B0.out.trans (b1.mono B0.out.size))
      go_wp2_with fail
      exact bodyPost_ret (v := .tuple #[.int .i64 0, .int .i64 0, .int .i64 0]) (by simp [results, Try.results34, go_sem]) rfl ⟨rfl, B1.out⟩
    · obtain rfl : z = false := hb
      go_enter Try.func34, Try.ntmps34
      go_wp2_with fail
      refine (CO.out _ B0.out).mono ?_
      rintro e1 w1 ⟨rfl, b1⟩
      have B1 := Lib.hid (B0.out.trans (b1.mono B0.out.size))
      go_wp2_with fail
      refine (IN.out _).mono ?_
      rintro e2 w2 ⟨rfl, rfl⟩
      go_wp2_with fail
      exact bodyPost_ret (v := .tuple #[.int .i64 0, .int .i64 0, .int .i64 0]) (by simp [results, Try.results34, go_sem]) rfl ⟨rfl, B1.out⟩
end Go.Proofs.Ytjfeeppbbckneab
