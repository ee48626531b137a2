/- Contracts of impl.isPlanStep, slices.Contains over ints, impl.keysOfPlan, PlanOk and KeysTuned. -/
import Derived.Deep.LoopGhost
import Derived.Test.YtbklnlmijkclmaaPlanImpl
import Derived.Test.YtbklnlmijkclmaaTuneEnd
namespace Go.Proofs.Ytbklnlmijkclmaa
open Go.RowKit Go.Joins
set_option linter.unusedVariables false
set_option linter.unusedSimpArgs false
/-- A step that is looked at alone. -/
def StepB (fr ton kd bt : Int) : Prop := ((kd = 1 ∨ kd = 2) ∧ 0 ≤ bt ∧ bt ≤ 5000) ∧ (0 ≤ fr ∧ fr ≤ 11) ∧ ton = (fr + 1) % 12
instance (fr ton kd bt : Int) : Decidable (StepB fr ton kd bt) := by unfold StepB; infer_instance
theorem key_at {n : Int} {b : Bool} (h : decide (0 ≤ n ∧ n ≤ 11) = b) (w : World) : Calls Try.prog 71 #[.int .i64 n] w fun e w' => e = .returned (.bool b) ∧ w = w' := by
  subst h
  by_cases h1 : 0 ≤ n
  · by_cases h2 : n < 12
    · have R := Lib.hid (And.intro h1 (show n ≤ 11 from by omega))
      go_enter Try.func71, Try.ntmps71
      go_wp2
      go_ret
      exact ⟨ret_boolT (decide_eq_true R.out).symm, rfl⟩
    · have R := Lib.hid h2
      go_enter Try.func71, Try.ntmps71
      go_wp2
      go_ret
      exact ⟨ret_boolT (decide_eq_false (fun h => by have := R.out; omega)).symm, rfl⟩
  · have R := Lib.hid h1
    go_enter Try.func71, Try.ntmps71
    go_wp2
    go_ret
    exact ⟨ret_boolT (by have := R.out; simp; omega), rfl⟩
set_option maxHeartbeats 1000000 in
theorem planStep_at {fr ton kd bt : Int} {b : Bool} (h : decide (StepB fr ton kd bt) = b) (w : World) : Calls Try.prog 63 #[ivV fr ton kd bt] w fun e w' => e = .returned (.bool b) ∧ Below w.heap.size w w' := by
  have HB := Lib.hid h
  clear h
  by_cases h1 : kd = 1 ∨ kd = 2
  · have H1 := Lib.hid (decide_eq_true h1)
    by_cases h2 : bt < 0
    · have R := Lib.hid (show b = false from by rw [← HB.out]; exact decide_eq_false (fun q => by have := q.1.2.1; omega))
      clear h1
      go_enter Try.func63, Try.ntmps63
      go_wp2_with fail
      refine (tempered_at H1.out _).mono ?_
      rintro e1 w1 ⟨rfl, rfl⟩
      go_wp2_with fail
      go_ret
      exact ⟨ret_boolT R.out.symm, below_alloc1 _ _⟩
    · by_cases h3 : bt ≤ 5000
      · by_cases h4 : 0 ≤ fr ∧ fr ≤ 11
        · have H4 := Lib.hid (decide_eq_true h4)
          obtain ⟨F, hF⟩ : ∃ F : Nat, fr = F := ⟨fr.toNat, by omega⟩
          subst hF
          have hF11 : F ≤ 11 := by omega
          obtain ⟨z, hz⟩ : ∃ z : Bool, (ton == ((F : Int) + 1) % 12) = z := ⟨_, rfl⟩
          have R := Lib.hid (show b = z from by
            rw [← HB.out, ← hz, Bool.eq_iff_iff]
            simp only [decide_eq_true_eq, beq_iff_eq]
            exact ⟨fun q => q.2.2, fun q => ⟨⟨h1, by omega, h3⟩, h4, q⟩⟩)
          clear h1 h4
          go_enter Try.func63, Try.ntmps63
          go_wp2_with fail
          refine (tempered_at H1.out _).mono ?_
          rintro e1 w1 ⟨rfl, rfl⟩
          go_wp2_with fail
          refine (key_at H4.out _).mono ?_
          rintro e1 w1 ⟨rfl, rfl⟩
          go_wp2_with fail
          go_ret
          exact ⟨ret_boolT R.out.symm, below_alloc1 _ _⟩
        · have H4 := Lib.hid (decide_eq_false h4)
          have R := Lib.hid (show b = false from by rw [← HB.out]; exact decide_eq_false (fun q => h4 q.2.1))
          clear h1 h4
          go_enter Try.func63, Try.ntmps63
          go_wp2_with fail
          refine (tempered_at H1.out _).mono ?_
          rintro e1 w1 ⟨rfl, rfl⟩
          go_wp2_with fail
          refine (key_at H4.out _).mono ?_
          rintro e1 w1 ⟨rfl, rfl⟩
          go_wp2_with fail
          go_ret
          exact ⟨ret_boolT R.out.symm, below_alloc1 _ _⟩
      · have R := Lib.hid (show b = false from by rw [← HB.out]; exact decide_eq_false (fun q => h3 q.1.2.2))
        clear h1
        go_enter Try.func63, Try.ntmps63
        go_wp2_with fail
        refine (tempered_at H1.out _).mono ?_
        rintro e1 w1 ⟨rfl, rfl⟩
        go_wp2_with fail
        go_ret
        exact ⟨ret_boolT R.out.symm, below_alloc1 _ _⟩
  · have H1 := Lib.hid (decide_eq_false h1)
    have R := Lib.hid (show b = false from by rw [← HB.out]; exact decide_eq_false (fun q => h1 q.1.1))
    clear h1
    go_enter Try.func63, Try.ntmps63
    go_wp2_with fail
    refine (tempered_at H1.out _).mono ?_
    rintro e1 w1 ⟨rfl, rfl⟩
    go_wp2_with fail
    go_ret
    exact ⟨ret_boolT R.out.symm, below_alloc1 _ _⟩
/-- What a search leaves: a place from 0 on just if there is one. -/
def FoundB (z : Bool) (w : World) (e : Ending) (w' : World) : Prop := ∃ r : Int, (e = .returned (.int .i64 r) ∧ w = w') ∧ decide (0 ≤ r) = z
theorem found_yes {xs : List Int} {x : Int} {j : Nat} {w : World} (hj : j < xs.length) (h : xs.getD j 0 = x) : FoundB (decide (x ∈ xs)) w (.returned (.int .i64 (j : Int))) w := by
  refine ⟨j, ⟨rfl, rfl⟩, ?_⟩
  rw [decide_eq_true (show (0 : Int) ≤ j from by omega), decide_eq_true]
  rw [← h]
  simp [hj]
theorem found_no {xs : List Int} {x : Int} {w : World} (h : ∀ j, j < xs.length → xs.getD j 0 ≠ x) : FoundB (decide (x ∈ xs)) w (.returned (.int .i64 (-1))) w := by
  refine ⟨-1, ⟨rfl, rfl⟩, ?_⟩
  rw [decide_eq_false (show ¬ (0 : Int) ≤ -1 from by omega), decide_eq_false]
  intro q
  obtain ⟨j, hj, e⟩ := List.getElem_of_mem q
  exact h j hj (by simp [hj, e])
set_option maxHeartbeats 1000000 in
theorem index_impl (w : World) (base : Nat) (e : TypeId) (v : Value) (xs : List Int) (x : Int) (hl : xs.length ≤ 2000000) (h : w.ownsRow base e 1 v xs.length (intCs xs)) :
    Calls Try.prog 72 #[v, .int .i64 x] w (FoundB (decide (x ∈ xs)) w) := by
  obtain ⟨n, hn⟩ : ∃ n, n = xs.length := ⟨_, rfl⟩
  have HN := Lib.hid hn
  rw [← hn] at h hl
  have HO := Lib.hid h
  have hs : ∃ p c, v = .slice p n c := by
    rcases h.2 with ⟨q, q'⟩ | ⟨g, cap, cur, q, _⟩
    · exact ⟨none, 0, by rw [q, q']⟩
    · exact ⟨_, _, q⟩
  obtain ⟨p, c, rfl⟩ := hs
  clear h hn
  go_enter Try.func72, Try.ntmps72
  go_wp2_with fail
  go_loopw [8] (fun i wr => ∃ k : Nat, k ≤ n ∧ i = .int .i64 (k : Int) ∧ Hid (∀ j, j < k → xs.getD j 0 ≠ x) ∧ w = wr) (fun i _ => n - (intOf i).toNat)
  case atStart => exact ⟨0, Nat.zero_le _, rfl, Lib.hid (fun j hj => by omega), rfl⟩
  case round =>
    obtain ⟨k, hk, rfl, HA, rfl⟩ := hrel
    by_cases hlt : k < n
    · have q3 : (k : Int) < n := by omega
      have hsh : ∃ gx cx, p = some ⟨gx, 0, none⟩ ∧ c = cx := by
        rcases HO.out.2 with ⟨q, q'⟩ | ⟨g, cap, cur, hv, _⟩
        · omega
        · simp only [Value.slice.injEq, true_and] at hv
          exact ⟨g, cap, hv.1, hv.2⟩
      obtain ⟨gx, cx, rfl, rfl⟩ := hsh
      have cK := own_icell HO.out k hlt
      obtain ⟨y, hy⟩ : ∃ y, y = xs.getD k 0 := ⟨_, rfl⟩
      rw [← hy] at cK
      have HY := Lib.hid hy
      by_cases hxy : x = y
      · have t1 : (x == y) = true := by simpa using hxy
        have R := Lib.hid (found_yes (w := w) (x := x) (xs := xs) (j := k) (by have := HN.out; omega) (by rw [← HY.out, hxy]))
        clear hy hxy hlt
        go_wp2_with fail
        go_ret
        exact R.out
      · have t1 : (x == y) = false := by simpa using hxy
        have HA2 : Hid (∀ j, j < k + 1 → xs.getD j 0 ≠ x) := Lib.hid (fun j hj => (show j < k ∨ j = k from by omega).elim (HA.out j) (fun q => by rw [q, ← HY.out]; exact fun r => hxy r.symm))
        clear hy hxy
        go_wp2_with fail
        go_roundw
        case rel => exact ⟨k + 1, hlt, by go_num, HA2, by trivial⟩
        case measure => simp [intOf]; omega
    · have q3 : ¬ (k : Int) < n := by omega
      have R := Lib.hid (found_no (w := w) (x := x) (xs := xs) (fun j hj => HA.out j (by have := HN.out; omega)))
      go_wp2_with fail
      go_ret
      exact R.out
theorem contains_impl (w : World) (base : Nat) (e : TypeId) (v : Value) (xs : List Int) (x : Int) {z : Bool} (hz : decide (x ∈ xs) = z) (hl : xs.length ≤ 2000000) (h : w.ownsRow base e 1 v xs.length (intCs xs)) :
    Calls Try.prog 64 #[v, .int .i64 x] w fun e w' => e = .returned (.bool z) ∧ w = w' := by
  have IX := Lib.hid (index_impl w base e v xs x hl h)
  rw [hz] at IX
  have hs : ∃ p c, v = .slice p xs.length c := by
    rcases h.2 with ⟨q, q'⟩ | ⟨g, cap, cur, q, _⟩
    · exact ⟨none, 0, by rw [q, q']⟩
    · exact ⟨_, _, q⟩
  obtain ⟨p, c, rfl⟩ := hs
  clear h hz hl
  go_enter Try.func64, Try.ntmps64
  go_wp2_with fail
  refine IX.out.mono ?_
  rintro e1 w1 ⟨r, ⟨rfl, rfl⟩, hr⟩
  have HR := Lib.hid hr
  clear hr
  go_wp2_with fail
  go_ret
  exact ⟨ret_boolT (by rw [← HR.out]), rfl⟩
/-- The keys behind k steps. -/
def keyUp (k : Nat) : List Int := (List.range (k + 1)).map fun (j : Nat) => (j : Int)
theorem keyUp_len (k : Nat) : (keyUp k).length = k + 1 := by simp [keyUp]
theorem keyUp_at (k j : Nat) (h : j ≤ k) : (keyUp k).getD j 0 = (j : Int) := by simp [keyUp, show j < k + 1 from by omega]
theorem keyUp_mem (k T : Nat) : decide ((T : Int) ∈ keyUp k) = decide (T ≤ k) := by
  rw [Bool.eq_iff_iff]
  simp only [decide_eq_true_eq, keyUp, List.mem_map, List.mem_range]
  constructor
  · rintro ⟨j, h1, h2⟩; omega
  · intro h; exact ⟨T, by omega, rfl⟩
theorem keyUp_succ (k : Nat) : keyUp (k + 1) = keyUp k ++ [((k + 1 : Nat) : Int)] := by
  unfold keyUp
  rw [List.range_succ, List.map_append]
  rfl
theorem keysL_up {xs : List Iv} (h : PlOk xs) : keysL xs = keyUp xs.length := if_pos h
theorem keysL_no {xs : List Iv} (h : ¬ PlOk xs) : keysL xs = [] := if_neg h
theorem rowB_nil {xs : List Int} {z : Bool} {w W : World} (hr : xs = [] ∧ z = false) (hW : Below w.heap.size w W) : RowB xs z w (.returned (.tuple #[.slice none 0 0, .bool false])) W := by
  obtain ⟨rfl, rfl⟩ := hr
  exact ⟨_, rfl, World.ownsRow_nil _ _ _ _, hW⟩
end Go.Proofs.Ytbklnlmijkclmaa
