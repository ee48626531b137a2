/- Contracts of spec.RunPlan and spec.ClosingBeats. -/
import Derived.Deep.RegionHeld3
import Derived.Test.YtcddmmepphihjaaSPlan
namespace Go.Proofs.Ytcddmmepphihjaa
open Go.RowKit Go.Joins
set_option linter.unusedVariables false
/-- A row of ints and whether there is one. -/
def RowB (xs : List Int) (z : Bool) (w : World) (e : Ending) (w' : World) : Prop := ∃ v, e = .returned (.tuple #[v, .bool z]) ∧ w'.ownsRow w.heap.size 3 1 v xs.length (intCs xs) ∧ Below w.heap.size w w'
theorem good_step {xs : List Iv} {k : Nat} (h : PlOk xs) (hk : k < xs.length) : ∃ kd bt, ivAt xs k = ⟨(k : Int), (k : Int) + 1, kd, bt⟩ ∧ (kd = 1 ∨ kd = 2) ∧ 0 ≤ bt ∧ bt ≤ 5000 := by
  have q := h.2 k hk
  revert q
  generalize ivAt xs k = X
  rintro ⟨⟨h1, h2⟩, ⟨h3, h4⟩, h5⟩
  obtain ⟨f, t, kd, bt⟩ := X
  dsimp only at h1 h2 h3 h4 h5
  subst h1 h2
  exact ⟨kd, bt, rfl, by omega, h5⟩
theorem rowB_no {xs : List Int} {z : Bool} {w W : World} (hr : xs = [] ∧ z = false) (hW : Below w.heap.size w W) : RowB xs z w (.returned (.tuple #[.slice (some ⟨W.heap.size, 0, none⟩) 0 0, .bool false])) (W.alloc (.cells #[] 3)) := by
  obtain ⟨rfl, rfl⟩ := hr
  exact ⟨_, rfl, World.ownsRow_lit W #[] 0 hW.size (by unfold maxLen; omega) rfl, hW.alloc hW.size _⟩
theorem rowB_yes {xs L : List Int} {z : Bool} {w W : World} {v : Value} (hr : xs = L ∧ z = true) (hl : L.length = 12) (h : W.ownsRow w.heap.size 3 1 v 12 (intCs L)) (hW : Below w.heap.size w W) : RowB xs z w (.returned (.tuple #[v, .bool true])) W := by
  obtain ⟨rfl, rfl⟩ := hr
  exact ⟨_, rfl, by rw [hl]; exact h, hW⟩
theorem pit_start {s : Int} {w w1 : World} {g : Nat} {xs : List Iv} (hg : w.heap.size ≤ g) (h : w1.ownsRow w.heap.size 3 1 (.slice (some ⟨g, 0, none⟩) 12 12) 12 (madeCells (Value.int .i64 0).cells (12 * 1)).toList) (hb : Below w.heap.size w w1) :
    (w1.cell? ⟨g, 0, none⟩ = some (.int .i64 0) ∧ w1.frozen? ⟨g, 0, none⟩ = false) ∧ (w1.setCell ⟨g, 0, none⟩ (.int .i64 s)).ownsRow w.heap.size 3 1 (.slice (some ⟨g, 0, none⟩) 12 12) 12 (intCs (pitL s xs 0)) ∧ Below w.heap.size w (w1.setCell ⟨g, 0, none⟩ (.int .i64 s)) := by
  have e : (madeCells (Value.int .i64 0).cells (12 * 1)).toList = intCs (List.replicate 12 0) := by simp [Value.cells, toList_madeCells_one, intCs]
  rw [e] at h
  have h2 := (h.stored 0 (.int .i64 s)).1
  have e2 : (intCs (List.replicate 12 (0 : Int))).set 0 (.int .i64 s) = intCs (pitL s xs 0) := by simp [intCs, pitL, pitK, List.range, List.range.loop, List.replicate]
  rw [e2] at h2
  exact ⟨⟨own_icell h 0 (by omega), h.frozenAt 0⟩, h2, hb.setCell (p := ⟨g, 0, none⟩) (by simp only; omega) _⟩
theorem intCs_set (xs : List Int) (i : Nat) (x : Int) : (intCs xs).set i (.int .i64 x) = intCs (xs.set i x) := by simp [intCs, List.map_set]
theorem run_bad0 {s : Int} {xs : List Iv} {k : Nat} (hk : k < xs.length) (h : pitK s xs (k + 1) = 0) : ¬ RunOk s xs := fun q => q.2 k hk h
set_option maxRecDepth 100000 in
set_option maxHeartbeats 8000000 in
theorem runPlan_spec (s : Int) (w : World) (b : Nat) (e : TypeId) (v : Value) (xs : List Iv) (hl : xs.length ≤ 2000000) (h : w.ownsRow b e 4 v xs.length (ivCs xs)) :
    Calls Try.prog 29 #[.int .i64 s, v] w (RowB (runL s xs) (runB s xs) w) := by
  obtain ⟨i0, hif, hz0, hz1, hz2⟩ := info_parts infoInt
  have PK := Lib.hid (planOk_spec w b e v xs hl h)
  obtain ⟨n, hn⟩ : ∃ n, n = xs.length := ⟨_, rfl⟩
  have HN := Lib.hid hn
  rw [← hn] at h hl
  have HO := Lib.hid h
  have hs : ∃ p c, v = .slice p n c := by
    rcases own4_shape h with ⟨q, q'⟩ | ⟨g, cap, q, _⟩
    · exact ⟨none, 0, by rw [q, q']⟩
    · exact ⟨_, _, q⟩
  obtain ⟨p, c, rfl⟩ := hs
  clear h hn
  by_cases h1 : PlOk xs
  · rw [show planB xs = true from decide_eq_true h1] at PK
    by_cases h2 : FineOk s
    · have H2 := Lib.hid (decide_eq_true h2)
      have HP := Lib.hid h1
      have HF := Lib.hid h2
      have hn11 : n ≤ 11 := by have := h1.1; have := HN.out; omega
      clear h1 h2
      go_enter Try.func29, Try.ntmps29
      go_wp2_with fail
      refine PK.out.mono ?_
      rintro e1 w1 ⟨rfl, b1⟩
      go_wp2_with fail
      refine (fine_at H2.out _).mono ?_
      rintro e1 w2 ⟨rfl, rfl⟩
      have B1 := Lib.hid b1
      have hsz := b1.size
      clear b1
      go_wp2_with (at_make; refine wpList_make_full _ rfl _ _ 31 rfl w.heap.size 3 i0 (.int .i64 0) 1 Try.underlying31 hif hz0 hz1 _ _ _ _ 12 rfl rfl rfl rfl (by rw [hz2]; omega) (by unfold maxLen; omega) hsz ?_; intro w3 hown1 hgrow1; obtain ⟨⟨q0, f0⟩, hown2, hb2⟩ := pit_start (s := s) (xs := xs) hsz hown1 (B1.out.grown hgrow1 hsz (by simp)))
      obtain ⟨g, hg⟩ : ∃ g, g = w1.heap.size := ⟨_, rfl⟩
      obtain ⟨W0, hW0⟩ : ∃ W, W = w3.setCell ⟨w1.heap.size, 0, none⟩ (.int .i64 s) := ⟨_, rfl⟩
      rw [← hW0] at hown2 hb2 ⊢
      have O0 : Hid (W0.ownsRow w.heap.size 3 1 (.slice (some ⟨g, 0, none⟩) 12 12) 12 (intCs (pitL s xs 0))) := Lib.hid (by rw [hg]; exact hown2)
      have B0 := Lib.hid hb2
      rw [← hg]
      have HGG := Lib.hid (show w.heap.size ≤ g by omega)
      clear hW0 hown1 hgrow1 q0 f0 hown2 hb2 hg B1 hsz
      go_loopw [7] (fun i wr => ∃ k : Nat, k ≤ n ∧ i = .int .i64 (k : Int) ∧ Hid (∀ j, j < k → pitK s xs (j + 1) ≠ 0) ∧ Hid (wr.ownsRow w.heap.size 3 1 (.slice (some ⟨g, 0, none⟩) 12 12) 12 (intCs (pitL s xs k))) ∧ Hid (Below w.heap.size w wr)) (fun i _ => n - (intOf i).toNat)
      case atStart => exact ⟨0, Nat.zero_le _, rfl, Lib.hid (fun j hj => by omega), O0, B0⟩
      case round =>
        obtain ⟨k, hk, rfl, HA, HT, HB⟩ := hrel
        by_cases hlt : k < n
        · have q3 : (k : Int) < n := by omega
          obtain ⟨gx, cx, hgx, _, lgx⟩ := own4_pos HO.out (by omega)
          simp only [Value.slice.injEq, true_and] at hgx
          obtain ⟨rfl, rfl⟩ := hgx
          have r1 := own_iv (own4_below HO.out HB.out) HN.out k hlt
          obtain ⟨kd, bt, hX, hkd, hbt⟩ := good_step HP.out (k := k) (by have := HN.out; omega)
          rw [hX] at r1
          obtain ⟨x0, x1, x2, x3⟩ := r1
          dsimp only at x0 x1 x2 x3
          have cP := own_icell HT.out k (by omega)
          rw [pitL_at s xs k (by omega), if_pos (Nat.le_refl _)] at cP
          have hQ : pitK s xs (k + 1) = tunV (pitK s xs k) kd bt := by show tunV _ _ _ = _; rw [hX]
          obtain ⟨P, hP⟩ : ∃ P, P = pitK s xs k := ⟨_, rfl⟩
          obtain ⟨Q, hQQ⟩ : ∃ Q, Q = pitK s xs (k + 1) := ⟨_, rfl⟩
          have TN : Hid (∀ X, Calls Try.prog 52 #[.int .i64 P, .int .i64 kd, .int .i64 bt] X fun e w' => e = .returned (.int .i64 Q) ∧ X = w') := Lib.hid (fun X => by rw [hQQ, hQ, hP]; exact tuned_spec _ _ _ X)
          rw [← hP] at cP
          have HQ := Lib.hid hQQ
          have HLT := Lib.hid hlt
          have CC : Hid (wr.cell? ⟨gx, k * 4, none⟩ = some (.int .i64 (k : Int)) ∧ wr.cell? ⟨gx, k * 4 + 2, none⟩ = some (.int .i64 kd) ∧ wr.cell? ⟨gx, k * 4 + 3, none⟩ = some (.int .i64 bt) ∧ wr.cell? ⟨g, k, none⟩ = some (.int .i64 P)) := Lib.hid ⟨x0, x2, x3, cP⟩
          obtain ⟨T, hT⟩ : ∃ T : Nat, T = k + 1 := ⟨_, rfl⟩
          have x1' : wr.cell? ⟨gx, k * 4 + 1, none⟩ = some (.int .i64 (T : Int)) := by rw [x1, hT]; push_cast; rfl
          have X1 := Lib.hid x1'
          have HTT := Lib.hid hT
          have t1 : 0 ≤ (T : Int) := by omega
          have t2 : (T : Int) < 12 := by omega
          have k12 : (k : Int) < 12 := by omega
          clear hlt hX hQ hP hQQ hkd hbt lgx x0 x1 x1' x2 x3 cP O0 B0 hT
          go_upto_region 8 with fail
          go_region_held3 (fun w' => w'.cell? ⟨gx, k * 4, none⟩ = some (.int .i64 (k : Int)) ∧ w'.cell? ⟨gx, k * 4 + 2, none⟩ = some (.int .i64 kd) ∧ w'.cell? ⟨gx, k * 4 + 3, none⟩ = some (.int .i64 bt) ∧ w'.cell? ⟨g, k, none⟩ = some (.int .i64 P)) (exact CC.out)
            (first
              | (go_at_call 52; refine (TN.out _).mono ?_; rintro e1 w4 ⟨rfl, rfl⟩))
          obtain ⟨WD, hWD⟩ : ∃ W, W = wr.drew := ⟨_, rfl⟩
          have HT1 : Hid (WD.ownsRow w.heap.size 3 1 (.slice (some ⟨g, 0, none⟩) 12 12) 12 (intCs (pitL s xs k))) := Lib.hid (by rw [hWD]; exact HT.out)
          have HB1 : Hid (Below w.heap.size w WD) := Lib.hid (by rw [hWD]; exact HB.out.drew)
          have x1 : WD.cell? ⟨gx, k * 4 + 1, none⟩ = some (.int .i64 (T : Int)) := by rw [hWD]; exact X1.out
          rw [← hWD]
          clear hWD
          by_cases q0 : Q = 0
          · have R := Lib.hid (run_no (s := s) (xs := xs) (run_bad0 (k := k) (by have := HLT.out; have := HN.out; omega) (by rw [← HQ.out]; exact q0)))
            subst q0
            go_wp2_with fail
            go_ret2
            exact rowB_no R.out HB1.out
          · have e0 : (Q == 0) = false := by simpa using q0
            have fT := HT1.out.frozenAt T
            have cT := own_icell HT1.out T (by omega)
            have ST := (HT1.out.stored T (.int .i64 Q)).1
            rw [intCs_set, HTT.out, HQ.out, pitL_set s xs (by omega)] at ST
            have ST2 : Hid ((WD.setCell ⟨g, T, none⟩ (.int .i64 Q)).ownsRow w.heap.size 3 1 (.slice (some ⟨g, 0, none⟩) 12 12) 12 (intCs (pitL s xs (k + 1)))) := Lib.hid (by rw [HTT.out, HQ.out]; exact ST)
            have BA2 := Lib.hid (HB1.out.setCell (p := ⟨g, T, none⟩) (by have := HGG.out; simp only; omega) (.int .i64 Q))
            have HA2 : Hid (∀ j, j < k + 1 → pitK s xs (j + 1) ≠ 0) := Lib.hid (fun j hj => (show j < k ∨ j = k from by omega).elim (HA.out j) (fun q => by rw [q, ← HQ.out]; exact q0))
            clear ST q0
            go_wp2_with fail
            go_roundw
            case rel => exact ⟨k + 1, HLT.out, by go_num, HA2, ST2, BA2⟩
            case measure => simp [intOf]; omega
        · have q3 : ¬ (k : Int) < n := by omega
          have e : k = n := by omega
          subst e
          have R := Lib.hid (run_yes (s := s) (xs := xs) ⟨⟨HP.out, HF.out⟩, fun j hj => HA.out j (by rw [HN.out]; exact hj)⟩)
          have HK := HN
          clear hlt O0 B0
          go_wp2_with fail
          go_ret2
          exact rowB_yes (by rw [HK.out] at HT; exact R.out) (pitL_len _ _ _) (by rw [← HK.out]; exact HT.out) HB.out
    · have H2 := Lib.hid (decide_eq_false h2)
      have R := Lib.hid (run_no (s := s) (xs := xs) (fun q => h2 q.1.2))
      clear h1 h2
      go_enter Try.func29, Try.ntmps29
      go_wp2_with fail
      refine PK.out.mono ?_
      rintro e1 w1 ⟨rfl, b1⟩
      go_wp2_with fail
      refine (fine_at H2.out _).mono ?_
      rintro e1 w2 ⟨rfl, rfl⟩
      go_wp2_with fail
      go_ret2
      exact rowB_no R.out b1
  · rw [show planB xs = false from decide_eq_false h1] at PK
    have R := Lib.hid (run_no (s := s) (xs := xs) (fun q => h1 q.1.1))
    clear h1
    go_enter Try.func29, Try.ntmps29
    go_wp2_with fail
    refine PK.out.mono ?_
    rintro e1 w1 ⟨rfl, b1⟩
    go_wp2_with fail
    go_ret2
    exact rowB_no R.out b1
end Go.Proofs.Ytcddmmepphihjaa
