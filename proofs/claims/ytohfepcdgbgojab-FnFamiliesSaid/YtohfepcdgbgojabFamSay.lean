/- Contract of laws.later at twelve numbers; each family has each distribution once, in order: decided by the kernel. -/
import Derived.Test.YtohfepcdgbgojabSCountMeet
import Derived.BigQuiet
namespace Go.Proofs.Ytohfepcdgbgojab
open Go.RowKit Go.Joins
set_option linter.unusedVariables false
/-- The first difference, r numbers from the place k on. -/
def laterAt (xs ys : List Int) : Nat → Nat → Bool
  | 0, _ => false
  | r + 1, k => if xs.getD k 0 = ys.getD k 0 then laterAt xs ys r (k + 1) else decide (xs.getD k 0 < ys.getD k 0)
set_option maxHeartbeats 2000000 in
theorem later_any (w : World) (g1 c1 g2 c2 : Nat) (xs ys : List Int) (h1 : ∀ j, j < 12 → w.cell? ⟨g1, j, none⟩ = some (.int .i64 (xs.getD j 0))) (h2 : ∀ j, j < 12 → w.cell? ⟨g2, j, none⟩ = some (.int .i64 (ys.getD j 0))) (l1 : g1 < w.heap.size) (l2 : g2 < w.heap.size) :
    Calls Try.prog 17 #[.slice (some ⟨g1, 0, none⟩) 12 c1, .slice (some ⟨g2, 0, none⟩) 12 c2] w fun e w' => e = .returned (.bool (laterAt xs ys 12 0)) ∧ Below w.heap.size w w' := by
  have H1 := Lib.hid h1
  have H2 := Lib.hid h2
  have L1 := Lib.hid l1
  have L2 := Lib.hid l2
  clear h1 h2 l1 l2
  go_enter Try.func17, Try.ntmps17
  go_wp2_with fail
  go_loopw [5] (fun i wr => ∃ k : Nat, k ≤ 12 ∧ i = .int .i64 (k : Int) ∧ Hid (laterAt xs ys 12 0 = laterAt xs ys (12 - k) k) ∧ Hid (Below w.heap.size w wr)) (fun i _ => 12 - (intOf i).toNat)
  case atStart => exact ⟨0, Nat.zero_le _, rfl, Lib.hid rfl, Lib.hid (Below.refl _ _)⟩
  case round =>
    obtain ⟨k, hk, rfl, HL, HB⟩ := hrel
    by_cases hlt : k < 12
    · have q3 : (k : Int) < 12 := by omega
      obtain ⟨x, hx⟩ : ∃ x, x = xs.getD k 0 := ⟨_, rfl⟩
      obtain ⟨y, hy⟩ : ∃ y, y = ys.getD k 0 := ⟨_, rfl⟩
      have q1 := (HB.out.cell (p := ⟨g1, k, none⟩) L1.out).trans (H1.out k hlt)
      have q2 := (HB.out.cell (p := ⟨g2, k, none⟩) L2.out).trans (H2.out k hlt)
      rw [← hx] at q1
      rw [← hy] at q2
      have HE : Hid (laterAt xs ys 12 0 = if x = y then laterAt xs ys (12 - (k + 1)) (k + 1) else decide (x < y)) := Lib.hid (by rw [HL.out, show 12 - k = (12 - (k + 1)) + 1 from by omega, hx, hy]; rfl)
      clear hx hy
      by_cases hxy : x = y
      · subst hxy
        have t0 : (x != x) = false := by simp
        go_wp2_with fail
        go_quiet (fail)
        go_wp2_with fail
        go_roundw
        case rel => exact ⟨k + 1, by omega, by go_num, Lib.hid (by rw [HE.out]; simp), Lib.hid (HB.out.trans ((⟨rfl, rfl, rfl, Nat.le_refl _, fun _ _ => rfl⟩ : Below wr.heap.size wr (wr.drewN _)).mono HB.out.size))⟩
        case measure => simp [intOf]; omega
      · have t0 : (x != y) = true := by simp [hxy]
        have HXY := Lib.hid hxy
        clear hxy
        go_wp2_with fail
        go_quiet (fail)
        go_wp2_with fail
        go_quiet (fail)
        go_wp2_with fail
        go_ret
        exact ⟨ret_boolT (by rw [HE.out, if_neg HXY.out]), HB.out.trans ((⟨rfl, rfl, rfl, Nat.le_refl _, fun _ _ => rfl⟩ : Below wr.heap.size wr ((wr.drewN _).drewN _)).mono HB.out.size)⟩
    · have q3 : ¬ (k : Int) < 12 := by omega
      obtain rfl : k = 12 := by omega
      go_wp2_with fail
      go_ret
      exact ⟨ret_boolT (by rw [HL.out]; rfl), HB.out⟩
/-- One circle of a family. -/
def oneOk (p : Int) (x : List Int) : Bool := cirB x && (List.range 12).all fun i => decide (x.getD i 0 = 0) || decide (x.getD i 0 = p)
/-- All of them, each later than the one before. -/
def chkL (p : Int) : List Int → List (List Int) → Bool
  | _, [] => true
  | prev, x :: xs => oneOk p x && laterAt prev x 12 0 && chkL p x xs
def famTab (p : Int) (n : Nat) : Bool := decide (FamOk p) && chkL p [-1] (famL p 12 [] 12) && decide ((famL p 12 [] 12).length = n)
theorem fam_tab : famTab 3 495 = true ∧ famTab 4 220 = true ∧ famTab 6 66 = true ∧ famTab 12 12 = true := by decide +kernel
theorem chkL_at {p : Int} : ∀ (L : List (List Int)) (prev : List Int), chkL p prev L = true → ∀ k, k < L.length → oneOk p (lAt L k) = true ∧ (0 < k → laterAt (lAt L (k - 1)) (lAt L k) 12 0 = true)
  | [], prev, _, k, hk => by simp at hk
  | x :: xs, prev, h, 0, _ => by
    unfold chkL at h
    simp only [Bool.and_eq_true] at h
    exact ⟨h.1.1, fun q => by omega⟩
  | x :: xs, prev, h, k + 1, hk => by
    unfold chkL at h
    simp only [Bool.and_eq_true] at h
    have ih := chkL_at xs x h.2 k (by simpa using hk)
    refine ⟨ih.1, fun _ => ?_⟩
    cases k with
    | zero =>
      match xs, h.2, hk with
      | y :: ys, h2, _ =>
        unfold chkL at h2
        simp only [Bool.and_eq_true] at h2
        exact h2.1.2
    | succ j => exact ih.2 (by omega)
theorem fam_says {p : Int} {n : Nat} (h : famTab p n = true) : famOf p = famL p 12 [] 12 ∧ (famOf p).length = n ∧ ∀ k, k < (famOf p).length → CirOk (lAt (famOf p) k) ∧ (∀ i, i < 12 → (lAt (famOf p) k).getD i 0 = 0 ∨ (lAt (famOf p) k).getD i 0 = p) ∧ (0 < k → laterAt (lAt (famOf p) (k - 1)) (lAt (famOf p) k) 12 0 = true) := by
  unfold famTab at h
  simp only [Bool.and_eq_true, decide_eq_true_eq] at h
  have e : famOf p = famL p 12 [] 12 := by unfold famOf; rw [if_pos h.1.1]
  rw [e]
  refine ⟨rfl, h.2, fun k hk => ?_⟩
  obtain ⟨a, b⟩ := chkL_at _ _ h.1.2 k hk
  unfold oneOk at a
  simp only [Bool.and_eq_true, List.all_eq_true, List.mem_range, Bool.or_eq_true, decide_eq_true_eq] at a
  exact ⟨of_decide_eq_true a.1, a.2, b⟩
end Go.Proofs.Ytohfepcdgbgojab
