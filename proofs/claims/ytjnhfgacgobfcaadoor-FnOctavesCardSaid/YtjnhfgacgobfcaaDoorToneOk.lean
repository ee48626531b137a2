/- Contracts of impl.clampedInterval and impl.IntervalOk. -/
import Derived.Test.YtjnhfgacgobfcaaDoorToneWalks
namespace Go.Proofs.YtjnhfgacgobfcaaDoor
open Go.RowKit Go.Joins
set_option linter.unusedVariables false
theorem bcellT {W w1 : World} (hb : Below W.heap.size W w1) : (∀ b o, b < W.heap.size → w1.cell? ⟨b, o, none⟩ = W.cell? ⟨b, o, none⟩) ∧ (∀ b o, b < W.heap.size → w1.frozen? ⟨b, o, none⟩ = W.frozen? ⟨b, o, none⟩) :=
  ⟨fun b o h => hb.cell (p := ⟨b, o, none⟩) h, fun b o h => hb.frozen (p := ⟨b, o, none⟩) h⟩
set_option maxHeartbeats 1000000 in
theorem clamped_any (a b c d : Int) (w : World) :
    Calls Tryd.prog 27 #[ivV a b c d] w fun e w' => e = .returned (ivV (clampI a (-400) 400) (clampI b (-400) 400) (clampI c (-400) 400) (clampI d 1 12)) ∧ Below w.heap.size w w' := by
  go_enter Tryd.func27, Tryd.ntmps27
  go_wp2_with fail
  go_region_held3 (fun w' => w'.cell? ⟨w.heap.size, 0, none⟩ = some (.int .i64 a) ∧ w'.cell? ⟨w.heap.size, 1, none⟩ = some (.int .i64 b) ∧ w'.cell? ⟨w.heap.size, 2, none⟩ = some (.int .i64 c) ∧ w'.cell? ⟨w.heap.size, 3, none⟩ = some (.int .i64 d)) (go_keep)
    (first | (go_at_call 34; refine (clamp_impl _ _ _ _).mono ?_; rintro e1 w1 ⟨rfl, rfl⟩))
  go_wp2_with fail
  refine bodyPost_ret (v := ivV (clampI a (-400) 400) (clampI b (-400) 400) (clampI c (-400) 400) (clampI d 1 12)) (by simp [results, Tryd.results27, go_sem]) rfl ⟨rfl, ?_⟩
  exact (below_alloc2 _ _ _).drew
theorem okI_of (a b c d : Int) : okI a b c d = ((a == clampI a (-400) 400) && (b == clampI b (-400) 400) && (c == clampI c (-400) 400) && (d == clampI d 1 12)) := by
  have k : ∀ n lo hi : Int, lo ≤ hi → (n == clampI n lo hi) = decide (lo ≤ n ∧ n ≤ hi) := by
    intro n lo hi h
    rw [Bool.eq_iff_iff]
    simp only [beq_iff_eq, decide_eq_true_eq]
    unfold clampI
    (repeat' split) <;> omega
  rw [k _ _ _ (by omega), k _ _ _ (by omega), k _ _ _ (by omega), k _ _ _ (by omega)]
  unfold okI
  simp only [← Bool.decide_and]
  congr 1
  simp only [eq_iff_iff]
  constructor <;> intro h <;> omega
set_option maxHeartbeats 1000000 in
theorem intervalOk_any (a b c d : Int) (w : World) :
    Calls Tryd.prog 18 #[ivV a b c d] w fun e w' => e = .returned (.bool (okI a b c d)) ∧ Below w.heap.size w w' := by
  have K := Lib.hid (okI_of a b c d)
  obtain ⟨x, hx⟩ : ∃ x : Bool, (a == clampI a (-400) 400) = x := ⟨_, rfl⟩
  obtain ⟨y, hy⟩ : ∃ x : Bool, (b == clampI b (-400) 400) = x := ⟨_, rfl⟩
  obtain ⟨z, hz⟩ : ∃ x : Bool, (c == clampI c (-400) 400) = x := ⟨_, rfl⟩
  obtain ⟨t, ht⟩ : ∃ x : Bool, (d == clampI d 1 12) = x := ⟨_, rfl⟩
  cases x
  all_goals cases y
  all_goals cases z
  all_goals cases t
  all_goals
    go_enter Tryd.func18, Tryd.ntmps18
    go_wp2_with fail
    go_region_held3 (fun w' => w'.cell? ⟨w.heap.size, 0, none⟩ = some (.int .i64 a) ∧ w'.cell? ⟨w.heap.size, 1, none⟩ = some (.int .i64 b) ∧ w'.cell? ⟨w.heap.size, 2, none⟩ = some (.int .i64 c) ∧ w'.cell? ⟨w.heap.size, 3, none⟩ = some (.int .i64 d)) (go_keep)
      (first | (go_at_call 27; refine (clamped_any _ _ _ _ _).mono ?_; rintro e1 w1 ⟨rfl, hb⟩; obtain ⟨hc, hf⟩ := bcellT hb))
    go_wp2_with fail
    go_ret
    exact ⟨ret_boolT (by rw [K.out, hx, hy, hz, ht]; rfl), Below.trans (B := w.heap.size) (below_alloc1 w _).drew (hb.mono (by simp))⟩
end Go.Proofs.YtjnhfgacgobfcaaDoor
