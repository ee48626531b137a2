/- The walk of laws.FnExactSamePitchClass. -/
import Derived.Test.YtdnlebijmiaclaaOctWalks
import Derived.Test.YtdnlebijmiaclaaSOctWalks
namespace Go.Proofs.Ytdnlebijmiaclaa
open Go.RowKit Go.Joins
set_option linter.unusedVariables false
set_option maxRecDepth 100000 in
set_option maxHeartbeats 4000000 in
theorem walk_FnExactSamePitchClass (a b c d e f g h : Int) (w : World) :
    Calls Try.prog 12 #[ivV a b c d, ivV e f g h] w fun e w' => e = .returned (.bool true) ∧ Below w.heap.size w w' := by
  obtain ⟨p, q, r, s, u, h1⟩ := withinAt_ex a b c d
  obtain ⟨p', q', r', s', v, h2⟩ := withinAt_ex e f g h
  obtain ⟨C, hC⟩ : ∃ C, C = (u && v && ((p == p') && (q == q') && (r == r') && (s == s'))) := ⟨_, rfl⟩
  have S1 : Hid (∀ w, Calls Try.prog 38 #[ivV a b c d, ivV e f g h] w fun en w' => en = .returned (.bool C) ∧ Below w.heap.size w w') := Lib.hid (fun w => by rw [hC]; exact pc_spec h1 h2 w)
  have S2 : Hid (∀ w, Calls Try.prog 39 #[ivV a b c d, ivV e f g h] w fun en w' => en = .returned (.bool C) ∧ Below w.heap.size w w') := Lib.hid (fun w => by rw [hC]; exact pc_impl h1 h2 w)
  clear hC h1 h2
  go_enter Try.func12, Try.ntmps12
  go_upto_region 1 with fail
  obtain ⟨W0, hW, E0, E1, EB⟩ := boxesS w a b c d e f g h 34 34
  rw [← hW]
  have TB : Hid (PairS w.heap.size a b c d e f g h W0) := Lib.hid ⟨E0, E1⟩
  have B0 := Lib.hid EB
  clear hW E0 E1 EB
  obtain ⟨n, hn⟩ : ∃ n, n = w.heap.size := ⟨_, rfl⟩
  rw [← hn] at TB ⊢
  clear hn
  go_cut [5] (fun s5 wx => s5 = .bool C ∧ Below W0.heap.size W0 wx)
  case first =>
    go_region_held3 (fun w' => w'.cell? ⟨n, 0, none⟩ = some (.int .i64 a) ∧ w'.cell? ⟨n, 1, none⟩ = some (.int .i64 b) ∧ w'.cell? ⟨n, 2, none⟩ = some (.int .i64 c) ∧ w'.cell? ⟨n, 3, none⟩ = some (.int .i64 d) ∧ w'.cell? ⟨n + 1, 0, none⟩ = some (.int .i64 e) ∧ w'.cell? ⟨n + 1, 1, none⟩ = some (.int .i64 f) ∧ w'.cell? ⟨n + 1, 2, none⟩ = some (.int .i64 g) ∧ w'.cell? ⟨n + 1, 3, none⟩ = some (.int .i64 h)) (with_reducible first | exact pairS_cells (pairS_drew TB.out) | exact pairS_cells (pairS_keep (by assumption) TB.out) | exact pairS_cells TB.out)
      (first
        | (go_at_call 26; refine (calls_fromS (W := W0) (by with_reducible first | assumption | exact (Below.refl _ _).drew) (toInterval_any _ _ _ _ _)).mono ?_; rintro e1 w1 ⟨rfl, hb⟩)
        | (go_at_call 38; refine (calls_fromS (W := W0) (by with_reducible first | assumption | exact (Below.refl _ _).drew) (S1.out _)).mono ?_; rintro e1 w1 ⟨rfl, hb⟩))
    all_goals
      go_wp2_with fail
      go_meet
      exact ⟨rfl, hb⟩
  case rest =>
    obtain ⟨rfl, hb1⟩ := hcut
    obtain ⟨W1, hW1⟩ : ∃ W1, W1 = wc := ⟨_, rfl⟩
    rw [← hW1] at hb1 ⊢
    clear hW1
    have T1 := Lib.hid (pairS_keep hb1 TB.out)
    have B1 : Hid (Below w.heap.size w W1) := Lib.hid (B0.out.trans (hb1.mono B0.out.size))
    clear TB B0 hb1
    go_upto_region 2 with fail
    go_cut [6] (fun s6 wx => s6 = .bool C ∧ Below W1.heap.size W1 wx)
    case first =>
      go_region_held3 (fun w' => w'.cell? ⟨n, 0, none⟩ = some (.int .i64 a) ∧ w'.cell? ⟨n, 1, none⟩ = some (.int .i64 b) ∧ w'.cell? ⟨n, 2, none⟩ = some (.int .i64 c) ∧ w'.cell? ⟨n, 3, none⟩ = some (.int .i64 d) ∧ w'.cell? ⟨n + 1, 0, none⟩ = some (.int .i64 e) ∧ w'.cell? ⟨n + 1, 1, none⟩ = some (.int .i64 f) ∧ w'.cell? ⟨n + 1, 2, none⟩ = some (.int .i64 g) ∧ w'.cell? ⟨n + 1, 3, none⟩ = some (.int .i64 h)) (with_reducible first | exact pairS_cells (pairS_drew T1.out) | exact pairS_cells (pairS_keep (by assumption) T1.out) | exact pairS_cells T1.out)
        (first
          | (go_at_call 26; refine (calls_fromS (W := W1) (by with_reducible first | assumption | exact (Below.refl _ _).drew) (toInterval_any _ _ _ _ _)).mono ?_; rintro e1 w1 ⟨rfl, hb⟩)
          | (go_at_call 39; refine (calls_fromS (W := W1) (by with_reducible first | assumption | exact (Below.refl _ _).drew) (S2.out _)).mono ?_; rintro e1 w1 ⟨rfl, hb⟩))
      all_goals
        go_wp2_with fail
        go_meet
        exact ⟨rfl, hb⟩
    case rest =>
      obtain ⟨rfl, hb2⟩ := hcut
      have B2 : Hid (Below w.heap.size w wc) := Lib.hid (B1.out.trans (hb2.mono B1.out.size))
      have t0 : (C != C) = false := by cases C <;> rfl
      clear hb2 T1 B1
      go_wp2_with fail
      go_ret
      exact ⟨rfl, B2.out⟩
end Go.Proofs.Ytdnlebijmiaclaa
