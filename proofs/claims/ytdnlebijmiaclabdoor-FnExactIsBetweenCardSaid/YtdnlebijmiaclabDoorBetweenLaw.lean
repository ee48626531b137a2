/- The walk of laws.FnExactIsBetween. -/
import Derived.Test.YtdnlebijmiaclabDoorSBetween
import Derived.Test.YtdnlebijmiaclabDoorCmpToneLaw
namespace Go.Proofs.YtdnlebijmiaclabDoor
open Go.RowKit Go.Joins
set_option linter.unusedVariables false
/-- Three intervals lie in the blocks n, n + 1 and n + 2. -/
def Tri (n : Nat) (a b c d e f g h i j k l : Int) (w : World) : Prop := Four n a b c d w ∧ Four (n + 1) e f g h w ∧ Four (n + 2) i j k l w
theorem tri_keep {W w : World} {n : Nat} {a b c d e f g h i j k l : Int} (hb : Below W.heap.size W w) (hp : Tri n a b c d e f g h i j k l W) : Tri n a b c d e f g h i j k l w := ⟨four_keep hb hp.1, four_keep hb hp.2.1, four_keep hb hp.2.2⟩
theorem tri_cells {w : World} {n : Nat} {a b c d e f g h i j k l : Int} (hp : Tri n a b c d e f g h i j k l w) : w.cell? ⟨n, 0, none⟩ = some (.int .i64 a) ∧ w.cell? ⟨n, 1, none⟩ = some (.int .i64 b) ∧ w.cell? ⟨n, 2, none⟩ = some (.int .i64 c) ∧ w.cell? ⟨n, 3, none⟩ = some (.int .i64 d) ∧ w.cell? ⟨n + 1, 0, none⟩ = some (.int .i64 e) ∧ w.cell? ⟨n + 1, 1, none⟩ = some (.int .i64 f) ∧ w.cell? ⟨n + 1, 2, none⟩ = some (.int .i64 g) ∧ w.cell? ⟨n + 1, 3, none⟩ = some (.int .i64 h) ∧ w.cell? ⟨n + 1 + 1, 0, none⟩ = some (.int .i64 i) ∧ w.cell? ⟨n + 1 + 1, 1, none⟩ = some (.int .i64 j) ∧ w.cell? ⟨n + 1 + 1, 2, none⟩ = some (.int .i64 k) ∧ w.cell? ⟨n + 1 + 1, 3, none⟩ = some (.int .i64 l) := ⟨hp.1.2.1, hp.1.2.2.1, hp.1.2.2.2.1, hp.1.2.2.2.2, hp.2.1.2.1, hp.2.1.2.2.1, hp.2.1.2.2.2.1, hp.2.1.2.2.2.2, hp.2.2.2⟩
theorem tri_drew {w : World} {n : Nat} {a b c d e f g h i j k l : Int} (hp : Tri n a b c d e f g h i j k l w) : Tri n a b c d e f g h i j k l w.drew := hp
set_option maxRecDepth 100000 in
set_option maxHeartbeats 4000000 in
theorem walk_FnExactIsBetween (A : Addr) (a b c d e f g h i j k l : Int) (w : World) (hs : SenAt A w) :
    Calls Tryd.prog 7 #[ivV a b c d, ivV e f g h, ivV i j k l] w fun e w' => e = .returned (.bool true) ∧ Below w.heap.size w w' := by
  have HS := Lib.hid hs
  clear hs
  obtain ⟨C, hC⟩ : ∃ C, C = btw a b c d e f g h i j k l := ⟨_, rfl⟩
  have S1 : Hid (∀ w, Calls Tryd.prog 31 #[ivV a b c d, ivV e f g h, ivV i j k l] w fun en w' => en = .returned (.bool C) ∧ Below w.heap.size w w') := Lib.hid (fun w => by rw [hC]; exact between_spec a b c d e f g h i j k l w)
  have S2 : Hid (∀ w, SenAt A w → Calls Tryd.prog 22 #[ivV a b c d, ivV e f g h, ivV i j k l] w fun en w' => en = .returned (.bool C) ∧ Below w.heap.size w w') := Lib.hid (fun w hs => by rw [hC]; exact between_impl A a b c d e f g h i j k l w hs)
  clear hC
  go_enter Tryd.func7, Tryd.ntmps7
  go_upto_region 1 with fail
  obtain ⟨W0, hW, E0, E1, E2, EB⟩ := boxes3 w a b c d e f g h i j k l 38 38 38
  rw [← hW]
  have TB : Hid (Tri w.heap.size a b c d e f g h i j k l W0) := Lib.hid ⟨E0, E1, E2⟩
  have B0 := Lib.hid EB
  clear hW E0 E1 E2 EB
  obtain ⟨n, hn⟩ : ∃ n, n = w.heap.size := ⟨_, rfl⟩
  rw [← hn] at TB ⊢
  clear hn
  go_cut [7] (fun s5 wx => s5 = .bool C ∧ Below W0.heap.size W0 wx)
  case first =>
    go_region_held3 (fun w' => w'.cell? ⟨n, 0, none⟩ = some (.int .i64 a) ∧ w'.cell? ⟨n, 1, none⟩ = some (.int .i64 b) ∧ w'.cell? ⟨n, 2, none⟩ = some (.int .i64 c) ∧ w'.cell? ⟨n, 3, none⟩ = some (.int .i64 d) ∧ w'.cell? ⟨n + 1, 0, none⟩ = some (.int .i64 e) ∧ w'.cell? ⟨n + 1, 1, none⟩ = some (.int .i64 f) ∧ w'.cell? ⟨n + 1, 2, none⟩ = some (.int .i64 g) ∧ w'.cell? ⟨n + 1, 3, none⟩ = some (.int .i64 h) ∧ w'.cell? ⟨n + 1 + 1, 0, none⟩ = some (.int .i64 i) ∧ w'.cell? ⟨n + 1 + 1, 1, none⟩ = some (.int .i64 j) ∧ w'.cell? ⟨n + 1 + 1, 2, none⟩ = some (.int .i64 k) ∧ w'.cell? ⟨n + 1 + 1, 3, none⟩ = some (.int .i64 l)) (with_reducible first | exact tri_cells (tri_drew TB.out) | exact tri_cells (tri_keep (by assumption) TB.out) | exact tri_cells TB.out)
      (first
        | (go_at_call 26; refine (calls_from4 (W := W0) (by with_reducible first | assumption | exact (Below.refl _ _).drew) (toInterval_any _ _ _ _ _)).mono ?_; rintro e1 w1 ⟨rfl, hb⟩)
        | (go_at_call 31; refine (calls_from4 (W := W0) (by with_reducible first | assumption | exact (Below.refl _ _).drew) (S1.out _)).mono ?_; rintro e1 w1 ⟨rfl, hb⟩))
    all_goals
      go_wp2_with fail
      go_meet
      exact ⟨rfl, hb⟩
  case rest =>
    obtain ⟨rfl, hb1⟩ := hcut
    obtain ⟨W1, hW1⟩ : ∃ W1, W1 = wc := ⟨_, rfl⟩
    rw [← hW1] at hb1 ⊢
    clear hW1
    have T1 := Lib.hid (tri_keep hb1 TB.out)
    have B1 : Hid (Below w.heap.size w W1) := Lib.hid (B0.out.trans (hb1.mono B0.out.size))
    have HS1 := Lib.hid (senAt_below HS.out B1.out)
    clear TB B0 hb1
    go_upto_region 2 with fail
    go_cut [8] (fun s6 wx => s6 = .bool C ∧ Below W1.heap.size W1 wx)
    case first =>
      go_region_held3 (fun w' => w'.cell? ⟨n, 0, none⟩ = some (.int .i64 a) ∧ w'.cell? ⟨n, 1, none⟩ = some (.int .i64 b) ∧ w'.cell? ⟨n, 2, none⟩ = some (.int .i64 c) ∧ w'.cell? ⟨n, 3, none⟩ = some (.int .i64 d) ∧ w'.cell? ⟨n + 1, 0, none⟩ = some (.int .i64 e) ∧ w'.cell? ⟨n + 1, 1, none⟩ = some (.int .i64 f) ∧ w'.cell? ⟨n + 1, 2, none⟩ = some (.int .i64 g) ∧ w'.cell? ⟨n + 1, 3, none⟩ = some (.int .i64 h) ∧ w'.cell? ⟨n + 1 + 1, 0, none⟩ = some (.int .i64 i) ∧ w'.cell? ⟨n + 1 + 1, 1, none⟩ = some (.int .i64 j) ∧ w'.cell? ⟨n + 1 + 1, 2, none⟩ = some (.int .i64 k) ∧ w'.cell? ⟨n + 1 + 1, 3, none⟩ = some (.int .i64 l)) (with_reducible first | exact tri_cells (tri_drew T1.out) | exact tri_cells (tri_keep (by assumption) T1.out) | exact tri_cells T1.out)
        (first
          | (go_at_call 26; refine (calls_from4 (W := W1) (by with_reducible first | assumption | exact (Below.refl _ _).drew) (toInterval_any _ _ _ _ _)).mono ?_; rintro e1 w1 ⟨rfl, hb⟩)
          | (go_at_call 22; refine (calls_from4 (W := W1) (by with_reducible first | assumption | exact (Below.refl _ _).drew) (S2.out _ (senAt_below HS1.out (by with_reducible first | assumption | exact (Below.refl _ _).drew)))).mono ?_; rintro e1 w1 ⟨rfl, hb⟩))
      all_goals
        go_wp2_with fail
        go_meet
        exact ⟨rfl, hb⟩
    case rest =>
      obtain ⟨rfl, hb2⟩ := hcut
      have B2 : Hid (Below w.heap.size w wc) := Lib.hid (B1.out.trans (hb2.mono B1.out.size))
      have t0 : (C != C) = false := by cases C <;> rfl
      clear hb2 T1 HS1 B1
      go_wp2_with fail
      go_ret
      exact ⟨rfl, B2.out⟩
end Go.Proofs.YtdnlebijmiaclabDoor
