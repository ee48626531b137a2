/- Contract of impl.ThirdError. -/
import Derived.Test.YtohfepcdgbgojabDoorThirdAt
namespace Go.Proofs.YtohfepcdgbgojabDoor
open Go.RowKit Go.Joins
set_option linter.unusedVariables false
set_option maxRecDepth 100000 in
set_option maxHeartbeats 4000000 in
theorem thirdErr_impl {xs : List Int} {i p q r s : Int} (hf : ErAt xs i p q r s) (w : World) (b : Nat) (e : TypeId) (v : Value) (hl : xs.length ≤ 2000000) (h : w.ownsRow b e 1 v xs.length (intCs xs)) :
    Calls Tryd.prog 19 #[cirV v, .int .i64 i] w fun en w' => en = .returned (ivV p q r s) ∧ Below w.heap.size w w' := by
  obtain ⟨k, l, m, n, y, ht, hd⟩ := er_of hf
  have HD := Lib.hid (fun w => diff_says ⟨-2, 0, 1, 1⟩ ⟨k, l, m, n⟩ ⟨p, q, r, s⟩ y hd w)
  have W0f : ∃ W, W = (w.alloc (.cells #[v] 26)).alloc (.cells #[.int .i64 0, .int .i64 0, .int .i64 0, .int .i64 0] 33) := ⟨_, rfl⟩
  obtain ⟨W0, hW⟩ := W0f
  have B0 : Hid (Below w.heap.size w W0) := Lib.hid (by rw [hW]; exact below_alloc2 w _ _)
  have X0 : Hid (One w.heap.size v W0) := Lib.hid (by rw [hW]; exact one_al one_alloc)
  have Z0 : Hid (Zero4 (w.heap.size + 1) W0) := Lib.hid (by rw [hW]; simpa using zero4_alloc (w := w.alloc (.cells #[v] 26)) (t := 33))
  have FA : Hid (∀ X, Below W0.heap.size W0 X → Calls Tryd.prog 13 #[cirV v, .int .i64 i] X fun en w' => en = .returned (ivV k l m n) ∧ Below X.heap.size X w') := Lib.hid (fun X hX => thirdAt_impl ht X _ _ _ hl (own_below (own_below h (by rw [hW]; exact below_alloc2 w _ _)) hX))
  clear hf h hd ht hl
  go_enter Tryd.func19, Tryd.ntmps19
  go_upto_region 1 with fail
  rw [← hW]
  obtain ⟨c, hc⟩ : ∃ m, m = w.heap.size := ⟨_, rfl⟩
  rw [← hc] at X0 Z0 ⊢
  have HCN := Lib.hid (show w.heap.size ≤ c + 1 from by omega)
  clear hW hc
  go_cut [5] (fun p5 wx => ∃ z : Nat, p5 = .pointer (some ⟨z, 0, none⟩) ∧ Four z p q r s wx ∧ Below W0.heap.size W0 wx)
  case first =>
    go_region_held3 (fun w' => w'.cell? ⟨c, 0, none⟩ = some v) (with_reducible first | exact one_cell (one_keep (Below.refl _ _).drew X0.out) | exact one_cell (one_keep (by assumption) X0.out) | exact one_cell (one_keep (below_alC (Below.refl _ _).drew) X0.out) | exact one_cell (one_keep (below_alC (Below.refl _ _)).drew X0.out) | exact one_cell (one_keep (below_alC (by assumption)) X0.out) | exact one_cell (one_keep (below_set4C (by with_reducible exact (by assumption : Zc _ _ _).1) (by assumption)) X0.out))
      (first
        | (go_at_call 37; refine (calls_zc (W := W0) (by with_reducible first | assumption | exact below_alC (by assumption) | exact (Below.refl _ _).drew | exact (below_alC (Below.refl _ _)).drew) (by with_reducible first | assumption | exact zc_alloc (by assumption) | exact zc_drew (zc_alloc (Below.refl _ _))) (pureThird_impl _)).mono ?_; rintro e5 w5 ⟨rfl, hb, hzb⟩; obtain ⟨zb, zm, z0, z1, z2, z3, zf⟩ := id hzb)
        | (go_at_call 37; refine (calls_fromF (W := W0) (by with_reducible first | assumption | exact (Below.refl _ _).drew) (pureThird_impl _)).mono ?_; rintro e5 w5 ⟨rfl, hb⟩)
        | (go_at_call 13; refine (calls_zc (W := W0) (by with_reducible first | assumption | exact below_alC (by assumption) | exact (Below.refl _ _).drew | exact (below_alC (Below.refl _ _)).drew) (by with_reducible first | assumption | exact zc_alloc (by assumption) | exact zc_drew (zc_alloc (Below.refl _ _))) (FA.out _ (by with_reducible first | assumption | exact below_alC (by assumption) | exact (Below.refl _ _).drew | exact (below_alC (Below.refl _ _)).drew))).mono ?_; rintro e5 w5 ⟨rfl, hb, hzb⟩; obtain ⟨zb, zm, z0, z1, z2, z3, zf⟩ := id hzb)
        | (go_at_call 13; refine (calls_fromF (W := W0) (by with_reducible first | assumption | exact (Below.refl _ _).drew) (FA.out _ (by with_reducible first | assumption | exact (Below.refl _ _).drew))).mono ?_; rintro e5 w5 ⟨rfl, hb⟩)
        | (go_at_call 34; refine (calls_zc (W := W0) (by with_reducible first | assumption | exact below_alC (by assumption) | exact (Below.refl _ _).drew | exact (below_alC (Below.refl _ _)).drew) (by with_reducible first | assumption | exact zc_alloc (by assumption) | exact zc_drew (zc_alloc (Below.refl _ _))) (HD.out _)).mono ?_; rintro e5 w5 ⟨rfl, hb, hzb⟩; obtain ⟨zb, zm, z0, z1, z2, z3, zf⟩ := id hzb)
        | (go_at_call 34; refine (calls_fromF (W := W0) (by with_reducible first | assumption | exact (Below.refl _ _).drew) (HD.out _)).mono ?_; rintro e5 w5 ⟨rfl, hb⟩))
    all_goals
      go_wp2_with fail
      go_meet
      with_reducible first
        | exact ⟨_, rfl, four_alloc, below_alC hb⟩
        | exact ⟨_, rfl, four_setC hzb, below_set4C hzb.1 hb⟩
  case rest =>
    obtain ⟨z, rfl, f7, b7⟩ := hcut
    obtain ⟨W7, hW⟩ : ∃ W, W = wc := ⟨_, rfl⟩
    rw [← hW] at b7 f7 ⊢
    have Z7 := Lib.hid (zero4_keep b7 Z0.out)
    have B7 := Lib.hid (B0.out.trans (b7.mono B0.out.size))
    obtain ⟨_, y0, y1, y2, y3⟩ := f7
    obtain ⟨⟨zm, z0, z1, z2, z3⟩, zf⟩ := Z7.out
    clear hW b7 Z0 B0 X0 FA HD
    go_wp2_with fail
    obtain ⟨X, hX, ⟨gm, g0, g1, g2, g3⟩, gb⟩ := zed4_store (w := w) (p := p) (q := q) (r := r) (s := s) HCN.out B7.out ⟨zm, z0, z1, z2, z3⟩
    rw [← hX]
    have GB := Lib.hid gb
    clear hX gb z0 z1 z2 z3 zm zf B7
    refine bodyPost_ret (v := ivV p q r s) (by simp [results, Tryd.results19, go_sem, g0, g1, g2, g3]) rfl ⟨rfl, ?_⟩
    exact GB.out
end Go.Proofs.YtohfepcdgbgojabDoor
