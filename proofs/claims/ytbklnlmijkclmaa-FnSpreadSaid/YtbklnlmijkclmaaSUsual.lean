/- Contract of spec.UsualPlan. -/
import Derived.Test.YtbklnlmijkclmaaPlanMath
import Derived.Test.YtbklnlmijkclmaaSTune
import Derived.Test.YtbklnlmijkclmaaStepRows
namespace Go.Proofs.Ytbklnlmijkclmaa
open Go.RowKit Go.Joins
set_option linter.unusedVariables false
theorem usTo_snoc (b : Int) (k : Nat) : usTo b (k + 1) = usTo b k ++ [⟨(k : Int), (k : Int) + 1, usK k, b⟩] := by
  unfold usTo
  rw [List.range_succ, List.map_append]
  rfl
theorem usTo_len (b : Int) (k : Nat) : (usTo b k).length = k := by simp [usTo]
theorem ivCs_appU : ∀ xs ys, ivCs (xs ++ ys) = ivCs xs ++ ivCs ys
  | [], ys => rfl
  | x :: xs, ys => by simp [ivCs, ivCs_appU xs ys]
theorem st_snoc {w : World} {B g cap k : Nat} {b u : Int} (hu : u = usK k) (h : w.ownsRow B 32 4 (.slice (some ⟨g, 0, none⟩) (k + 1) cap) (k + 1) (ivCs (usTo b k) ++ [.int .i64 (k : Int), .int .i64 ((k : Int) + 1), .int .i64 u, .int .i64 b])) : w.ownsRow B 32 4 (.slice (some ⟨g, 0, none⟩) (k + 1) cap) (k + 1) (ivCs (usTo b (k + 1))) := by
  rw [usTo_snoc, ivCs_appU, ← hu]
  exact h
theorem us_lit {k : Nat} (h : k < 11) (w : World) (T : TypeId) : (w.alloc (.cells #[.int .i64 1, .int .i64 2, .int .i64 1, .int .i64 2, .int .i64 1, .int .i64 2, .int .i64 2, .int .i64 1, .int .i64 2, .int .i64 1, .int .i64 2] T)).cell? ⟨w.heap.size, k, none⟩ = some (.int .i64 (usK k)) := by
  rcases (show k = 0 ∨ k = 1 ∨ k = 2 ∨ k = 3 ∨ k = 4 ∨ k = 5 ∨ k = 6 ∨ k = 7 ∨ k = 8 ∨ k = 9 ∨ k = 10 from by omega) with rfl | rfl | rfl | rfl | rfl | rfl | rfl | rfl | rfl | rfl | rfl <;> simp [usK, go_sem]
set_option maxRecDepth 100000 in
set_option maxHeartbeats 4000000 in
theorem usual_spec (b : Int) (w : World) :
    Calls Try.prog 58 #[.int .i64 b] w (OwnSt (usL b) w) := by
  obtain ⟨i0, hi, hz0, hz1, hz2⟩ := info_parts4 infoSt
  have OL := Lib.hid (World.ownsRow_lit (base := w.heap.size) (e := 32) (size := 4) w #[] 0 (Nat.le_refl _) (by unfold maxLen; omega) rfl)
  obtain ⟨z, hz⟩ : ∃ z : Bool, decide (0 ≤ b ∧ b ≤ 5000) = z := ⟨_, rfl⟩
  have HZ := Lib.hid hz
  clear hz
  go_enter Try.func58, Try.ntmps58
  go_wp2_with fail
  go_loopw [3, 4] (fun v i wr => ∃ k : Nat, k ≤ 11 ∧ i = .int .i64 (k : Int) ∧ (k = 0 ∨ z = true) ∧ Hid (wr.ownsRow w.heap.size 32 4 v k (ivCs (usTo b k))) ∧ Hid (Below w.heap.size w wr)) (fun _ i _ => 11 - (intOf i).toNat)
  case atStart => exact ⟨0, by omega, by go_num, .inl rfl, OL, Lib.hid (below_alloc1 w _)⟩
  case round =>
    obtain ⟨k, hk, rfl, h0, HO, HB⟩ := hrel
    by_cases hlt : k < 11
    · have q3 : (k : Int) < 11 := by omega
      have k0 : 0 ≤ (k : Int) := by omega
      go_wp2_with fail
      refine (in_at HZ.out _).mono ?_
      rintro e1 w1 ⟨rfl, rfl⟩
      cases z
      · have e : k = 0 := by rcases h0 with q | q; exact q; cases q
        subst e
        have D := Lib.hid (of_decide_eq_false HZ.out)
        go_wp2_with fail
        go_ret
        exact ⟨_, rfl, by rw [show usL b = [] from if_neg D.out]; exact HO.out, HB.out⟩
      · have cK := us_lit hlt wr 3
        obtain ⟨u, hu⟩ : ∃ u, u = usK k := ⟨_, rfl⟩
        rw [← hu] at cK
        have HU := Lib.hid hu
        clear hu
        go_upto_region 6 with fail
        obtain ⟨W1, hW1⟩ : ∃ W, W = wr.alloc (.cells #[.int .i64 1, .int .i64 2, .int .i64 1, .int .i64 2, .int .i64 1, .int .i64 2, .int .i64 2, .int .i64 1, .int .i64 2, .int .i64 1, .int .i64 2] 3) := ⟨_, rfl⟩
        have BA : Hid (Below w.heap.size w W1) := Lib.hid (by rw [hW1]; exact HB.out.alloc HB.out.size _)
        have O1 : Hid (W1.ownsRow w.heap.size 32 4 u3 k (ivCs (usTo b k))) := Lib.hid (by rw [hW1]; exact HO.out.alloc _)
        rw [← hW1]
        clear hW1 cK HO HB
        have hbs := BA.out.size
        go_wp2_with (at_builtin; refine wpList_append_lies _ rfl (.tmp 19) (.tmp 26) 24 rfl w.heap.size 32 i0 (ivV 0 0 0 0) 4 32 Try.underlying24 hi hz0 hz1 hz2 rfl (by decide) _ k _ rfl (O1.out.alloc _) ⟨W1.heap.size, 0, none⟩ 1 1 [.int .i64 (k : Int), .int .i64 ((k : Int) + 1), .int .i64 u, .int .i64 b] rfl rfl (World.news_of_block (heap_alloc_new W1 _)) (by simp [Value.oneCell']) (by decide) (by unfold maxLen; omega) (by omega) (by simp; omega) _ rfl ?_; intro g1 cap1 w5 hown' hgrow hat hgt)
        have R5 := Lib.hid ((BA.out.alloc hbs _).grown hgrow (by simp; omega) (fun j hj => (O1.out.lt j hj).1))
        have O5 := Lib.hid (st_snoc HU.out hown')
        clear hown' hgrow hat hgt O1 BA hbs
        go_wp2_with fail
        go_roundw
        case rel => exact ⟨k + 1, hlt, by go_num, .inr (by simp), O5, R5⟩
        case measure => simp [intOf]; omega
    · obtain rfl : k = 11 := by omega
      have hz : z = true := by rcases h0 with q | q; omega; exact q
      subst hz
      have D := Lib.hid (of_decide_eq_true HZ.out)
      go_wp2_with fail
      go_ret
      exact ⟨_, rfl, by rw [show usL b = usTo b 11 from if_pos D.out, usTo_len]; exact HO.out, HB.out⟩
end Go.Proofs.Ytbklnlmijkclmaa
