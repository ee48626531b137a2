/- Contract of spec.KeysTuned. -/
import Derived.Test.YtcddmmepphihjaaSPlan
namespace Go.Proofs.Ytcddmmepphihjaa
open Go.RowKit Go.Joins
set_option linter.unusedVariables false
/-- The tuned keys below k. -/
def keyTo (n k : Nat) : List Int := (List.range (min k (n + 1))).map fun (j : Nat) => (j : Int)
theorem keyTo_yes {n k : Nat} (h : k ≤ n) : keyTo n (k + 1) = keyTo n k ++ [(k : Int)] := by
  unfold keyTo
  rw [show min (k + 1) (n + 1) = k + 1 from by omega, show min k (n + 1) = k from by omega, List.range_succ, List.map_append]
  rfl
theorem keyTo_no {n k : Nat} (h : ¬ k ≤ n) : keyTo n (k + 1) = keyTo n k := by
  unfold keyTo
  rw [show min (k + 1) (n + 1) = n + 1 from by omega, show min k (n + 1) = n + 1 from by omega]
theorem keyTo_len (n k : Nat) : (keyTo n k).length = min k (n + 1) := by simp [keyTo]
theorem keysL_yes {xs : List Iv} (h : PlOk xs) : keysL xs = keyTo xs.length 12 := by
  have := h.1
  unfold keysL keyTo
  rw [if_pos h, show min 12 (xs.length + 1) = xs.length + 1 from by omega]
theorem keys_snoc {w : World} {B g cap k : Nat} {n : Nat} (hk : k ≤ n) (h : w.ownsRow B 3 1 (.slice (some ⟨g, 0, none⟩) (k + 1) cap) (k + 1) (intCs (keyTo n k) ++ [.int .i64 (k : Int)])) : w.ownsRow B 3 1 (.slice (some ⟨g, 0, none⟩) (k + 1) cap) (min (k + 1) (n + 1)) (intCs (keyTo n (k + 1))) := by
  rw [keyTo_yes hk, intCs_app, show min (k + 1) (n + 1) = k + 1 from by omega]
  exact h
set_option maxRecDepth 100000 in
set_option maxHeartbeats 8000000 in
theorem keys_spec (w : World) (b : Nat) (e : TypeId) (v : Value) (xs : List Iv) (hl : xs.length ≤ 2000000) (h : w.ownsRow b e 4 v xs.length (ivCs xs)) :
    Calls Try.prog 34 #[v] w (OwnPost 3 (keysL xs) w) := by
  obtain ⟨i0, hif, hz0, hz1, hz2⟩ := info_parts infoInt
  have OL := Lib.hid (World.ownsRow_lit (base := w.heap.size) (e := 3) (size := 1) w #[] 0 (Nat.le_refl _) (by unfold maxLen; omega) rfl)
  have PK := Lib.hid (fun (W : World) (q : Below w.heap.size w W) => planOk_spec W b e v xs hl (own4_below h q))
  obtain ⟨z, hz⟩ : ∃ z : Bool, planB xs = z := ⟨_, rfl⟩
  have HZ := Lib.hid hz
  rw [hz] at PK
  obtain ⟨n, hn⟩ : ∃ n, n = xs.length := ⟨_, rfl⟩
  have HN := Lib.hid hn
  rw [← hn] at h hl
  have HO := Lib.hid h
  have hs : ∃ p c, v = .slice p n c := by
    rcases own4_shape h with ⟨q, q'⟩ | ⟨g, cap, q, _⟩
    · exact ⟨none, 0, by rw [q, q']⟩
    · exact ⟨_, _, q⟩
  obtain ⟨p, c, rfl⟩ := hs
  clear h hn hz
  go_enter Try.func34, Try.ntmps34
  go_wp2_with fail
  go_loopw [3, 4] (fun v i wr => ∃ k : Nat, k ≤ 12 ∧ i = .int .i64 (k : Int) ∧ Hid (k = 0 ∨ z = true) ∧ Hid (wr.ownsRow w.heap.size 3 1 v (min k (n + 1)) (intCs (keyTo n k))) ∧ Hid (Below w.heap.size w wr)) (fun _ i _ => 12 - (intOf i).toNat)
  case atStart => exact ⟨0, by omega, by go_num, Lib.hid (.inl rfl), Lib.hid (by rw [show min 0 (n + 1) = 0 from by omega]; exact OL.out), Lib.hid (below_alloc1 w _)⟩
  case round =>
    obtain ⟨k, hk, rfl, H0, HV, HB⟩ := hrel
    by_cases hlt : k < 12
    · have q3 : (k : Int) < 12 := by omega
      go_wp2_with fail
      refine (PK.out _ HB.out).mono ?_
      rintro e1 w1 ⟨rfl, b1⟩
      have HV1 := Lib.hid (own_below HV.out b1)
      have HB1 := Lib.hid (HB.out.trans (b1.mono HB.out.size))
      clear b1 HV HB
      cases z
      · have e : k = 0 := by rcases H0.out with q | q; exact q; cases q
        subst e
        have D := Lib.hid (show ¬ PlOk xs from of_decide_eq_false HZ.out)
        go_wp2_with fail
        go_ret
        exact ⟨_, rfl, by rw [show keysL xs = [] from if_neg D.out]; exact HV1.out, HB1.out⟩
      · have D : Hid (PlOk xs) := Lib.hid (of_decide_eq_true HZ.out)
        have hn11 : n ≤ 11 := by have := D.out.1; have := HN.out; omega
        have HLT := Lib.hid hlt
        go_upto_region 6 with fail
        go_wp2_with fail
        go_loopw [5, 6] (fun t i wr => ∃ j : Nat, j ≤ n ∧ i = .int .i64 (j : Int) ∧ t = .bool (decide (k ≤ j)) ∧ wr = w1) (fun _ i _ => n - (intOf i).toNat)
        case atStart => exact ⟨0, by omega, by go_num, congrArg Value.bool (by rw [Bool.eq_iff_iff]; simp), rfl⟩
        case round =>
          obtain ⟨j, hj, rfl, rfl, rfl⟩ := hrel
          by_cases hjn : j < n
          · have q5 : (j : Int) < n := by omega
            have j0 : 0 ≤ (j : Int) := by omega
            obtain ⟨gx, cx, hgx, _, lgx⟩ := own4_pos HO.out (by omega)
            simp only [Value.slice.injEq, true_and] at hgx
            obtain ⟨rfl, rfl⟩ := hgx
            have r1 := own_iv (own4_below HO.out HB1.out) HN.out j hjn
            have r2 := (D.out.2 j (by have := HN.out; omega)).1.2
            obtain ⟨_, x1, _, _⟩ := r1
            rw [r2] at x1
            clear r2 lgx
            by_cases hkj : k ≤ j
            · have t1 : decide (k ≤ j) = true := decide_eq_true hkj
              have t2 : Hid (decide (k ≤ j + 1) = true) := Lib.hid (decide_eq_true (by omega))
              rw [t1]
              clear t1
              go_wp2_with fail
              go_roundw
              case rel => exact ⟨j + 1, hjn, by go_num, by rw [t2.out], by trivial⟩
              case measure => simp [intOf]; omega
            · have t1 : decide (k ≤ j) = false := decide_eq_false hkj
              have t2 : Hid (decide (k ≤ j + 1) = ((j : Int) + 1 == (k : Int))) := Lib.hid (by rw [Bool.eq_iff_iff]; simp; omega)
              rw [t1]
              clear t1
              go_wp2_with fail
              go_roundw
              case rel => exact ⟨j + 1, hjn, by go_num, by first | rw [t2.out] | (rw [t2.out]; rfl) | (rw [t2.out]; simp), by trivial⟩
              case measure => simp [intOf]; omega
          · obtain rfl : j = n := by omega
            by_cases hkn : k ≤ j
            · have t1 : decide (k ≤ j) = true := decide_eq_true hkn
              rw [t1]
              clear t1
              have O1 : Hid (wr.ownsRow w.heap.size 3 1 u3 k (intCs (keyTo j k))) := Lib.hid (by have := HV1.out; rw [show min k (j + 1) = k from by omega] at this; exact this)
              have hbs := HB1.out.size
              go_wp2_with (at_builtin; refine wpList_append_lies _ rfl (.tmp 35) (.tmp 37) 31 rfl w.heap.size 3 i0 (.int .i64 0) 1 8 Try.underlying31 hif hz0 hz1 hz2 rfl (by decide) _ k _ rfl (O1.out.alloc _) ⟨wr.heap.size, 0, none⟩ 1 1 [.int .i64 (k : Int)] rfl rfl (World.news_of_block (heap_alloc_new wr _)) (by simp [Value.oneCell']) (by decide) (by unfold maxLen; omega) (by omega) (by simp; omega) _ rfl ?_; intro g1 cap1 w5 hown' hgrow hat hgt)
              have R5 := Lib.hid ((HB1.out.alloc hbs _).grown hgrow (by simp; omega) (fun j hj => (O1.out.lt j hj).1))
              have O5 := Lib.hid (keys_snoc hkn hown')
              clear hown' hgrow hat hgt O1 hbs
              go_wp2_with fail
              go_roundw
              case rel => exact ⟨k + 1, HLT.out, by go_num, Lib.hid (by simp), O5, R5⟩
              case measure => simp [intOf]; omega
            · have t1 : decide (k ≤ j) = false := decide_eq_false hkn
              rw [t1]
              clear t1
              have O5 : Hid (wr.ownsRow w.heap.size 3 1 u3 (min (k + 1) (j + 1)) (intCs (keyTo j (k + 1)))) := Lib.hid (by rw [keyTo_no hkn, show min (k + 1) (j + 1) = min k (j + 1) from by omega]; exact HV1.out)
              go_wp2_with fail
              go_roundw
              case rel => exact ⟨k + 1, HLT.out, by go_num, Lib.hid (by simp), O5, HB1⟩
              case measure => simp [intOf]; omega
    · obtain rfl : k = 12 := by omega
      have hz : z = true := by rcases H0.out with q | q; omega; exact q
      subst hz
      have D : Hid (PlOk xs) := Lib.hid (of_decide_eq_true HZ.out)
      have HK := Lib.hid (keysL_yes D.out)
      go_wp2_with fail
      go_ret
      exact ⟨_, rfl, by rw [HK.out, keyTo_len, ← HN.out]; exact HV.out, HB.out⟩
end Go.Proofs.Ytcddmmepphihjaa
