/- Contract of impl.CountSizes over a row of intervals that the call owns. -/
import Derived.Test.YtdnlebijmiaclabDoorCntMath
import Derived.Test.YtdnlebijmiaclabDoorSameTone
import Derived.BigRegion
namespace Go.Proofs.YtdnlebijmiaclabDoor
open Go.RowKit Go.Joins Go.Maps
set_option linter.unusedVariables false
set_option maxRecDepth 100000 in
set_option maxHeartbeats 2000000 in
theorem count_impl (w : World) (b : Nat) (e : TypeId) (v : Value) (xs : List Iv) (hx : xs.length ≤ 2000000) (h : w.ownsRow b e 4 v xs.length (ivCs xs)) :
    Calls Tryd.prog 42 #[v] w fun en w' => en = .returned (.int .i64 (cntV xs)) ∧ Below w.heap.size w w' := by
  obtain ⟨n, hn⟩ : ∃ n, n = xs.length := ⟨_, rfl⟩
  rw [← hn] at h hx
  have HN := Lib.hid hn
  clear hn
  have hmm := @run_makeMap Tryd.prog
  rcases Nat.eq_zero_or_pos n with h0 | h0
  · have Y := Lib.hid (show cntV xs = 0 from cntV_nil (by have := HN.out; omega))
    obtain ⟨p1, c1, rfl⟩ := own4_zero h h0
    clear h
    go_enter Tryd.func42, Tryd.ntmps42
    go_wp2
    refine wp_loop_rounds 1 ?_
    rw [rounds_succ]
    have OM := World.ownsMap_made w Tryd.prog 25 (plainElem (H := Unit) Tryd.prog 4)
    go_wp2_with (at_len; refine wpList_len_own _ rfl _ 74 rfl 25 4 Tryd.underlying74 _ _ _ _ rfl OM ?_)
    go_ret
    exact ⟨ret_int Y.out.symm, (Below.refl _ _).alloc (Nat.le_refl _) _⟩
  · obtain ⟨g0, cap, rfl, _, hgl⟩ := own4_pos h h0
    have HH := Lib.hid h
    have HG := Lib.hid hgl
    clear h hgl
    go_enter Tryd.func42, Tryd.ntmps42
    go_wp2
    obtain ⟨B, hB⟩ : ∃ B, B = w.heap.size := ⟨_, rfl⟩
    obtain ⟨W1, hW1⟩ : ∃ y, y = w.alloc (.map #[] 0) := ⟨_, rfl⟩
    have OM := Lib.hid (World.ownsMap_made w Tryd.prog 25 (plainElem (H := Unit) Tryd.prog 4))
    have B1 := Lib.hid (show Below w.heap.size w W1 from by rw [hW1]; exact (Below.refl _ _).alloc (Nat.le_refl _) _)
    rw [← hW1, ← hB] at OM
    rw [← hW1, ← hB]
    have HB0 := Lib.hid (Nat.le_of_eq hB)
    have HB1 := Lib.hid (Nat.le_of_eq hB.symm)
    clear hW1 hB
    go_loopw [9] (fun i wr => ∃ (k : Nat), k ≤ n ∧ i = .int .i64 (k : Int) ∧ Hid (okTo xs k = true) ∧ Hid (wr.ownsMap Tryd.prog 25 (plainElem (H := Unit) Tryd.prog 4) B k (setTo xs k)) ∧ Hid (Below w.heap.size w wr)) (fun i _ => n - (intOf i).toNat)
    case atStart => exact ⟨0, Nat.zero_le _, rfl, Lib.hid rfl, OM, B1⟩
    case round =>
      obtain ⟨k, hk, rfl, HOK, HM, HB⟩ := hrel
      by_cases hlt : k < n
      · have q3 : (k : Int) < n := by omega
        have r1 := own_iv (own4_below HH.out HB.out) HN.out k hlt
        obtain ⟨X, hX⟩ : ∃ X, X = ivAt xs k := ⟨_, rfl⟩
        rw [← hX] at r1
        obtain ⟨x0, x1, x2, x3⟩ := r1
        have HX := Lib.hid hX
        clear hX
        go_upto_region 5 with fail
        obtain ⟨mX, hmX⟩ : ∃ m, m = wr.heap.size := ⟨_, rfl⟩
        obtain ⟨W2, hW2⟩ : ∃ y, y = wr.alloc (.cells #[.int .i64 X.two, .int .i64 X.three, .int .i64 X.five, .int .i64 X.root] 25) := ⟨_, rfl⟩
        have kb : Below wr.heap.size wr W2 := by rw [hW2]; exact below_alloc1 wr _
        have gX : Four mX X.two X.three X.five X.root W2 := by rw [hW2, hmX]; exact four_alloc
        have M2 := Lib.hid (HM.out.kept (grown_of_below kb) (by simp))
        have B2 := Lib.hid (HB.out.trans (kb.mono HB.out.size))
        rw [← hW2, ← hmX]
        have TX := Lib.hid gX
        obtain ⟨_, c0, c1, c2, c3⟩ := gX
        clear hW2 hmX kb x0 x1 x2 x3 HM HB
        by_cases hok : okV X = true
        · have OX : OkAt X.two X.three X.five X.root true := hok
          have SX : SimAt X.two X.three X.five X.root (simV X).two (simV X).three (simV X).five (simV X).root := ⟨hok, rfl, rfl, rfl, rfl⟩
          have KX := Lib.hid (key_iv (simV_ok hok))
          have NK := Lib.hid (okTo_step HOK.out (by rw [← HX.out]; exact hok))
          have STX := Lib.hid (setTo_step xs k)
          rw [← HX.out] at STX
          obtain ⟨S, hS⟩ : ∃ S, S = simV X := ⟨_, rfl⟩
          rw [← hS] at SX KX STX
          clear hS hok
          go_wp2_with fail
          refine (okAt_impl OX _).mono ?_
          rintro en w3 ⟨rfl, hb3⟩
          obtain ⟨_, c0, c1, c2, c3⟩ := four_keep hb3 TX.out
          have M3 := Lib.hid (M2.out.kept (grown_of_below hb3) (by simp))
          have B3 := Lib.hid (B2.out.trans (hb3.mono B2.out.size))
          clear hb3 M2 B2 TX
          go_wp2_with fail
          refine (simAt_impl SX _).mono ?_
          rintro en w4 ⟨rfl, hb4⟩
          have M4 := Lib.hid (M3.out.kept (grown_of_below hb4) (by simp))
          have B4 := Lib.hid (B3.out.trans (hb4.mono B3.out.size))
          clear hb4 M3 B3 c0 c1 c2 c3
          go_wp2_with (at_mapUpdate; refine wpList_mapUpdate_own _ rfl _ _ _ 74 rfl 25 4 lawIv Tryd.underlying74 _ B k _ rfl M4.out (by unfold maxLen; omega) _ _ _ rfl rfl KX.out _ [] (plainElem_bool Tryd.underlying4 true) ?_)
          intro w5 hown5 hgrow5
          rw [STX.out] at hown5
          have M5 := Lib.hid hown5
          have B5 := Lib.hid (B4.out.grown hgrow5 B4.out.size (fun j hj => by cases hj; exact HB1.out))
          clear hown5 hgrow5 M4 B4
          go_wp2_with fail
          go_roundw
          case rel => exact ⟨k + 1, by omega, by go_num, NK, M5, B5⟩
          case measure => simp [intOf]; omega
        · have OX : OkAt X.two X.three X.five X.root false := Bool.eq_false_iff.2 hok
          have Y := Lib.hid (cntV_bad (xs := xs) (k := k) (by have := HN.out; omega) (by rw [← HX.out]; exact Bool.eq_false_iff.2 hok))
          clear hok
          go_wp2_with fail
          refine (okAt_impl OX _).mono ?_
          rintro en w3 ⟨rfl, hb3⟩
          have B3 := Lib.hid (B2.out.trans (hb3.mono B2.out.size))
          clear hb3
          go_wp2_with fail
          go_ret
          exact ⟨ret_int Y.out.symm, B3.out⟩
      · have q3 : ¬ (k : Int) < n := by omega
        obtain rfl : k = n := by omega
        have Y := Lib.hid (cntV_ok (xs := xs) (by rw [← HN.out]; exact HOK.out))
        have Z := Lib.hid (size_set HOK.out)
        go_wp2_with (at_len; refine wpList_len_own _ rfl _ 74 rfl 25 4 Tryd.underlying74 _ _ _ _ rfl HM.out ?_)
        go_ret
        exact ⟨ret_int (by rw [Y.out, ← HN.out, Z.out]), HB.out⟩
end Go.Proofs.YtdnlebijmiaclabDoor
