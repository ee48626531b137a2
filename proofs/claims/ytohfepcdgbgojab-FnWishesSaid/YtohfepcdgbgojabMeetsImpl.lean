/- Contract of impl.Meets. -/
import Derived.Test.YtohfepcdgbgojabMeets
import Derived.Test.YtohfepcdgbgojabMeetsLaw
namespace Go.Proofs.Ytohfepcdgbgojab
open Go.RowKit Go.Joins
set_option linter.unusedVariables false
theorem isKey_from {W w : World} {n : Int} {y : Bool} (h : Below W.heap.size W w) (hy : decide (0 ≤ n ∧ n ≤ 11) = y) : Calls Try.prog 59 #[.int .i64 n] w fun e w' => e = .returned (.bool y) ∧ Below W.heap.size W w' :=
  (isKey_any n w).mono fun _ _ ⟨he, hw⟩ => ⟨by rw [he, hy], hw ▸ h⟩
/-- ThirdParts of a circle behind a world that is named. -/
def PartSays (V : Value) (i y : Int) (W : World) : Prop := ∀ X, Below W.heap.size W X → Calls Try.prog 60 #[cirV V, .int .i64 i] X fun e w' => e = .returned (.int .i64 y) ∧ Below W.heap.size W w'
theorem part_run {V : Value} {i y : Int} {W X : World} (h : PartSays V i y W) (hX : Below W.heap.size W X) : Calls Try.prog 60 #[cirV V, .int .i64 i] X fun e w' => e = .returned (.int .i64 y) ∧ Below W.heap.size W w' := h X hX
theorem part_says {xs : List Int} {W : World} {b : Nat} {e : TypeId} {v : Value} {i : Int} (hc : CirOk xs) (hi : 0 ≤ i ∧ i ≤ 11) (hl : xs.length ≤ 2000000) (h : W.ownsRow b e 1 v xs.length (intCs xs)) : PartSays v i (cycTo xs i.toNat 4) W := fun X hX =>
  (parts_impl (.inl ⟨⟨hc, hi⟩, rfl⟩) X b e v hl (own_below h hX)).mono fun _ _ ⟨he, hb⟩ => ⟨he, hX.trans (hb.mono hX.size)⟩
/-- A wish's box of its own. -/
theorem wish_alloc {w : World} {m : Nat} {V : Value} {X : Wi} {t : TypeId} (h : One m V w) : WishAt m w.heap.size 0 V X (w.alloc (.cells #[.int .i64 X.key, .int .i64 X.least] t)) :=
  ⟨⟨Nat.lt_of_lt_of_le h.1 (by simp), by simp⟩, (one_al h).2.1, by simp [go_sem], by simp [go_sem]⟩
set_option maxRecDepth 100000 in
set_option maxHeartbeats 8000000 in
theorem meets_impl : MeetsSays := by
  intro w b e v xs b' e' v' ws hl hl' h h'
  have CO := Lib.hid (cirOk_impl _ b e v xs hl (own_below h (below_alloc1 w (.cells #[v] 29))))
  obtain ⟨n, hn⟩ : ∃ n, n = ws.length := ⟨_, rfl⟩
  rw [← hn] at h' hl'
  have HN := Lib.hid hn
  clear hn
  obtain ⟨p', c', rfl⟩ := ownW_slice h'
  by_cases hc : CirOk xs
  · rw [show cirB xs = true from decide_eq_true hc] at CO
    have HV := Lib.hid h
    have HL := Lib.hid hl
    have HC := Lib.hid hc
    have HW := Lib.hid h'
    obtain ⟨p0, c0, hv⟩ := own_slice h
    rw [hv] at CO HV ⊢
    obtain ⟨lx, hlx⟩ : ∃ lx, lx = xs.length := ⟨_, rfl⟩
    rw [← hlx] at CO HV ⊢
    have HLX := Lib.hid hlx
    clear h hl hc h' hv hlx
    by_cases h12 : n ≤ 12
    · have q0 : ¬ (12 : Int) < n := by omega
      go_enter Try.func21, Try.ntmps21
      go_wp2_with fail
      refine CO.out.mono ?_
      rintro e1 w1 ⟨rfl, b1⟩
      have BX := (below_alloc1 w (.cells #[.slice p0 lx c0] 29)).trans (b1.mono (by simp))
      have X1 := Lib.hid (one_keep b1 (one_alloc (w := w) (v := .slice p0 lx c0) (t := 29)))
      have HV1 := Lib.hid (own_below HV.out BX)
      have HW1 := Lib.hid (ownW_below HW.out BX)
      have B1 := Lib.hid BX
      clear BX b1 CO HW HV
      obtain ⟨m, hm⟩ : ∃ m, m = w.heap.size := ⟨_, rfl⟩
      rw [← hm] at X1 ⊢
      clear hm
      go_wp2_with fail
      go_loopw [17] (fun x wr => ∃ k : Nat, k ≤ n ∧ x = .int .i64 (k : Int) ∧ Hid (∀ j, j < k → WishOk xs (wiAt ws j)) ∧ Hid (Below w1.heap.size w1 wr)) (fun x _ => n - (intOf x).toNat)
      case atStart => exact ⟨0, Nat.zero_le _, by go_num, Lib.hid (fun j hj => by omega), Lib.hid (Below.refl _ _)⟩
      case round =>
        obtain ⟨k, hk, rfl, HA, HB⟩ := hrel
        by_cases hlt : k < n
        · have q3 : (k : Int) < n := by omega
          obtain ⟨g, cg, hg, _, hgl⟩ := ownW_pos HW1.out (by omega)
          simp only [Value.slice.injEq, true_and] at hg
          obtain ⟨rfl, rfl⟩ := hg
          obtain ⟨X, hX⟩ : ∃ X, X = wiAt ws k := ⟨_, rfl⟩
          have r1 := own_wi (ownW_below HW1.out HB.out) HN.out k hlt
          rw [← hX] at r1
          obtain ⟨ra, rb⟩ := r1
          have HX := Lib.hid hX
          have HLT := Lib.hid hlt
          have XR := Lib.hid (one_keep HB.out X1.out)
          clear hX hgl
          go_upto_region 6 with fail
          obtain ⟨W0, hW0⟩ : ∃ W0, W0 = wr.alloc (.cells #[.int .i64 X.key, .int .i64 X.least] 76) := ⟨_, rfl⟩
          obtain ⟨g0, hg0⟩ : ∃ g0, g0 = wr.heap.size := ⟨_, rfl⟩
          have WA : Hid (WishAt m g0 0 (.slice p0 lx c0) X W0) := Lib.hid (by rw [hW0, hg0]; exact wish_alloc XR.out)
          have B0 : Hid (Below wr.heap.size wr W0) := Lib.hid (by rw [hW0]; exact below_alloc1 wr _)
          rw [← hW0, ← hg0]
          have HVR := Lib.hid (own_below (own_below HV1.out HB.out) B0.out)
          have HB0 := Lib.hid (HB.out.trans (B0.out.mono HB.out.size))
          clear hW0 hg0 ra rb XR B0
          by_cases hkey : 0 ≤ X.key ∧ X.key ≤ 11
          · obtain ⟨Y, hY⟩ : ∃ Y, Y = cycTo xs X.key.toNat 4 := ⟨_, rfl⟩
            have SF := part_says HC.out hkey HL.out (by rw [← HLX.out]; exact HVR.out)
            rw [← hY] at SF
            have hd := decide_eq_true hkey
            have HK := Lib.hid hkey
            have HY := Lib.hid hY
            clear hY hkey
            by_cases hsum : Y < X.least
            · have HSM := Lib.hid hsum
              go_region_held3 (fun w' => w'.cell? ⟨m, 0, none⟩ = some (.slice p0 lx c0) ∧ w'.cell? ⟨g0, 0, none⟩ = some (.int .i64 X.key) ∧ w'.cell? ⟨g0, 1, none⟩ = some (.int .i64 X.least)) (with_reducible first | exact wishAt_cells (wishAt_keep (Below.refl _ _).drew WA.out) | exact wishAt_cells (wishAt_keep (by assumption) WA.out) | exact wishAt_cells WA.out)
                (first
                  | (go_at_call 59; refine (isKey_from (W := W0) (by with_reducible first | assumption | exact (Below.refl _ _).drew) (by with_reducible assumption)).mono ?_; rintro e1 w3 ⟨rfl, hb⟩)
                  | (go_at_call 60; refine (part_run (W := W0) (by with_reducible assumption) (by with_reducible first | assumption | exact (Below.refl _ _).drew)).mono ?_; rintro e1 w3 ⟨rfl, hb⟩))
              all_goals
                have B3 := Lib.hid (B1.out.trans ((HB0.out.trans (hb.mono HB0.out.size)).mono B1.out.size))
                clear hb
                go_wp2_with fail
                go_ret
                exact ⟨ret_boolT (decide_eq_false (fun H => by have hw := (H.2.2 k (by rw [← HN.out]; exact HLT.out)).2; rw [← HX.out, ← HY.out] at hw; have := HSM.out; omega)).symm, B3.out⟩
            · have HSM := Lib.hid hsum
              go_region_held3 (fun w' => w'.cell? ⟨m, 0, none⟩ = some (.slice p0 lx c0) ∧ w'.cell? ⟨g0, 0, none⟩ = some (.int .i64 X.key) ∧ w'.cell? ⟨g0, 1, none⟩ = some (.int .i64 X.least)) (with_reducible first | exact wishAt_cells (wishAt_keep (Below.refl _ _).drew WA.out) | exact wishAt_cells (wishAt_keep (by assumption) WA.out) | exact wishAt_cells WA.out)
                (first
                  | (go_at_call 59; refine (isKey_from (W := W0) (by with_reducible first | assumption | exact (Below.refl _ _).drew) (by with_reducible assumption)).mono ?_; rintro e1 w3 ⟨rfl, hb⟩)
                  | (go_at_call 60; refine (part_run (W := W0) (by with_reducible assumption) (by with_reducible first | assumption | exact (Below.refl _ _).drew)).mono ?_; rintro e1 w3 ⟨rfl, hb⟩))
              all_goals
                have B3 := Lib.hid (HB0.out.trans (hb.mono HB0.out.size))
                clear hb
                go_wp2_with fail
                go_roundw
                case rel => exact ⟨k + 1, HLT.out, by go_num, Lib.hid (fun j hj => (show j < k ∨ j = k from by omega).elim (fun h => HA.out j h) (fun h => by rw [h, ← HX.out]; exact ⟨HK.out, by rw [← HY.out]; have := HSM.out; omega⟩)), B3⟩
                case measure => simp [intOf]; omega
          · have hd := decide_eq_false hkey
            have HK := Lib.hid hkey
            clear hkey
            refine wp_region_held_drew (S := (fun w' => w'.cell? ⟨m, 0, none⟩ = some (.slice p0 lx c0) ∧ w'.cell? ⟨g0, 0, none⟩ = some (.int .i64 X.key) ∧ w'.cell? ⟨g0, 1, none⟩ = some (.int .i64 X.least))) (by kernel_rfl) ?_ (fun hHeld => ?_)
            · exact wishAt_cells (wishAt_keep (Below.refl _ _).drew WA.out)
            refine takeD (i := 0) (d := (some 21)) (v := (.pointer (some ⟨g0, 0, none⟩))) rfl rfl (by kernel_rfl) (by kernel_rfl) (by kernel_rfl) (fun _ _ _ h => h) (Or.inl ⟨by kernel_rfl, ?_⟩) (by assumption) ?_
            · intro wS hSw
              (try dsimp only at hSw)
              go_simp
            (try simp only [Act.put]); (try simp only [List.setIfInBounds_toArray]); (try simp only [List.set_cons_succ]); (try simp only [List.set_cons_zero])
            refine takeD (i := 1) (d := (some 22)) (v := (.int .i64 X.key)) rfl rfl (by kernel_rfl) (by kernel_rfl) (by kernel_rfl) (fun _ _ _ h => h) (Or.inl ⟨by kernel_rfl, ?_⟩) (by assumption) ?_
            · intro wS hSw
              (try dsimp only at hSw)
              go_simp
            (try simp only [Act.put]); (try simp only [List.setIfInBounds_toArray]); (try simp only [List.set_cons_succ]); (try simp only [List.set_cons_zero])
            refine wpAnyH_ready (rs := [2]) (by kernel_rfl) (by simp) ?_
            refine AllReadyH.cons rfl (fun K hK => ?_) AllReadyH.nil
            go_simp
            refine (isKey_from (W := W0) (by with_reducible first | assumption | exact (Below.refl _ _).drew) (by with_reducible assumption)).mono ?_
            rintro e1 w1 ⟨rfl, hb⟩
            go_wp2_with fail
            refine hK.out _ _ ?_ (fun hHeld => ?_)
            · exact wishAt_cells (wishAt_keep hb WA.out)
            clear hK K
            (try simp only [Act.put]); (try simp only [List.setIfInBounds_toArray]); (try simp only [List.set_cons_succ]); (try simp only [List.set_cons_zero])
            refine takeD (i := 3) (d := (some 24)) (v := (.bool true)) rfl rfl (by kernel_rfl) (by kernel_rfl) (by kernel_rfl) (fun _ _ _ h => h) (Or.inl ⟨by kernel_rfl, ?_⟩) (by assumption) ?_
            · intro wS hSw
              (try dsimp only at hSw)
              go_simp
            (try simp only [Act.put]); (try simp only [List.setIfInBounds_toArray]); (try simp only [List.set_cons_succ]); (try simp only [List.set_cons_zero])
            refine takeD (i := 4) (d := (some 25)) (v := (.bool true)) rfl rfl (by kernel_rfl) (by kernel_rfl) (by kernel_rfl) (fun _ _ _ h => h) (Or.inl ⟨by kernel_rfl, ?_⟩) (by assumption) ?_
            · intro wS hSw
              (try dsimp only at hSw)
              go_simp
            (try simp only [Act.put]); (try simp only [List.setIfInBounds_toArray]); (try simp only [List.set_cons_succ]); (try simp only [List.set_cons_zero])
            refine takeD (i := 5) (d := (some 26)) (v := undef) rfl rfl (by kernel_rfl) (by kernel_rfl) (by kernel_rfl) (fun _ _ _ h => h) (Or.inr ⟨by kernel_rfl, rfl⟩) (by assumption) ?_
            (try simp only [Act.put]); (try simp only [List.setIfInBounds_toArray]); (try simp only [List.set_cons_succ]); (try simp only [List.set_cons_zero])
            refine takeD (i := 6) (d := (some 27)) (v := undef) rfl rfl (by kernel_rfl) (by kernel_rfl) (by kernel_rfl) (fun _ _ _ h => h) (Or.inr ⟨by kernel_rfl, rfl⟩) (by assumption) ?_
            (try simp only [Act.put]); (try simp only [List.setIfInBounds_toArray]); (try simp only [List.set_cons_succ]); (try simp only [List.set_cons_zero])
            refine takeD (i := 7) (d := (some 28)) (v := undef) rfl rfl (by kernel_rfl) (by kernel_rfl) (by kernel_rfl) (fun _ _ _ h => h) (Or.inr ⟨by kernel_rfl, rfl⟩) (by assumption) ?_
            (try simp only [Act.put]); (try simp only [List.setIfInBounds_toArray]); (try simp only [List.set_cons_succ]); (try simp only [List.set_cons_zero])
            refine takeD (i := 8) (d := (some 29)) (v := undef) rfl rfl (by kernel_rfl) (by kernel_rfl) (by kernel_rfl) (fun _ _ _ h => h) (Or.inr ⟨by kernel_rfl, rfl⟩) (by assumption) ?_
            (try simp only [Act.put]); (try simp only [List.setIfInBounds_toArray]); (try simp only [List.set_cons_succ]); (try simp only [List.set_cons_zero])
            refine takeD (i := 9) (d := (some 30)) (v := undef) rfl rfl (by kernel_rfl) (by kernel_rfl) (by kernel_rfl) (fun _ _ _ h => h) (Or.inr ⟨by kernel_rfl, rfl⟩) (by assumption) ?_
            (try simp only [Act.put]); (try simp only [List.setIfInBounds_toArray]); (try simp only [List.set_cons_succ]); (try simp only [List.set_cons_zero])
            refine takeD (i := 10) (d := (some 31)) (v := undef) rfl rfl (by kernel_rfl) (by kernel_rfl) (by kernel_rfl) (fun _ _ _ h => h) (Or.inr ⟨by kernel_rfl, rfl⟩) (by assumption) ?_
            (try simp only [Act.put]); (try simp only [List.setIfInBounds_toArray]); (try simp only [List.set_cons_succ]); (try simp only [List.set_cons_zero])
            refine takeD (i := 11) (d := (some 32)) (v := undef) rfl rfl (by kernel_rfl) (by kernel_rfl) (by kernel_rfl) (fun _ _ _ h => h) (Or.inr ⟨by kernel_rfl, rfl⟩) (by assumption) ?_
            (try simp only [Act.put]); (try simp only [List.setIfInBounds_toArray]); (try simp only [List.set_cons_succ]); (try simp only [List.set_cons_zero])
            refine takeD (i := 12) (d := (some 33)) (v := (.bool true)) rfl rfl (by kernel_rfl) (by kernel_rfl) (by kernel_rfl) (fun _ _ _ h => h) (Or.inl ⟨by kernel_rfl, ?_⟩) (by assumption) ?_
            · intro wS hSw
              (try dsimp only at hSw)
              go_simp
            (try simp only [Act.put]); (try simp only [List.setIfInBounds_toArray]); (try simp only [List.set_cons_succ]); (try simp only [List.set_cons_zero])
            refine wpAnyH_done (by kernel_rfl) ?_ _
            have B3 := Lib.hid (B1.out.trans ((HB0.out.trans (hb.mono HB0.out.size)).mono B1.out.size))
            clear hb
            go_wp2_with fail
            go_ret
            exact ⟨ret_boolT (decide_eq_false (fun H => HK.out (by have hw := (H.2.2 k (by rw [← HN.out]; exact HLT.out)).1; rwa [← HX.out] at hw))).symm, B3.out⟩
        · have q3 : ¬ (k : Int) < n := by omega
          obtain rfl : k = n := by omega
          go_wp2_with fail
          go_ret
          exact ⟨ret_boolT (decide_eq_true (⟨HC.out, by rw [← HN.out]; exact h12, fun j hj => HA.out j (by rw [HN.out]; exact hj)⟩ : MeetOk xs ws)).symm, B1.out.trans (HB.out.mono B1.out.size)⟩
    · have q0 : (12 : Int) < n := by omega
      have HF := Lib.hid (show ¬ MeetOk xs ws from fun H => h12 (by have := H.2.1; have := HN.out; omega))
      go_enter Try.func21, Try.ntmps21
      go_wp2_with fail
      refine CO.out.mono ?_
      rintro e1 w1 ⟨rfl, b1⟩
      have B1 := Lib.hid ((below_alloc1 w (.cells #[.slice p0 lx c0] 29)).trans (b1.mono (by simp)))
      clear b1
      go_wp2_with fail
      go_ret
      exact ⟨ret_boolT (decide_eq_false HF.out).symm, B1.out⟩
  · rw [show cirB xs = false from decide_eq_false hc] at CO
    have HF := Lib.hid (show ¬ MeetOk xs ws from fun H => hc H.1)
    clear h h' hl hl' hc
    go_enter Try.func21, Try.ntmps21
    go_wp2_with fail
    refine CO.out.mono ?_
    rintro e1 w1 ⟨rfl, b1⟩
    have B1 := Lib.hid ((below_alloc1 w (.cells #[v] 29)).trans (b1.mono (by simp)))
    clear b1
    go_wp2_with fail
    go_ret
    exact ⟨ret_boolT (decide_eq_false HF.out).symm, B1.out⟩
theorem walk_FnExactMeets (a : Option Addr) (len cap : Nat) (zs : List Int) (a' : Option Addr) (len' cap' : Nat) (ws : List Wi) (w : World) (hr : IsRow .i64 w a len cap zs) (hw : WiRow w a' len' ws) :
    Calls Try.prog 5 #[cirV (.slice a len cap), .slice a' len' cap'] w fun e w' => e = .returned (.bool true) ∧ Below w.heap.size w w' :=
  walk_MeetsBy meets_impl a len cap zs a' len' cap' ws w hr hw
end Go.Proofs.Ytohfepcdgbgojab
