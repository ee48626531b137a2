/- Whether a circle meets wishes; contract of spec.Meets. -/
import Derived.Test.YtohfepcdgbgojabThirdParts
import Derived.Test.YtohfepcdgbgojabWishRows
import Derived.Test.YtohfepcdgbgojabBestCir
import Derived.Test.YtohfepcdgbgojabTakeD
namespace Go.Proofs.Ytohfepcdgbgojab
open Go.RowKit Go.Joins
set_option linter.unusedVariables false
/-- A circle meets one wish, and all of them. -/
def WishOk (xs : List Int) (x : Wi) : Prop := (0 ≤ x.key ∧ x.key ≤ 11) ∧ x.least ≤ cycTo xs x.key.toNat 4
instance (xs : List Int) (x : Wi) : Decidable (WishOk xs x) := by unfold WishOk; infer_instance
def MeetOk (xs : List Int) (ws : List Wi) : Prop := CirOk xs ∧ ws.length ≤ 12 ∧ ∀ j, j < ws.length → WishOk xs (wiAt ws j)
instance (xs : List Int) (ws : List Wi) : Decidable (MeetOk xs ws) := by unfold MeetOk; infer_instance
def meetB (xs : List Int) (ws : List Wi) : Bool := decide (MeetOk xs ws)
/-- The circle's box and one wish. -/
def WishAt (m g o : Nat) (v : Value) (X : Wi) (w : World) : Prop := (m < w.heap.size ∧ g < w.heap.size) ∧ w.cell? ⟨m, 0, none⟩ = some v ∧ w.cell? ⟨g, o, none⟩ = some (.int .i64 X.key) ∧ w.cell? ⟨g, o + 1, none⟩ = some (.int .i64 X.least)
theorem wishAt_keep {m g o : Nat} {v : Value} {X : Wi} {w w' : World} (hb : Below w.heap.size w w') (h : WishAt m g o v X w) : WishAt m g o v X w' :=
  ⟨⟨Nat.lt_of_lt_of_le h.1.1 hb.size, Nat.lt_of_lt_of_le h.1.2 hb.size⟩, (hb.cell h.1.1).trans h.2.1, (hb.cell h.1.2).trans h.2.2.1, (hb.cell h.1.2).trans h.2.2.2⟩
theorem wishAt_cells {m g o : Nat} {v : Value} {X : Wi} {w : World} (h : WishAt m g o v X w) : w.cell? ⟨m, 0, none⟩ = some v ∧ w.cell? ⟨g, o, none⟩ = some (.int .i64 X.key) ∧ w.cell? ⟨g, o + 1, none⟩ = some (.int .i64 X.least) := h.2
theorem inT_from {W w : World} {n : Int} {y : Bool} (h : Below W.heap.size W w) (hy : decide (0 ≤ n ∧ n ≤ 11) = y) : Calls Try.prog 65 #[.int .i64 n, .int .i64 0, .int .i64 11] w fun e w' => e = .returned (.bool y) ∧ Below W.heap.size W w' :=
  (inT_any n 0 11 w).mono fun _ _ ⟨he, hw⟩ => ⟨by rw [he, hy], hw ▸ h⟩
set_option maxRecDepth 100000 in
set_option maxHeartbeats 8000000 in
theorem meets_spec (w : World) (b : Nat) (e : TypeId) (v : Value) (xs : List Int) (b' : Nat) (e' : TypeId) (v' : Value) (ws : List Wi) (hl : xs.length ≤ 2000000) (hl' : ws.length ≤ 2000000) (h : w.ownsRow b e 1 v xs.length (intCs xs)) (h' : w.ownsRow b' e' 2 v' ws.length (wiCs ws)) :
    Calls Try.prog 26 #[cirV v, v'] w fun en w' => en = .returned (.bool (meetB xs ws)) ∧ Below w.heap.size w w' := by
  have CO := Lib.hid (cirOk_spec _ b e v xs hl (own_below h (below_alloc1 w (.cells #[v] 29))))
  obtain ⟨n, hn⟩ : ∃ n, n = ws.length := ⟨_, rfl⟩
  rw [← hn] at h' hl'
  have HN := Lib.hid hn
  clear hn
  obtain ⟨p', c', rfl⟩ := ownW_slice h'
  by_cases hc : CirOk xs
  · rw [show cirB xs = true from decide_eq_true hc] at CO
    obtain ⟨q, c, rfl, hq, _, _, hcl⟩ := cir_row h hc
    have HCL := Lib.hid hcl
    have HQ := Lib.hid hq
    have HC := Lib.hid hc
    have HW := Lib.hid h'
    clear h hl hcl hq hc h'
    by_cases h12 : n ≤ 12
    · have q0 : ¬ (12 : Int) < n := by omega
      go_enter Try.func26, Try.ntmps26
      go_wp2_with fail
      refine CO.out.mono ?_
      rintro e1 w1 ⟨rfl, b1⟩
      have BX := (below_alloc1 w (.cells #[.slice (some ⟨q, 0, none⟩) 12 c] 29)).trans (b1.mono (by simp))
      have X1 := one_keep b1 (one_alloc (w := w) (v := .slice (some ⟨q, 0, none⟩) 12 c) (t := 29))
      have CX : Hid (CirBox xs w.heap.size q c w1) := Lib.hid ⟨⟨X1.1, Nat.lt_of_lt_of_le HQ.out BX.size⟩, X1.2.1, fun j hj => (BX.cell (p := ⟨q, j, none⟩) HQ.out).trans (HCL.out j hj)⟩
      have HW1 := Lib.hid (ownW_below HW.out BX)
      have B1 := Lib.hid BX
      clear BX X1 b1 CO HW
      obtain ⟨m, hm⟩ : ∃ m, m = w.heap.size := ⟨_, rfl⟩
      rw [← hm] at CX ⊢
      clear hm
      go_wp2_with fail
      go_loopw [5] (fun x wr => ∃ k : Nat, k ≤ n ∧ x = .int .i64 (k : Int) ∧ Hid (∀ j, j < k → WishOk xs (wiAt ws j)) ∧ Hid (Below w1.heap.size w1 wr)) (fun x _ => n - (intOf x).toNat)
      case atStart => exact ⟨0, Nat.zero_le _, by go_num, Lib.hid (fun j hj => by omega), Lib.hid (Below.refl _ _)⟩
      case round =>
        obtain ⟨k, hk, rfl, HA, HB⟩ := hrel
        by_cases hlt : k < n
        · have q3 : (k : Int) < n := by omega
          obtain ⟨g, cg, hg, _, hgl⟩ := ownW_pos HW1.out (by omega)
          simp only [Value.slice.injEq, true_and] at hg
          obtain ⟨rfl, rfl⟩ := hg
          obtain ⟨X, hX⟩ : ∃ X, X = wiAt ws k := ⟨_, rfl⟩
          have r1 := own_wi (ownW_below HW1.out HB.out) HN.out k hlt
          rw [← hX] at r1
          have CB := cirBox_keep CX.out HB.out
          have WA : Hid (WishAt m g (k * 2) (.slice (some ⟨q, 0, none⟩) 12 c) X wr) := Lib.hid ⟨⟨CB.1.1, Nat.lt_of_lt_of_le hgl HB.out.size⟩, CB.2.1, r1⟩
          have HX := Lib.hid hX
          have HLT := Lib.hid hlt
          clear hX r1 hgl
          by_cases hkey : 0 ≤ X.key ∧ X.key ≤ 11
          · have SF := sfSay_at HC.out (show X.key.toNat < 12 from by omega) CB
            rw [show ((X.key.toNat : Nat) : Int) = X.key from by omega] at SF
            obtain ⟨Y, hY⟩ : ∃ Y, Y = keyC xs X.key := ⟨_, rfl⟩
            rw [← hY] at SF
            have hd := decide_eq_true hkey
            have HK := Lib.hid hkey
            have HY : Hid (Y = cycTo xs X.key.toNat 4) := Lib.hid hY
            clear CB hY hkey
            by_cases hsum : Y < X.least
            · have HSM := Lib.hid hsum
              go_wp2_with fail
              go_region_held3 (fun w' => w'.cell? ⟨m, 0, none⟩ = some (.slice (some ⟨q, 0, none⟩) 12 c) ∧ w'.cell? ⟨g, k * 2, none⟩ = some (.int .i64 X.key) ∧ w'.cell? ⟨g, k * 2 + 1, none⟩ = some (.int .i64 X.least)) (with_reducible first | exact wishAt_cells (wishAt_keep (Below.refl _ _).drew WA.out) | exact wishAt_cells (wishAt_keep (by assumption) WA.out) | exact wishAt_cells WA.out)
                (first
                  | (go_at_call 65; refine (inT_from (W := wr) (by with_reducible first | assumption | exact (Below.refl _ _).drew) (by with_reducible assumption)).mono ?_; rintro e1 w3 ⟨rfl, hb⟩)
                  | (go_at_call 66; refine (calls_fromF (W := wr) (by with_reducible first | assumption | exact (Below.refl _ _).drew) (sf_run (by with_reducible assumption) _ (by with_reducible first | assumption | exact (Below.refl _ _).drew))).mono ?_; rintro e1 w3 ⟨rfl, hb⟩))
              all_goals
                have B3 := Lib.hid (B1.out.trans ((HB.out.trans (hb.mono HB.out.size)).mono B1.out.size))
                clear hb
                go_wp2_with fail
                go_ret
                exact ⟨ret_boolT (decide_eq_false (fun H => by have hw := (H.2.2 k (by rw [← HN.out]; exact HLT.out)).2; rw [← HX.out, ← HY.out] at hw; have := HSM.out; omega)).symm, B3.out⟩
            · have HSM := Lib.hid hsum
              go_wp2_with fail
              go_region_held3 (fun w' => w'.cell? ⟨m, 0, none⟩ = some (.slice (some ⟨q, 0, none⟩) 12 c) ∧ w'.cell? ⟨g, k * 2, none⟩ = some (.int .i64 X.key) ∧ w'.cell? ⟨g, k * 2 + 1, none⟩ = some (.int .i64 X.least)) (with_reducible first | exact wishAt_cells (wishAt_keep (Below.refl _ _).drew WA.out) | exact wishAt_cells (wishAt_keep (by assumption) WA.out) | exact wishAt_cells WA.out)
                (first
                  | (go_at_call 65; refine (inT_from (W := wr) (by with_reducible first | assumption | exact (Below.refl _ _).drew) (by with_reducible assumption)).mono ?_; rintro e1 w3 ⟨rfl, hb⟩)
                  | (go_at_call 66; refine (calls_fromF (W := wr) (by with_reducible first | assumption | exact (Below.refl _ _).drew) (sf_run (by with_reducible assumption) _ (by with_reducible first | assumption | exact (Below.refl _ _).drew))).mono ?_; rintro e1 w3 ⟨rfl, hb⟩))
              all_goals
                have B3 := Lib.hid (HB.out.trans (hb.mono HB.out.size))
                clear hb
                go_wp2_with fail
                go_roundw
                case rel => exact ⟨k + 1, HLT.out, by go_num, Lib.hid (fun j hj => (show j < k ∨ j = k from by omega).elim (fun h => HA.out j h) (fun h => by rw [h, ← HX.out]; exact ⟨HK.out, by rw [← HY.out]; have := HSM.out; omega⟩)), B3⟩
                case measure => simp [intOf]; omega
          · have hd := decide_eq_false hkey
            have HK := Lib.hid hkey
            clear CB hkey
            go_wp2_with fail
            refine wp_region_held_drew (S := (fun w' => w'.cell? ⟨m, 0, none⟩ = some (.slice (some ⟨q, 0, none⟩) 12 c) ∧ w'.cell? ⟨g, k * 2, none⟩ = some (.int .i64 X.key) ∧ w'.cell? ⟨g, k * 2 + 1, none⟩ = some (.int .i64 X.least))) (by kernel_rfl) ?_ (fun hHeld => ?_)
            · exact wishAt_cells (wishAt_keep (Below.refl _ _).drew WA.out)
            refine takeD (i := 0) (d := (some 20)) (v := (.slice (some ⟨g, 0, none⟩) n c')) rfl rfl (by kernel_rfl) (by kernel_rfl) (by kernel_rfl) (fun _ _ _ h => h) (Or.inl ⟨by kernel_rfl, ?_⟩) (by assumption) ?_
            · intro wS hSw
              (try dsimp only at hSw)
              go_simp
            (try simp only [Act.put]); (try simp only [List.setIfInBounds_toArray]); (try simp only [List.set_cons_succ]); (try simp only [List.set_cons_zero])
            refine takeD (i := 1) (d := (some 21)) (v := (.int .i64 (k : Int))) rfl rfl (by kernel_rfl) (by kernel_rfl) (by kernel_rfl) (fun _ _ _ h => h) (Or.inl ⟨by kernel_rfl, ?_⟩) (by assumption) ?_
            · intro wS hSw
              (try dsimp only at hSw)
              go_simp
            (try simp only [Act.put]); (try simp only [List.setIfInBounds_toArray]); (try simp only [List.set_cons_succ]); (try simp only [List.set_cons_zero])
            refine takeD (i := 2) (d := (some 22)) (v := (.pointer (some ⟨g, k * 2, none⟩))) rfl rfl (by kernel_rfl) (by kernel_rfl) (by kernel_rfl) (fun _ _ _ h => h) (Or.inl ⟨by kernel_rfl, ?_⟩) (by assumption) ?_
            · intro wS hSw
              (try dsimp only at hSw)
              go_simp
            (try simp only [Act.put]); (try simp only [List.setIfInBounds_toArray]); (try simp only [List.set_cons_succ]); (try simp only [List.set_cons_zero])
            refine takeD (i := 3) (d := (some 23)) (v := (.pointer (some ⟨g, k * 2, none⟩))) rfl rfl (by kernel_rfl) (by kernel_rfl) (by kernel_rfl) (fun _ _ _ h => h) (Or.inl ⟨by kernel_rfl, ?_⟩) (by assumption) ?_
            · intro wS hSw
              (try dsimp only at hSw)
              go_simp
            (try simp only [Act.put]); (try simp only [List.setIfInBounds_toArray]); (try simp only [List.set_cons_succ]); (try simp only [List.set_cons_zero])
            refine takeD (i := 4) (d := (some 24)) (v := (.int .i64 X.key)) rfl rfl (by kernel_rfl) (by kernel_rfl) (by kernel_rfl) (fun _ _ _ h => h) (Or.inl ⟨by kernel_rfl, ?_⟩) (by assumption) ?_
            · intro wS hSw
              (try dsimp only at hSw)
              go_simp
            (try simp only [Act.put]); (try simp only [List.setIfInBounds_toArray]); (try simp only [List.set_cons_succ]); (try simp only [List.set_cons_zero])
            refine wpAnyH_ready (rs := [5]) (by kernel_rfl) (by simp) ?_
            refine AllReadyH.cons rfl (fun K hK => ?_) AllReadyH.nil
            go_simp
            refine (inT_from (W := wr) (by with_reducible first | assumption | exact (Below.refl _ _).drew) (by with_reducible assumption)).mono ?_
            rintro e1 w1 ⟨rfl, hb⟩
            go_wp2_with fail
            refine hK.out _ _ ?_ (fun hHeld => ?_)
            · exact wishAt_cells (wishAt_keep hb WA.out)
            clear hK K
            (try simp only [Act.put]); (try simp only [List.setIfInBounds_toArray]); (try simp only [List.set_cons_succ]); (try simp only [List.set_cons_zero])
            refine takeD (i := 6) (d := (some 26)) (v := (.bool true)) rfl rfl (by kernel_rfl) (by kernel_rfl) (by kernel_rfl) (fun _ _ _ h => h) (Or.inl ⟨by kernel_rfl, ?_⟩) (by assumption) ?_
            · intro wS hSw
              (try dsimp only at hSw)
              go_simp
            (try simp only [Act.put]); (try simp only [List.setIfInBounds_toArray]); (try simp only [List.set_cons_succ]); (try simp only [List.set_cons_zero])
            refine takeD (i := 7) (d := (some 27)) (v := (.bool true)) rfl rfl (by kernel_rfl) (by kernel_rfl) (by kernel_rfl) (fun _ _ _ h => h) (Or.inl ⟨by kernel_rfl, ?_⟩) (by assumption) ?_
            · intro wS hSw
              (try dsimp only at hSw)
              go_simp
            (try simp only [Act.put]); (try simp only [List.setIfInBounds_toArray]); (try simp only [List.set_cons_succ]); (try simp only [List.set_cons_zero])
            refine takeD (i := 8) (d := (some 28)) (v := undef) rfl rfl (by kernel_rfl) (by kernel_rfl) (by kernel_rfl) (fun _ _ _ h => h) (Or.inr ⟨by kernel_rfl, rfl⟩) (by assumption) ?_
            (try simp only [Act.put]); (try simp only [List.setIfInBounds_toArray]); (try simp only [List.set_cons_succ]); (try simp only [List.set_cons_zero])
            refine takeD (i := 9) (d := (some 29)) (v := undef) rfl rfl (by kernel_rfl) (by kernel_rfl) (by kernel_rfl) (fun _ _ _ h => h) (Or.inr ⟨by kernel_rfl, rfl⟩) (by assumption) ?_
            (try simp only [Act.put]); (try simp only [List.setIfInBounds_toArray]); (try simp only [List.set_cons_succ]); (try simp only [List.set_cons_zero])
            refine takeD (i := 10) (d := (some 30)) (v := undef) rfl rfl (by kernel_rfl) (by kernel_rfl) (by kernel_rfl) (fun _ _ _ h => h) (Or.inr ⟨by kernel_rfl, rfl⟩) (by assumption) ?_
            (try simp only [Act.put]); (try simp only [List.setIfInBounds_toArray]); (try simp only [List.set_cons_succ]); (try simp only [List.set_cons_zero])
            refine takeD (i := 11) (d := (some 31)) (v := undef) rfl rfl (by kernel_rfl) (by kernel_rfl) (by kernel_rfl) (fun _ _ _ h => h) (Or.inr ⟨by kernel_rfl, rfl⟩) (by assumption) ?_
            (try simp only [Act.put]); (try simp only [List.setIfInBounds_toArray]); (try simp only [List.set_cons_succ]); (try simp only [List.set_cons_zero])
            refine takeD (i := 12) (d := (some 32)) (v := undef) rfl rfl (by kernel_rfl) (by kernel_rfl) (by kernel_rfl) (fun _ _ _ h => h) (Or.inr ⟨by kernel_rfl, rfl⟩) (by assumption) ?_
            (try simp only [Act.put]); (try simp only [List.setIfInBounds_toArray]); (try simp only [List.set_cons_succ]); (try simp only [List.set_cons_zero])
            refine takeD (i := 13) (d := (some 33)) (v := undef) rfl rfl (by kernel_rfl) (by kernel_rfl) (by kernel_rfl) (fun _ _ _ h => h) (Or.inr ⟨by kernel_rfl, rfl⟩) (by assumption) ?_
            (try simp only [Act.put]); (try simp only [List.setIfInBounds_toArray]); (try simp only [List.set_cons_succ]); (try simp only [List.set_cons_zero])
            refine takeD (i := 14) (d := (some 34)) (v := undef) rfl rfl (by kernel_rfl) (by kernel_rfl) (by kernel_rfl) (fun _ _ _ h => h) (Or.inr ⟨by kernel_rfl, rfl⟩) (by assumption) ?_
            (try simp only [Act.put]); (try simp only [List.setIfInBounds_toArray]); (try simp only [List.set_cons_succ]); (try simp only [List.set_cons_zero])
            refine takeD (i := 15) (d := (some 35)) (v := undef) rfl rfl (by kernel_rfl) (by kernel_rfl) (by kernel_rfl) (fun _ _ _ h => h) (Or.inr ⟨by kernel_rfl, rfl⟩) (by assumption) ?_
            (try simp only [Act.put]); (try simp only [List.setIfInBounds_toArray]); (try simp only [List.set_cons_succ]); (try simp only [List.set_cons_zero])
            refine takeD (i := 16) (d := (some 36)) (v := undef) rfl rfl (by kernel_rfl) (by kernel_rfl) (by kernel_rfl) (fun _ _ _ h => h) (Or.inr ⟨by kernel_rfl, rfl⟩) (by assumption) ?_
            (try simp only [Act.put]); (try simp only [List.setIfInBounds_toArray]); (try simp only [List.set_cons_succ]); (try simp only [List.set_cons_zero])
            refine takeD (i := 17) (d := (some 37)) (v := undef) rfl rfl (by kernel_rfl) (by kernel_rfl) (by kernel_rfl) (fun _ _ _ h => h) (Or.inr ⟨by kernel_rfl, rfl⟩) (by assumption) ?_
            (try simp only [Act.put]); (try simp only [List.setIfInBounds_toArray]); (try simp only [List.set_cons_succ]); (try simp only [List.set_cons_zero])
            refine takeD (i := 18) (d := (some 38)) (v := undef) rfl rfl (by kernel_rfl) (by kernel_rfl) (by kernel_rfl) (fun _ _ _ h => h) (Or.inr ⟨by kernel_rfl, rfl⟩) (by assumption) ?_
            (try simp only [Act.put]); (try simp only [List.setIfInBounds_toArray]); (try simp only [List.set_cons_succ]); (try simp only [List.set_cons_zero])
            refine takeD (i := 19) (d := (some 39)) (v := undef) rfl rfl (by kernel_rfl) (by kernel_rfl) (by kernel_rfl) (fun _ _ _ h => h) (Or.inr ⟨by kernel_rfl, rfl⟩) (by assumption) ?_
            (try simp only [Act.put]); (try simp only [List.setIfInBounds_toArray]); (try simp only [List.set_cons_succ]); (try simp only [List.set_cons_zero])
            refine takeD (i := 20) (d := (some 40)) (v := undef) rfl rfl (by kernel_rfl) (by kernel_rfl) (by kernel_rfl) (fun _ _ _ h => h) (Or.inr ⟨by kernel_rfl, rfl⟩) (by assumption) ?_
            (try simp only [Act.put]); (try simp only [List.setIfInBounds_toArray]); (try simp only [List.set_cons_succ]); (try simp only [List.set_cons_zero])
            refine takeD (i := 21) (d := (some 41)) (v := (.bool true)) rfl rfl (by kernel_rfl) (by kernel_rfl) (by kernel_rfl) (fun _ _ _ h => h) (Or.inl ⟨by kernel_rfl, ?_⟩) (by assumption) ?_
            · intro wS hSw
              (try dsimp only at hSw)
              go_simp
            (try simp only [Act.put]); (try simp only [List.setIfInBounds_toArray]); (try simp only [List.set_cons_succ]); (try simp only [List.set_cons_zero])
            refine wpAnyH_done (by kernel_rfl) ?_ _
            have B3 := Lib.hid (B1.out.trans ((HB.out.trans (hb.mono HB.out.size)).mono B1.out.size))
            clear hb
            go_wp2_with fail
            go_ret
            exact ⟨ret_boolT (decide_eq_false (fun H => HK.out (by have hw := (H.2.2 k (by rw [← HN.out]; exact HLT.out)).1; rwa [← HX.out] at hw))).symm, B3.out⟩
        · have q3 : ¬ (k : Int) < n := by omega
          obtain rfl : k = n := by omega
          go_wp2_with fail
          go_ret
          exact ⟨ret_boolT (decide_eq_true (⟨HC.out, by rw [← HN.out]; exact h12, fun j hj => HA.out j (by rw [HN.out]; exact hj)⟩ : MeetOk xs ws)).symm, B1.out.trans (HB.out.mono B1.out.size)⟩
    · have q0 : (12 : Int) < n := by omega
      have HF := Lib.hid (show ¬ MeetOk xs ws from fun H => h12 (by have := H.2.1; have := HN.out; omega))
      go_enter Try.func26, Try.ntmps26
      go_wp2_with fail
      refine CO.out.mono ?_
      rintro e1 w1 ⟨rfl, b1⟩
      have B1 := Lib.hid ((below_alloc1 w (.cells #[.slice (some ⟨q, 0, none⟩) 12 c] 29)).trans (b1.mono (by simp)))
      clear b1
      go_wp2_with fail
      go_ret
      exact ⟨ret_boolT (decide_eq_false HF.out).symm, B1.out⟩
  · rw [show cirB xs = false from decide_eq_false hc] at CO
    have HF := Lib.hid (show ¬ MeetOk xs ws from fun H => hc H.1)
    clear h h' hl hl' hc
    go_enter Try.func26, Try.ntmps26
    go_wp2_with fail
    refine CO.out.mono ?_
    rintro e1 w1 ⟨rfl, b1⟩
    have B1 := Lib.hid ((below_alloc1 w (.cells #[v] 29)).trans (b1.mono (by simp)))
    clear b1
    go_wp2_with fail
    go_ret
    exact ⟨ret_boolT (decide_eq_false HF.out).symm, B1.out⟩
end Go.Proofs.Ytohfepcdgbgojab
