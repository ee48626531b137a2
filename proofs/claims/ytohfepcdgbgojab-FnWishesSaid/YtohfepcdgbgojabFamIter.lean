/- The iterator over a family's circles: impl.familyCircles hands back a function that Gives them, each in a block of its own. -/
import Derived.RangeFuncNested
import Derived.RangeFuncLeaves
import Derived.Shelf.Abstract
import Derived.Shelf.RegionOpen
import Derived.WalkKit
import Derived.OwnWalkIn
import Derived.TacticsInMore
import Derived.LoopNIn
import Derived.LoopIn
import Derived.Test.YtohfepcdgbgojabFamCode
import Derived.Test.YtohfepcdgbgojabTakeD
import Derived.Test.YtohfepcdgbgojabRangeFn
namespace Go.Proofs.Ytohfepcdgbgojab
open Go.RowKit Go.Joins Go.Shelf
set_option linter.unusedVariables false
attribute [local go_sem] Oper.semAt_some
/-- The circle of round k lies in a block that is new. -/
def encC (x : Nat × Nat) : Array Value := #[cirV (.slice (some ⟨x.1, 0, none⟩) 12 x.2)]
def RFam (L : List (List Int)) (k : Nat) (x : Nat × Nat) (W1 W2 : World) : Prop := W2.ownsRow W1.heap.size 3 1 (.slice (some ⟨x.1, 0, none⟩) 12 x.2) 12 (intCs (lAt L k))
theorem fam_make (p : Int) (w : World) : Calls Try.prog 54 #[.int .i64 p] w fun e w' => e = .returned (.func (.func 79) #[] #[.pointer (some ⟨w.heap.size, 0, none⟩)]) ∧ w' = w.alloc (.cells #[.int .i64 p] 3) := by
  go_enter Try.func54, Try.ntmps54
  go_wp2
  go_ret
  exact ⟨rfl, rfl⟩
theorem chosL_succ (p : Int) (k : Nat) : chosL p (k + 1) = chosL p k ++ oneC p k := by
  show chosR p 0 k ++ oneC p (0 + k) = chosR p 0 k ++ oneC p k
  rw [Nat.zero_add]
theorem chosL_take (p : Int) (k : Nat) : ∀ m, ∃ M, chosL p (k + m) = chosL p k ++ M
  | 0 => ⟨[], by simp⟩
  | m + 1 => by
    obtain ⟨M, hM⟩ := chosL_take p k m
    exact ⟨M ++ oneC p (k + m), by rw [← Nat.add_assoc, chosL_succ, hM, List.append_assoc]⟩
/-- The choice that is taken is the next circle of the family. -/
theorem fam_next {p : Int} (hp : FamOk p) {k : Nat} (hk : k < 4096) (ht : takenC p k = true) : (chosL p k).length < (famOf p).length ∧ lAt (famOf p) (chosL p k).length = choL p k 12 ∧ (chosL p (k + 1)).length = (chosL p k).length + 1 := by
  have e : oneC p k = [choL p k 12] := by unfold oneC; rw [if_pos ht]
  obtain ⟨M, hM⟩ := chosL_take p (k + 1) (4096 - (k + 1))
  rw [show k + 1 + (4096 - (k + 1)) = 4096 from by omega, chos_fam p hp, chosL_succ, e] at hM
  refine ⟨by rw [hM]; simp, ?_, by rw [chosL_succ, e]; simp⟩
  rw [hM]
  simp [lAt]
theorem fam_stay {p : Int} {k : Nat} (ht : takenC p k = false) : (chosL p (k + 1)).length = (chosL p k).length := by
  have e : oneC p k = [] := by unfold oneC; rw [if_neg (by rw [ht]; simp)]
  rw [chosL_succ, e, List.append_nil]
theorem pop_wrap {z p : Int} (hz : 0 ≤ z ∧ z ≤ 12) (hp : 2 ≤ p ∧ p ≤ 12) : wrap64 (z * p) = z * p := by
  have h0 : 0 ≤ z * p := Int.mul_nonneg hz.1 (by omega)
  have h1 : z * p ≤ 12 * 12 := Int.mul_le_mul hz.2 hp.2 (by omega) (by omega)
  unfold wrap64
  omega
/-- What a round leaves: it goes on, or it has said that no more is wanted. -/
def YSay (J : Nat → World → Prop) (Jx : World → Prop) (m : Nat) (c : Value) (k : Nat) (e : Ending) (W' : World) : Prop :=
  ∃ y, e = .returned (.bool y) ∧ ((y = true ∧ J k W' ∧ W'.cell? ⟨m, 0, none⟩ = some c) ∨ (y = false ∧ Jx W'))
/-- The circle of a choice that is taken, and the round for it. -/
theorem chosen_yields {p : Int} {n l k m : Nat} {J : Nat → World → Prop} {Jx : World → Prop} {W0 wr X : World} (hp : FamOk p) (hp2 : 2 ≤ p ∧ p ≤ 12) (hk : k < 4096) (ht : true = takenC p k)
    (hY : ∀ (k : Nat) (x : Nat × Nat) (W1 W2 : World), k < (famOf p).length → J k W1 → Below W1.heap.size W1 W2 → RFam (famOf p) k x W1 W2 → YieldAt Fence.wide (n - 1) Try.prog l (encC x) W2 fun e W' =>
      (e = .returned (.bool true) ∧ J (k + 1) W' ∧ W'.heap[m]? = W2.heap[m]?) ∨ (e = .returned (.bool false) ∧ Jx W'))
    (hm : m < wr.heap.size) (hc : wr.cell? ⟨m, 0, none⟩ = some (.int .i64 p)) (hj : J (chosL p k).length W0) (hb : Below W0.heap.size W0 wr) (hX : Below wr.heap.size wr X) :
    Calls Try.prog 82 #[.int .u64 (k : Int), .int .i64 p] X fun e w1 => ∃ g c, e = .returned (cirV (.slice (some ⟨g, 0, none⟩) 12 c)) ∧ YieldAt Fence.wide (n - 1) Try.prog l #[cirV (.slice (some ⟨g, 0, none⟩) 12 c)] w1 (YSay J Jx m (.int .i64 p) (chosL p (k + 1)).length) := by
  obtain ⟨h1, h2, h3⟩ := fam_next hp hk ht.symm
  refine (chosen_any p hp2 k hk X).mono ?_
  rintro e w1 ⟨v, rfl, o1, b1⟩
  rw [cho_len] at o1
  obtain ⟨g, c, rfl, _, _⟩ := own_pos o1 (by omega)
  have bX : Below W0.heap.size W0 X := hb.trans (hX.mono hb.size)
  have b2 : Below W0.heap.size W0 w1 := bX.trans (b1.mono bX.size)
  have BW : Below wr.heap.size wr w1 := hX.trans (b1.mono hX.size)
  refine ⟨g, c, rfl, (hY _ (g, c) W0 w1 h1 hj b2 ?_).mono ?_⟩
  · unfold RFam
    rw [h2]
    exact own_base o1 bX.size
  · rintro e W' (⟨rfl, hj', hb'⟩ | ⟨rfl, hx⟩)
    · exact ⟨true, rfl, .inl ⟨rfl, by rw [h3]; exact hj', (World.cell?_of_block hb').trans ((BW.cell (p := ⟨m, 0, none⟩) hm).trans hc)⟩⟩
    · exact ⟨false, rfl, .inr ⟨rfl, hx⟩⟩
def YBool (J : Nat → World → Prop) (Jx : World → Prop) (m : Nat) (c : Value) (k : Nat) (y : Bool) (W' : World) : Prop := (y = true ∧ J k W' ∧ W'.cell? ⟨m, 0, none⟩ = some c) ∨ (y = false ∧ Jx W')
theorem five_of {p z : Int} (hp : FamOk p) (h : z * p = 12) : (p = 2 ∧ z = 6) ∨ (p = 3 ∧ z = 4) ∨ (p = 4 ∧ z = 3) ∨ (p = 6 ∧ z = 2) ∨ (p = 12 ∧ z = 1) := by
  rcases (famOk_iff p).1 hp with rfl | rfl | rfl | rfl | rfl <;> omega
set_option maxRecDepth 100000 in
set_option maxHeartbeats 4000000 in
theorem fam_gives (p : Int) (n : Nat) (m : Nat) (w0 : World) (hm : m < w0.heap.size) (hc : w0.cell? ⟨m, 0, none⟩ = some (.int .i64 p)) :
    Gives Fence.wide n Try.prog 79 #[.pointer (some ⟨m, 0, none⟩)] encC (RFam (famOf p)) (famOf p).length m w0 := by
  intro l J Jx W hW hY h0
  refine callsIn_wide.2 ?_
  have hd : ∀ k : Nat, (Fence.wide.depth.isSome = true → 1 ≤ k) := fun k h => by simp [Fence.wide] at h
  have FO := Lib.hid (family_any p)
  have hcW : W.cell? ⟨m, 0, none⟩ = some (.int .i64 p) := (hW.cell (p := ⟨m, 0, none⟩) hm).trans hc
  by_cases hp : FamOk p
  · rw [decide_eq_true hp] at FO
    have HP := Lib.hid hp
    have HY := Lib.hid hY
    have HMC : Hid (m < W.heap.size ∧ W.cell? ⟨m, 0, none⟩ = some (.int .i64 p)) := Lib.hid ⟨Nat.lt_of_lt_of_le hm hW.size, hcW⟩
    have H0 := Lib.hid h0
    have hp2 : 2 ≤ p ∧ p ≤ 12 := hp.1
    clear hp hY hm hc hW h0
    show Calls _ _ #[.func (.yield l) #[] #[], .pointer (some ⟨m, 0, none⟩)] _ _
    go_enter Try.func79, Try.ntmps79
    go_wp2_with fail
    refine (FO.out _).mono ?_
    rintro e w1 ⟨rfl, rfl⟩
    clear hcW
    go_wp2_with fail
    go_loopw [7] (fun c wr => ∃ k : Nat, k ≤ 4096 ∧ c = .int .u64 (k : Int) ∧ Hid (∃ W0, J (chosL p k).length W0 ∧ Below W0.heap.size W0 wr) ∧ Hid (m < wr.heap.size ∧ wr.cell? ⟨m, 0, none⟩ = some (.int .i64 p))) (fun c _ => 4096 - (intOf c).toNat)
    case atStart => exact ⟨0, Nat.zero_le _, rfl, Lib.hid ⟨_, by simpa [chosL, chosR] using H0.out, Below.refl _ _⟩, HMC⟩
    case round =>
      obtain ⟨k, hk, rfl, HJ, HB⟩ := hrel
      by_cases hlt : k < 4096
      · have q3 : (k : Int) < 4096 := by omega
        have CR : Hid (wr.cell? ⟨m, 0, none⟩ = some (.int .i64 p)) := Lib.hid HB.out.2
        obtain ⟨hz1, hz2⟩ := ones_pop hlt
        obtain ⟨z, hz⟩ : ∃ z : Int, z = (popC k : Int) := ⟨_, rfl⟩
        have ON := Lib.hid (ones_any (k : Int))
        rw [hz1, ← hz] at ON
        have hz3 : 0 ≤ z ∧ z ≤ 12 := by omega
        have t0 : wrap64 (z * p) = z * p := pop_wrap hz3 hp2
        have t0w : IntKind.i64.wrap (z * p) = z * p := IntWalk.i64_in _ (by rw [← t0]; unfold wrap64; omega)
        obtain ⟨t, ht⟩ : ∃ t, t = takenC p k := ⟨_, rfl⟩
        have t1 : (z * p == 12) = t := by rw [ht, hz]; rfl
        have HT := Lib.hid ht
        have HLT := Lib.hid hlt
        clear hz1 hz2 hz ht hlt hk
        go_upto_region 4 with fail
        cases t
        · clear HP HMC HY H0 FO
          refine wp_region_held_drew (S := (fun w' => w'.cell? ⟨m, 0, none⟩ = some (.int .i64 p))) (by kernel_rfl) ?_ (fun hHeld => ?_)
          · exact (CR.out : wr.cell? _ = _)
          refine takeD (i := 0) (d := (some 10)) (v := (.int .u64 (k : Int))) rfl rfl (by kernel_rfl) (by kernel_rfl) (by kernel_rfl) (fun _ _ _ h => h) (Or.inl ⟨by kernel_rfl, ?_⟩) (by assumption) ?_
          · intro wS hSw
            (try dsimp only at hSw)
            go_simp
          (try simp only [Act.put]); (try simp only [List.setIfInBounds_toArray]); (try simp only [List.set_cons_succ]); (try simp only [List.set_cons_zero])
          refine takeD (i := 2) (d := (some 12)) (v := (.int .i64 p)) rfl rfl (by kernel_rfl) (by kernel_rfl) (by kernel_rfl) (fun _ _ _ h => h) (Or.inl ⟨by kernel_rfl, ?_⟩) (by assumption) ?_
          · intro wS hSw
            (try dsimp only at hSw)
            go_simp
          (try simp only [Act.put]); (try simp only [List.setIfInBounds_toArray]); (try simp only [List.set_cons_succ]); (try simp only [List.set_cons_zero])
          refine wpAnyH_ready (rs := [1]) (by kernel_rfl) (by simp) ?_
          refine AllReadyH.cons rfl (fun K hK => ?_) AllReadyH.nil
          go_simp
          refine (ON.out _).mono ?_
          rintro e1 w1 ⟨rfl, hb⟩
          go_wp2_with fail
          refine hK.out _ _ ?_ (fun hHeld => ?_)
          · exact (hb ▸ (CR.out : wr.drew.cell? ⟨m, 0, none⟩ = some (.int .i64 p)))
          clear hK K
          (try simp only [Act.put]); (try simp only [List.setIfInBounds_toArray]); (try simp only [List.set_cons_succ]); (try simp only [List.set_cons_zero])
          refine takeD (i := 3) (d := (some 13)) (v := (.int .i64 (z * p))) rfl rfl (by kernel_rfl) (by kernel_rfl) (by kernel_rfl) (fun _ _ _ h => h) (Or.inl ⟨by kernel_rfl, ?_⟩) (by assumption) ?_
          · intro wS hSw
            (try dsimp only at hSw)
            go_simp
          (try simp only [Act.put]); (try simp only [List.setIfInBounds_toArray]); (try simp only [List.set_cons_succ]); (try simp only [List.set_cons_zero])
          refine takeD (i := 4) (d := (some 14)) (v := (.bool false)) rfl rfl (by kernel_rfl) (by kernel_rfl) (by kernel_rfl) (fun _ _ _ h => h) (Or.inl ⟨by kernel_rfl, ?_⟩) (by assumption) ?_
          · intro wS hSw
            (try dsimp only at hSw)
            go_simp
          (try simp only [Act.put]); (try simp only [List.setIfInBounds_toArray]); (try simp only [List.set_cons_succ]); (try simp only [List.set_cons_zero])
          refine takeD (i := 5) (d := (some 15)) (v := (.bool false)) rfl rfl (by kernel_rfl) (by kernel_rfl) (by kernel_rfl) (fun _ _ _ h => h) (Or.inl ⟨by kernel_rfl, ?_⟩) (by assumption) ?_
          · intro wS hSw
            (try dsimp only at hSw)
            go_simp
          (try simp only [Act.put]); (try simp only [List.setIfInBounds_toArray]); (try simp only [List.set_cons_succ]); (try simp only [List.set_cons_zero])
          refine takeD (i := 6) (d := (some 16)) (v := undef) rfl rfl (by kernel_rfl) (by kernel_rfl) (by kernel_rfl) (fun _ _ _ h => h) (Or.inr ⟨by kernel_rfl, rfl⟩) (by assumption) ?_
          (try simp only [Act.put]); (try simp only [List.setIfInBounds_toArray]); (try simp only [List.set_cons_succ]); (try simp only [List.set_cons_zero])
          refine takeD (i := 7) (d := (some 17)) (v := undef) rfl rfl (by kernel_rfl) (by kernel_rfl) (by kernel_rfl) (fun _ _ _ h => h) (Or.inr ⟨by kernel_rfl, rfl⟩) (by assumption) ?_
          (try simp only [Act.put]); (try simp only [List.setIfInBounds_toArray]); (try simp only [List.set_cons_succ]); (try simp only [List.set_cons_zero])
          refine takeD (i := 8) (d := (some 18)) (v := undef) rfl rfl (by kernel_rfl) (by kernel_rfl) (by kernel_rfl) (fun _ _ _ h => h) (Or.inr ⟨by kernel_rfl, rfl⟩) (by assumption) ?_
          (try simp only [Act.put]); (try simp only [List.setIfInBounds_toArray]); (try simp only [List.set_cons_succ]); (try simp only [List.set_cons_zero])
          refine takeD (i := 9) (d := (some 19)) (v := undef) rfl rfl (by kernel_rfl) (by kernel_rfl) (by kernel_rfl) (fun _ _ _ h => h) (Or.inr ⟨by kernel_rfl, rfl⟩) (by assumption) ?_
          (try simp only [Act.put]); (try simp only [List.setIfInBounds_toArray]); (try simp only [List.set_cons_succ]); (try simp only [List.set_cons_zero])
          refine takeD (i := 10) (d := (some 20)) (v := undef) rfl rfl (by kernel_rfl) (by kernel_rfl) (by kernel_rfl) (fun _ _ _ h => h) (Or.inr ⟨by kernel_rfl, rfl⟩) (by assumption) ?_
          (try simp only [Act.put]); (try simp only [List.setIfInBounds_toArray]); (try simp only [List.set_cons_succ]); (try simp only [List.set_cons_zero])
          refine takeD (i := 11) (d := (some 21)) (v := undef) rfl rfl (by kernel_rfl) (by kernel_rfl) (by kernel_rfl) (fun _ _ _ h => h) (Or.inr ⟨by kernel_rfl, rfl⟩) (by assumption) ?_
          (try simp only [Act.put]); (try simp only [List.setIfInBounds_toArray]); (try simp only [List.set_cons_succ]); (try simp only [List.set_cons_zero])
          refine takeD (i := 12) (d := (some 22)) (v := (.bool false)) rfl rfl (by kernel_rfl) (by kernel_rfl) (by kernel_rfl) (fun _ _ _ h => h) (Or.inl ⟨by kernel_rfl, ?_⟩) (by assumption) ?_
          · intro wS hSw
            (try dsimp only at hSw)
            go_simp
          (try simp only [Act.put]); (try simp only [List.setIfInBounds_toArray]); (try simp only [List.set_cons_succ]); (try simp only [List.set_cons_zero])
          refine wpAnyH_done (by kernel_rfl) ?_ _
          subst hb
          go_wp2_with fail
          go_roundw
          case rel =>
            obtain ⟨W0, j0, b0⟩ := HJ.out
            exact ⟨k + 1, HLT.out, by go_num, Lib.hid ⟨W0, by rw [fam_stay HT.out.symm]; exact j0, b0.drew⟩, Lib.hid ⟨HB.out.1, CR.out⟩⟩
          case measure => simp [intOf]; omega
        · obtain ⟨W0, j0, b0⟩ := HJ.out
          have CH : Hid (∀ X, Below wr.heap.size wr X → CallsIn Fence.wide (n - 1) Try.prog 82 #[.int .u64 (k : Int), .int .i64 p] X fun e w1 => ∃ g c, e = .returned (cirV (.slice (some ⟨g, 0, none⟩) 12 c)) ∧ YieldAt Fence.wide (n - 1) Try.prog l #[cirV (.slice (some ⟨g, 0, none⟩) 12 c)] w1 (YSay J Jx m (.int .i64 p) (chosL p (k + 1)).length)) := Lib.hid (fun X hX => callsIn_wide.2 (chosen_yields HP.out hp2 HLT.out HT.out HY.out HB.out.1 HB.out.2 j0 b0 hX))
          obtain ⟨N, hN⟩ : ∃ N, N = (chosL p (k + 1)).length := ⟨_, rfl⟩
          rw [← hN] at CH
          have HN := Lib.hid hN
          obtain ⟨YS, hYS⟩ : ∃ YS, YS = YSay J Jx m (.int .i64 p) N := ⟨_, rfl⟩
          have YB : Hid (∀ e W', YS e W' → ∃ y, e = .returned (.bool y) ∧ YBool J Jx m (.int .i64 p) N y W') := Lib.hid (fun e W' h => by rw [hYS] at h; exact h)
          rw [← hYS] at CH
          have cr := CR.out
          have hmx : Try.prog.follows .mixedOrders = true := by kernel_rfl
          have five : (p = 2 ∧ z = 6) ∨ (p = 3 ∧ z = 4) ∨ (p = 4 ∧ z = 3) ∨ (p = 6 ∧ z = 2) ∨ (p = 12 ∧ z = 1) := five_of HP.out (by simpa using t1)
          clear j0 b0 hYS hN HP HMC HY H0 FO t0 t0w t1 hz3 hp2 HJ CR
          go_cut [22] (fun s wx => ∃ y, s = .bool (!y) ∧ Hid (YBool J Jx m (.int .i64 p) N y wx))
          case first =>
            refine (wpIn_wide (n := n)).1 ?_
            rcases five with ⟨rfl, rfl⟩ | ⟨rfl, rfl⟩ | ⟨rfl, rfl⟩ | ⟨rfl, rfl⟩ | ⟨rfl, rfl⟩
            all_goals
              gi_region_with_o (first
                | (refine ⟨trivial, hd _, ?_⟩; gi_at_call 81; refine (callsIn_wide.2 (ON.out _)).mono ?_; rintro e w1 ⟨rfl, rfl⟩)
                | (refine ⟨trivial, hd _, ?_⟩; gi_at_call 82; refine (CH.out _ (by with_reducible first | exact (Below.refl _ _).drew)).mono ?_; rintro e w1 ⟨g, c, rfl, fn, tmps, assign, body, hy, hR⟩)
                | ((try refine ⟨hd _, ?_⟩); refine hR.mono ?_; rintro e W2 hys; obtain ⟨y, rfl, hyb⟩ := YB.out _ _ hys))
            all_goals
              go_simp
              go_step
              go_meet
              exact ⟨y, rfl, Lib.hid hyb⟩
          case rest =>
            obtain ⟨y, rfl, HYB⟩ := hcut
            cases y
            · go_wp2_with fail
              refine bodyPost_ret (results_none rfl _ _ _) rfl ?_
              rcases HYB.out with ⟨h, _⟩ | ⟨_, jx⟩
              · cases h
              · exact ⟨⟨_, rfl⟩, .inr ⟨_, jx, Below.refl _ _⟩⟩
            · go_wp2_with fail
              go_roundw
              case rel =>
                rcases HYB.out with ⟨_, j1, b1⟩ | ⟨h, _⟩
                · exact ⟨k + 1, HLT.out, by go_num, Lib.hid ⟨_, by rw [← HN.out]; exact j1, Below.refl _ _⟩, Lib.hid ⟨cell_lt b1, b1⟩⟩
                · cases h
              case measure => simp [intOf]; omega
      · have q3 : ¬ (k : Int) < 4096 := by omega
        obtain rfl : k = 4096 := by omega
        obtain ⟨W0, j0, b0⟩ := HJ.out
        rw [chos_fam p HP.out] at j0
        go_wp2_with fail
        go_end0
        exact ⟨⟨_, rfl⟩, .inl ⟨W0, j0, b0⟩⟩
  · rw [decide_eq_false hp] at FO
    have e0 : famOf p = [] := by unfold famOf; rw [if_neg hp]
    rw [e0]
    have H0 := Lib.hid h0
    clear hY hp h0
    show Calls _ _ #[.func (.yield l) #[] #[], .pointer (some ⟨m, 0, none⟩)] _ _
    go_enter Try.func79, Try.ntmps79
    go_wp2_with fail
    refine (FO.out _).mono ?_
    rintro e w1 ⟨rfl, rfl⟩
    go_wp2_with fail
    refine bodyPost_ret (results_none rfl _ _ _) rfl ?_
    exact ⟨⟨_, rfl⟩, .inl ⟨_, H0.out, Below.refl _ _⟩⟩
end Go.Proofs.Ytohfepcdgbgojab
