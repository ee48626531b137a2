/- The walk of laws.FnFamilies over the program's contracts. -/
import Derived.Test.YtohfepcdgbgojabFamSay
import Derived.Test.YtohfepcdgbgojabFamilyLaw
import Derived.Test.YtohfepcdgbgojabAtWalks
import Derived.Test.YtohfepcdgbgojabTakeD
import Derived.Deep.RegionHeld3
import Derived.Deep.DeepCutAuto
namespace Go.Proofs.Ytohfepcdgbgojab
open Go.RowKit Go.Joins
set_option linter.unusedVariables false
/-- One circle of the row and its parts, where they lie. -/
def ElAt (g k : Nat) (v : Value) (w : World) : Prop := g < w.heap.size ∧ w.cell? ⟨g, k, none⟩ = some v
theorem elAt_keep {g k : Nat} {v : Value} {w w' : World} (hb : Below w.heap.size w w') (h : ElAt g k v w) : ElAt g k v w' := ⟨Nat.lt_of_lt_of_le h.1 hb.size, (hb.cell h.1).trans h.2⟩
theorem elAt_cell {g k : Nat} {v : Value} {w : World} (h : ElAt g k v w) : w.cell? ⟨g, k, none⟩ = some v := h.2
/-- CircleOk and later, told without a look inside. -/
def OkSay (W : World) (v : Value) : Prop := ∀ X, Below W.heap.size W X → Calls Try.prog 16 #[cirV v] X fun e w' => e = .returned (.bool true) ∧ Below W.heap.size W w'
theorem ok_run {W : World} {v : Value} (h : OkSay W v) (X : World) (hX : Below W.heap.size W X) : Calls Try.prog 16 #[cirV v] X fun e w' => e = .returned (.bool true) ∧ Below W.heap.size W w' := h X hX
def LtSay (W : World) (u v : Value) : Prop := ∀ X, Below W.heap.size W X → Calls Try.prog 17 #[u, v] X fun e w' => e = .returned (.bool true) ∧ Below W.heap.size W w'
theorem lt_run {W : World} {u v : Value} (h : LtSay W u v) (X : World) (hX : Below W.heap.size W X) : Calls Try.prog 17 #[u, v] X fun e w' => e = .returned (.bool true) ∧ Below W.heap.size W w' := h X hX
theorem okSay_of {W : World} {B : Nat} {v : Value} {xs : List Int} (hc : CirOk xs) (o : W.ownsRow B 3 1 v xs.length (intCs xs)) : OkSay W v := fun X hX => by
  have t := cirOk_impl X B 3 v xs (by rw [hc.1]; omega) (own_below o hX)
  rw [show cirB xs = true from decide_eq_true hc] at t
  exact t.mono fun _ _ ⟨he, hb⟩ => ⟨he, hX.trans (hb.mono hX.size)⟩
theorem ltSay_of {W : World} {g1 c1 g2 c2 : Nat} {xs ys : List Int} (h : laterAt xs ys 12 0 = true) (l1 : g1 < W.heap.size) (l2 : g2 < W.heap.size) (h1 : ∀ j, j < 12 → W.cell? ⟨g1, j, none⟩ = some (.int .i64 (xs.getD j 0))) (h2 : ∀ j, j < 12 → W.cell? ⟨g2, j, none⟩ = some (.int .i64 (ys.getD j 0))) : LtSay W (.slice (some ⟨g1, 0, none⟩) 12 c1) (.slice (some ⟨g2, 0, none⟩) 12 c2) := fun X hX => by
  have t := later_any X g1 c1 g2 c2 xs ys (fun j hj => (hX.cell l1).trans (h1 j hj)) (fun j hj => (hX.cell l2).trans (h2 j hj)) (Nat.lt_of_lt_of_le l1 hX.size) (Nat.lt_of_lt_of_le l2 hX.size)
  rw [h] at t
  exact t.mono fun _ _ ⟨he, hb⟩ => ⟨he, hX.trans (hb.mono hX.size)⟩
/-- The table of the law. -/
def tabP : Nat → Int | 0 => 3 | 1 => 4 | 2 => 6 | _ => 12
def tabN : Nat → Nat | 0 => 495 | 1 => 220 | 2 => 66 | _ => 12
theorem tab_says {r : Nat} (h : r < 4) : famTab (tabP r) (tabN r) = true := by
  rcases (show r = 0 ∨ r = 1 ∨ r = 2 ∨ r = 3 from by omega) with rfl | rfl | rfl | rfl
  · exact fam_tab.1
  · exact fam_tab.2.1
  · exact fam_tab.2.2.1
  · exact fam_tab.2.2.2
set_option maxRecDepth 100000 in
set_option maxHeartbeats 8000000 in
theorem walk_FamiliesBy (FI : FamImpl) (a0 : Option Addr) (len0 cap0 : Nat) (z0 : List Int) (w : World) (hr : IsRow .u8 w a0 len0 cap0 z0) :
    Calls Try.prog 3 #[.slice a0 len0 cap0] w fun e w' => e = .returned (.bool true) ∧ Below w.heap.size w w' := by
  have hlen := (row_len hr).2
  by_cases hbig : 1048576 < len0
  · have t0 : decide (1048576 < (len0 : Int)) = true := by simp; omega
    go_enter Try.func3, Try.ntmps3
    go_wp2_with fail
    refine (bigW_any _ _ _ _ hlen).mono ?_
    rintro e w' ⟨rfl, rfl⟩
    go_wp2_with fail
    go_ret
    exact ⟨rfl, Below.refl _ _⟩
  · have t0 : decide (1048576 < (len0 : Int)) = false := by simp; omega
    obtain ⟨u, hu, hat⟩ := at_fix hr (by omega) 0 (by omega)
    have AT := Lib.hid hat
    have HLEN := Lib.hid hlen
    obtain ⟨r, hrr⟩ : ∃ r : Nat, r = u % 4 := ⟨_, rfl⟩
    have hr4 : r < 4 := by omega
    have htm : (u : Int).tmod 4 = (r : Int) := by rw [Int.tmod_eq_emod_of_nonneg (by omega)]; omega
    obtain ⟨e0, eN, HS⟩ := fam_says (tab_says hr4)
    have HALL := Lib.hid HS
    have HR := Lib.hid hrr
    clear hr hbig hlen hat hrr HS e0
    go_enter Try.func3, Try.ntmps3
    go_wp2_with fail
    refine (bigW_any _ _ _ _ HLEN.out).mono ?_
    rintro e w' ⟨rfl, rfl⟩
    rw [t0]
    clear t0
    go_upto_region 3 with fail
    go_cut [3] (fun s wx => s = .int .i64 (tabP r) ∧ Below w.heap.size w wx)
    case first =>
      go_wp2_with fail
      refine (AT.out _ (below_alloc1 w _)).mono ?_
      rintro e w2 ⟨rfl, rfl⟩
      have h4 := HR.out
      rcases (show r = 0 ∨ r = 1 ∨ r = 2 ∨ r = 3 from by omega) with rfl | rfl | rfl | rfl
      all_goals
        have hq := h4.symm
        have hq2 := htm
        rw [Int.tmod_eq_emod_of_nonneg (by omega)] at hq2
        clear h4
        go_wp2_with fail
        go_meet
        exact ⟨rfl, below_alloc1 _ _⟩
    case rest =>
      obtain ⟨rfl, b1⟩ := hcut
      obtain ⟨W1, hW⟩ : ∃ W, W = wc := ⟨_, rfl⟩
      rw [← hW] at b1 ⊢
      have B1 := Lib.hid b1
      clear hW b1
      go_upto_region 4 with fail
      go_cut [4] (fun s wx => s = .int .i64 (tabN r : Nat) ∧ Below W1.heap.size W1 wx)
      case first =>
        go_wp2_with fail
        refine (AT.out _ (B1.out.alloc B1.out.size _)).mono ?_
        rintro e w2 ⟨rfl, rfl⟩
        have h4 := HR.out
        rcases (show r = 0 ∨ r = 1 ∨ r = 2 ∨ r = 3 from by omega) with rfl | rfl | rfl | rfl
        all_goals
          have hq := h4.symm
          have hq2 := htm
          rw [Int.tmod_eq_emod_of_nonneg (by omega)] at hq2
          clear h4
          go_wp2_with fail
          go_meet
          exact ⟨rfl, below_alloc1 _ _⟩
      case rest =>
        obtain ⟨rfl, b2⟩ := hcut
        obtain ⟨W2, hW⟩ : ∃ W, W = wc := ⟨_, rfl⟩
        rw [← hW] at b2 ⊢
        have B2 := Lib.hid (B1.out.trans (b2.mono B1.out.size))
        clear hW b2 B1 htm AT hu
        have FP := Lib.hid (FI (tabP r) W2)
        obtain ⟨n, hn⟩ : ∃ n, n = tabN r := ⟨_, rfl⟩
        obtain ⟨p, hp⟩ : ∃ p, p = tabP r := ⟨_, rfl⟩
        rw [← hp] at FP HALL eN ⊢
        rw [← hn] at eN ⊢
        have hn5 : n ≤ 495 := by rw [hn]; rcases (show r = 0 ∨ r = 1 ∨ r = 2 ∨ r = 3 from by omega) with rfl | rfl | rfl | rfl <;> decide
        generalize famOf p = L at FP HALL eN
        have HN := Lib.hid eN.symm
        clear hn hp eN HR hr4
        go_wp2_with fail
        refine FP.out.mono ?_
        rintro e w3 ⟨v, us, rfl, k3, b3⟩
        have rw3 := k3.row
        rw [← HN.out] at rw3
        obtain ⟨pv, cv, rfl⟩ := own_slice rw3
        have RV := Lib.hid (fun (h0 : 0 < n) => own_pos rw3 h0)
        have K3 := Lib.hid k3
        have B3 := Lib.hid (B2.out.trans (b3.mono B2.out.size))
        clear k3 b3 B2 FP rw3
        go_wp2_with fail
        go_loopw [6] (fun x wr => ∃ k : Nat, k ≤ n ∧ x = .int .i64 (k : Int) ∧ Hid (Below w3.heap.size w3 wr)) (fun x _ => n - (intOf x).toNat)
        case atStart => exact ⟨0, Nat.zero_le _, by go_num, Lib.hid (Below.refl _ _)⟩
        case round =>
          obtain ⟨k, hk, rfl, HB⟩ := hrel
          by_cases hlt : k < n
          · have q3 : (k : Int) < n := by omega
            obtain ⟨g, cg, hg, _, hgl⟩ := RV.out (by omega)
            simp only [Value.slice.injEq, true_and] at hg
            obtain ⟨rfl, rfl⟩ := hg
            have K := K3.out.below HB.out
            have hkL : k < L.length := by rw [← HN.out]; exact hlt
            obtain ⟨hok, hent, hlat⟩ := HALL.out k hkL
            have z1 := cs_cell K HN.out hlt
            have o1 := K.els k hkL
            have OS := okSay_of hok o1
            obtain ⟨gk, ck, hu, hgk, _, _, hck⟩ := cir_row o1 hok
            rw [hu] at z1 OS
            have E1 : Hid (ElAt g k (.slice (some ⟨gk, 0, none⟩) 12 ck) wr) := Lib.hid ⟨Nat.lt_of_lt_of_le hgl HB.out.size, z1⟩
            have HCK := Lib.hid hck
            have HGK := Lib.hid hgk
            have HENT := Lib.hid hent
            have HLT := Lib.hid hlt
            clear z1 o1 hck hu hent
            go_upto_region 9 with fail
            go_cut [63] (fun s wx => s = .bool false ∧ Below wr.heap.size wr wx)
            case first =>
              by_cases h0 : 0 < k
              · obtain ⟨j, rfl⟩ : ∃ j, k = j + 1 := ⟨k - 1, by omega⟩
                have hjL : j < L.length := by omega
                obtain ⟨hokj, _, _⟩ := HALL.out j hjL
                have z2 := cs_cell K HN.out (k := j) (by omega)
                have o2 := K.els j hjL
                obtain ⟨gj, cj, hv, hgj, _, _, hcj⟩ := cir_row o2 hokj
                rw [hv] at z2
                have LS : LtSay wr (.slice (some ⟨gj, 0, none⟩) 12 cj) (.slice (some ⟨gk, 0, none⟩) 12 ck) := ltSay_of (hlat (by omega)) hgj HGK.out hcj HCK.out
                have E2 : Hid (ElAt g j (.slice (some ⟨gj, 0, none⟩) 12 cj) wr) := Lib.hid ⟨Nat.lt_of_lt_of_le hgl HB.out.size, z2⟩
                have t1 : (0 : Int) < (j : Int) + 1 := by omega
                have t7 : (0 : Int) ≤ (j : Int) + 1 := by omega
                have t0 : ((j : Int) + 1).toNat = j + 1 := by omega
                have t4 : IntKind.i64.wrap (j : Int) = (j : Int) := IntWalk.i64_in _ (by omega)
                have t5 : (j : Int) + 1 < n := by omega
                have t6 : (j : Int) < n := by omega
                clear K z2 o2 hv hgj hcj hokj hok hlat hjL hkL hgl
                go_region_held3 (fun w' => w'.cell? ⟨g, j + 1, none⟩ = some (.slice (some ⟨gk, 0, none⟩) 12 ck) ∧ w'.cell? ⟨g, j, none⟩ = some (.slice (some ⟨gj, 0, none⟩) 12 cj)) (with_reducible first | exact ⟨elAt_cell (elAt_keep (Below.refl _ _).drew E1.out), elAt_cell (elAt_keep (Below.refl _ _).drew E2.out)⟩ | exact ⟨elAt_cell (elAt_keep (by assumption) E1.out), elAt_cell (elAt_keep (by assumption) E2.out)⟩)
                  (first
                    | (go_at_call 16; refine (ok_run (W := wr) (by with_reducible assumption) _ (by with_reducible first | assumption | exact (Below.refl _ _).drew)).mono ?_; rintro e1 w9 ⟨rfl, hb⟩)
                    | (go_at_call 17; refine (lt_run (W := wr) (by with_reducible assumption) _ (by with_reducible first | assumption | exact (Below.refl _ _).drew)).mono ?_; rintro e1 w9 ⟨rfl, hb⟩))
                all_goals
                  go_wp2_with fail
                  go_meet
                  exact ⟨rfl, hb⟩
              · have t47 : ¬ (0 : Int) < (k : Int) := by omega
                have d47 : decide ((k : Int) > 0) = false := decide_eq_false t47
                have t47' : (k : Int) ≤ 0 := by omega
                clear K hlat hkL hgl hok
                refine wp_region_held_drew (S := (fun w' => w'.cell? ⟨g, k, none⟩ = some (.slice (some ⟨gk, 0, none⟩) 12 ck))) (by kernel_rfl) ?_ (fun hHeld => ?_)
                · exact elAt_cell (elAt_keep (Below.refl _ _).drew E1.out)
                refine takeD (i := 0) (d := (some 30)) (v := (.slice (some ⟨g, 0, none⟩) n cv)) rfl rfl (by kernel_rfl) (by kernel_rfl) (by kernel_rfl) (fun _ _ _ h => h) (Or.inl ⟨by kernel_rfl, ?_⟩) (by assumption) ?_
                · intro wS hSw
                  (try dsimp only at hSw)
                  go_simp
                (try simp only [Act.put]); (try simp only [List.setIfInBounds_toArray]); (try simp only [List.set_cons_succ]); (try simp only [List.set_cons_zero])
                refine takeD (i := 1) (d := (some 31)) (v := (.int .i64 (k : Int))) rfl rfl (by kernel_rfl) (by kernel_rfl) (by kernel_rfl) (fun _ _ _ h => h) (Or.inl ⟨by kernel_rfl, ?_⟩) (by assumption) ?_
                · intro wS hSw
                  (try dsimp only at hSw)
                  go_simp
                (try simp only [Act.put]); (try simp only [List.setIfInBounds_toArray]); (try simp only [List.set_cons_succ]); (try simp only [List.set_cons_zero])
                refine takeD (i := 2) (d := (some 32)) (v := (.pointer (some ⟨g, k, none⟩))) rfl rfl (by kernel_rfl) (by kernel_rfl) (by kernel_rfl) (fun _ _ _ h => h) (Or.inl ⟨by kernel_rfl, ?_⟩) (by assumption) ?_
                · intro wS hSw
                  (try dsimp only at hSw)
                  go_simp
                (try simp only [Act.put]); (try simp only [List.setIfInBounds_toArray]); (try simp only [List.set_cons_succ]); (try simp only [List.set_cons_zero])
                refine takeD (i := 3) (d := (some 33)) (v := (.pointer (some ⟨g, k, none⟩))) rfl rfl (by kernel_rfl) (by kernel_rfl) (by kernel_rfl) (fun _ _ _ h => h) (Or.inl ⟨by kernel_rfl, ?_⟩) (by assumption) ?_
                · intro wS hSw
                  (try dsimp only at hSw)
                  go_simp
                (try simp only [Act.put]); (try simp only [List.setIfInBounds_toArray]); (try simp only [List.set_cons_succ]); (try simp only [List.set_cons_zero])
                refine takeD (i := 4) (d := (some 34)) (v := (.slice (some ⟨gk, 0, none⟩) 12 ck)) rfl rfl (by kernel_rfl) (by kernel_rfl) (by kernel_rfl) (fun _ _ _ h => h) (Or.inl ⟨by kernel_rfl, ?_⟩) (by assumption) ?_
                · intro wS hSw
                  (try dsimp only at hSw)
                  go_simp
                (try simp only [Act.put]); (try simp only [List.setIfInBounds_toArray]); (try simp only [List.set_cons_succ]); (try simp only [List.set_cons_zero])
                refine takeD (i := 5) (d := (some 35)) (v := (.int .i64 12)) rfl rfl (by kernel_rfl) (by kernel_rfl) (by kernel_rfl) (fun _ _ _ h => h) (Or.inl ⟨by kernel_rfl, ?_⟩) (by assumption) ?_
                · intro wS hSw
                  (try dsimp only at hSw)
                  go_simp
                (try simp only [Act.put]); (try simp only [List.setIfInBounds_toArray]); (try simp only [List.set_cons_succ]); (try simp only [List.set_cons_zero])
                refine takeD (i := 6) (d := (some 36)) (v := (.bool false)) rfl rfl (by kernel_rfl) (by kernel_rfl) (by kernel_rfl) (fun _ _ _ h => h) (Or.inl ⟨by kernel_rfl, ?_⟩) (by assumption) ?_
                · intro wS hSw
                  (try dsimp only at hSw)
                  go_simp
                (try simp only [Act.put]); (try simp only [List.setIfInBounds_toArray]); (try simp only [List.set_cons_succ]); (try simp only [List.set_cons_zero])
                refine takeD (i := 7) (d := (some 37)) (v := (.bool false)) rfl rfl (by kernel_rfl) (by kernel_rfl) (by kernel_rfl) (fun _ _ _ h => h) (Or.inl ⟨by kernel_rfl, ?_⟩) (by assumption) ?_
                · intro wS hSw
                  (try dsimp only at hSw)
                  go_simp
                (try simp only [Act.put]); (try simp only [List.setIfInBounds_toArray]); (try simp only [List.set_cons_succ]); (try simp only [List.set_cons_zero])
                refine takeD (i := 8) (d := (some 38)) (v := (.slice (some ⟨g, 0, none⟩) n cv)) rfl rfl (by kernel_rfl) (by kernel_rfl) (by kernel_rfl) (fun _ _ _ h => h) (Or.inl ⟨by kernel_rfl, ?_⟩) (by assumption) ?_
                · intro wS hSw
                  (try dsimp only at hSw)
                  go_simp
                (try simp only [Act.put]); (try simp only [List.setIfInBounds_toArray]); (try simp only [List.set_cons_succ]); (try simp only [List.set_cons_zero])
                refine takeD (i := 9) (d := (some 39)) (v := (.int .i64 (k : Int))) rfl rfl (by kernel_rfl) (by kernel_rfl) (by kernel_rfl) (fun _ _ _ h => h) (Or.inl ⟨by kernel_rfl, ?_⟩) (by assumption) ?_
                · intro wS hSw
                  (try dsimp only at hSw)
                  go_simp
                (try simp only [Act.put]); (try simp only [List.setIfInBounds_toArray]); (try simp only [List.set_cons_succ]); (try simp only [List.set_cons_zero])
                refine takeD (i := 10) (d := (some 40)) (v := (.pointer (some ⟨g, k, none⟩))) rfl rfl (by kernel_rfl) (by kernel_rfl) (by kernel_rfl) (fun _ _ _ h => h) (Or.inl ⟨by kernel_rfl, ?_⟩) (by assumption) ?_
                · intro wS hSw
                  (try dsimp only at hSw)
                  go_simp
                (try simp only [Act.put]); (try simp only [List.setIfInBounds_toArray]); (try simp only [List.set_cons_succ]); (try simp only [List.set_cons_zero])
                refine takeD (i := 11) (d := (some 41)) (v := (cirV (.slice (some ⟨gk, 0, none⟩) 12 ck))) rfl rfl (by kernel_rfl) (by kernel_rfl) (by kernel_rfl) (fun _ _ _ h => h) (Or.inl ⟨by kernel_rfl, ?_⟩) (by assumption) ?_
                · intro wS hSw
                  (try dsimp only at hSw)
                  go_simp
                (try simp only [Act.put]); (try simp only [List.setIfInBounds_toArray]); (try simp only [List.set_cons_succ]); (try simp only [List.set_cons_zero])
                refine wpAnyH_ready (rs := [12]) (by kernel_rfl) (by simp) ?_
                refine AllReadyH.cons rfl (fun K hK => ?_) AllReadyH.nil
                go_simp
                refine (ok_run (W := wr) (by with_reducible assumption) _ (by with_reducible first | assumption | exact (Below.refl _ _).drew)).mono ?_
                rintro e1 w1 ⟨rfl, hb⟩
                go_wp2_with fail
                refine hK.out _ _ ?_ (fun hHeld => ?_)
                · exact elAt_cell (elAt_keep hb E1.out)
                clear hK K
                (try simp only [Act.put]); (try simp only [List.setIfInBounds_toArray]); (try simp only [List.set_cons_succ]); (try simp only [List.set_cons_zero])
                refine takeD (i := 13) (d := (some 43)) (v := (.bool false)) rfl rfl (by kernel_rfl) (by kernel_rfl) (by kernel_rfl) (fun _ _ _ h => h) (Or.inl ⟨by kernel_rfl, ?_⟩) (by assumption) ?_
                · intro wS hSw
                  (try dsimp only at hSw)
                  go_simp
                (try simp only [Act.put]); (try simp only [List.setIfInBounds_toArray]); (try simp only [List.set_cons_succ]); (try simp only [List.set_cons_zero])
                refine takeD (i := 14) (d := (some 44)) (v := (.bool false)) rfl rfl (by kernel_rfl) (by kernel_rfl) (by kernel_rfl) (fun _ _ _ h => h) (Or.inl ⟨by kernel_rfl, ?_⟩) (by assumption) ?_
                · intro wS hSw
                  (try dsimp only at hSw)
                  go_simp
                (try simp only [Act.put]); (try simp only [List.setIfInBounds_toArray]); (try simp only [List.set_cons_succ]); (try simp only [List.set_cons_zero])
                refine takeD (i := 15) (d := (some 45)) (v := (.bool false)) rfl rfl (by kernel_rfl) (by kernel_rfl) (by kernel_rfl) (fun _ _ _ h => h) (Or.inl ⟨by kernel_rfl, ?_⟩) (by assumption) ?_
                · intro wS hSw
                  (try dsimp only at hSw)
                  go_simp
                (try simp only [Act.put]); (try simp only [List.setIfInBounds_toArray]); (try simp only [List.set_cons_succ]); (try simp only [List.set_cons_zero])
                refine takeD (i := 16) (d := (some 46)) (v := (.int .i64 (k : Int))) rfl rfl (by kernel_rfl) (by kernel_rfl) (by kernel_rfl) (fun _ _ _ h => h) (Or.inl ⟨by kernel_rfl, ?_⟩) (by assumption) ?_
                · intro wS hSw
                  (try dsimp only at hSw)
                  go_simp
                (try simp only [Act.put]); (try simp only [List.setIfInBounds_toArray]); (try simp only [List.set_cons_succ]); (try simp only [List.set_cons_zero])
                refine takeD (i := 17) (d := (some 47)) (v := (.bool false)) rfl rfl (by kernel_rfl) (by kernel_rfl) (by kernel_rfl) (fun _ _ _ h => h) (Or.inl ⟨by kernel_rfl, ?_⟩) (by assumption) ?_
                · intro wS hSw
                  (try dsimp only at hSw)
                  go_simp
                (try simp only [Act.put]); (try simp only [List.setIfInBounds_toArray]); (try simp only [List.set_cons_succ]); (try simp only [List.set_cons_zero])
                refine takeD (i := 18) (d := (some 48)) (v := (.bool false)) rfl rfl (by kernel_rfl) (by kernel_rfl) (by kernel_rfl) (fun _ _ _ h => h) (Or.inl ⟨by kernel_rfl, ?_⟩) (by assumption) ?_
                · intro wS hSw
                  (try dsimp only at hSw)
                  go_simp
                (try simp only [Act.put]); (try simp only [List.setIfInBounds_toArray]); (try simp only [List.set_cons_succ]); (try simp only [List.set_cons_zero])
                refine takeD (i := 19) (d := (some 49)) (v := undef) rfl rfl (by kernel_rfl) (by kernel_rfl) (by kernel_rfl) (fun _ _ _ h => h) (Or.inr ⟨by kernel_rfl, rfl⟩) (by assumption) ?_
                (try simp only [Act.put]); (try simp only [List.setIfInBounds_toArray]); (try simp only [List.set_cons_succ]); (try simp only [List.set_cons_zero])
                refine takeD (i := 20) (d := (some 50)) (v := undef) rfl rfl (by kernel_rfl) (by kernel_rfl) (by kernel_rfl) (fun _ _ _ h => h) (Or.inr ⟨by kernel_rfl, rfl⟩) (by assumption) ?_
                (try simp only [Act.put]); (try simp only [List.setIfInBounds_toArray]); (try simp only [List.set_cons_succ]); (try simp only [List.set_cons_zero])
                refine takeD (i := 21) (d := (some 51)) (v := undef) rfl rfl (by kernel_rfl) (by kernel_rfl) (by kernel_rfl) (fun _ _ _ h => h) (Or.inr ⟨by kernel_rfl, rfl⟩) (by assumption) ?_
                (try simp only [Act.put]); (try simp only [List.setIfInBounds_toArray]); (try simp only [List.set_cons_succ]); (try simp only [List.set_cons_zero])
                refine takeD (i := 22) (d := (some 52)) (v := undef) rfl rfl (by kernel_rfl) (by kernel_rfl) (by kernel_rfl) (fun _ _ _ h => h) (Or.inr ⟨by kernel_rfl, rfl⟩) (by assumption) ?_
                (try simp only [Act.put]); (try simp only [List.setIfInBounds_toArray]); (try simp only [List.set_cons_succ]); (try simp only [List.set_cons_zero])
                refine takeD (i := 23) (d := (some 53)) (v := undef) rfl rfl (by kernel_rfl) (by kernel_rfl) (by kernel_rfl) (fun _ _ _ h => h) (Or.inr ⟨by kernel_rfl, rfl⟩) (by assumption) ?_
                (try simp only [Act.put]); (try simp only [List.setIfInBounds_toArray]); (try simp only [List.set_cons_succ]); (try simp only [List.set_cons_zero])
                refine takeD (i := 24) (d := (some 54)) (v := undef) rfl rfl (by kernel_rfl) (by kernel_rfl) (by kernel_rfl) (fun _ _ _ h => h) (Or.inr ⟨by kernel_rfl, rfl⟩) (by assumption) ?_
                (try simp only [Act.put]); (try simp only [List.setIfInBounds_toArray]); (try simp only [List.set_cons_succ]); (try simp only [List.set_cons_zero])
                refine takeD (i := 25) (d := (some 55)) (v := undef) rfl rfl (by kernel_rfl) (by kernel_rfl) (by kernel_rfl) (fun _ _ _ h => h) (Or.inr ⟨by kernel_rfl, rfl⟩) (by assumption) ?_
                (try simp only [Act.put]); (try simp only [List.setIfInBounds_toArray]); (try simp only [List.set_cons_succ]); (try simp only [List.set_cons_zero])
                refine takeD (i := 26) (d := (some 56)) (v := undef) rfl rfl (by kernel_rfl) (by kernel_rfl) (by kernel_rfl) (fun _ _ _ h => h) (Or.inr ⟨by kernel_rfl, rfl⟩) (by assumption) ?_
                (try simp only [Act.put]); (try simp only [List.setIfInBounds_toArray]); (try simp only [List.set_cons_succ]); (try simp only [List.set_cons_zero])
                refine takeD (i := 27) (d := (some 57)) (v := undef) rfl rfl (by kernel_rfl) (by kernel_rfl) (by kernel_rfl) (fun _ _ _ h => h) (Or.inr ⟨by kernel_rfl, rfl⟩) (by assumption) ?_
                (try simp only [Act.put]); (try simp only [List.setIfInBounds_toArray]); (try simp only [List.set_cons_succ]); (try simp only [List.set_cons_zero])
                refine takeD (i := 28) (d := (some 58)) (v := undef) rfl rfl (by kernel_rfl) (by kernel_rfl) (by kernel_rfl) (fun _ _ _ h => h) (Or.inr ⟨by kernel_rfl, rfl⟩) (by assumption) ?_
                (try simp only [Act.put]); (try simp only [List.setIfInBounds_toArray]); (try simp only [List.set_cons_succ]); (try simp only [List.set_cons_zero])
                refine takeD (i := 29) (d := (some 59)) (v := undef) rfl rfl (by kernel_rfl) (by kernel_rfl) (by kernel_rfl) (fun _ _ _ h => h) (Or.inr ⟨by kernel_rfl, rfl⟩) (by assumption) ?_
                (try simp only [Act.put]); (try simp only [List.setIfInBounds_toArray]); (try simp only [List.set_cons_succ]); (try simp only [List.set_cons_zero])
                refine takeD (i := 30) (d := (some 60)) (v := undef) rfl rfl (by kernel_rfl) (by kernel_rfl) (by kernel_rfl) (fun _ _ _ h => h) (Or.inr ⟨by kernel_rfl, rfl⟩) (by assumption) ?_
                (try simp only [Act.put]); (try simp only [List.setIfInBounds_toArray]); (try simp only [List.set_cons_succ]); (try simp only [List.set_cons_zero])
                refine takeD (i := 31) (d := (some 61)) (v := undef) rfl rfl (by kernel_rfl) (by kernel_rfl) (by kernel_rfl) (fun _ _ _ h => h) (Or.inr ⟨by kernel_rfl, rfl⟩) (by assumption) ?_
                (try simp only [Act.put]); (try simp only [List.setIfInBounds_toArray]); (try simp only [List.set_cons_succ]); (try simp only [List.set_cons_zero])
                refine takeD (i := 32) (d := (some 62)) (v := (.bool false)) rfl rfl (by kernel_rfl) (by kernel_rfl) (by kernel_rfl) (fun _ _ _ h => h) (Or.inl ⟨by kernel_rfl, ?_⟩) (by assumption) ?_
                · intro wS hSw
                  (try dsimp only at hSw)
                  go_simp
                (try simp only [Act.put]); (try simp only [List.setIfInBounds_toArray]); (try simp only [List.set_cons_succ]); (try simp only [List.set_cons_zero])
                refine takeD (i := 33) (d := (some 63)) (v := (.bool false)) rfl rfl (by kernel_rfl) (by kernel_rfl) (by kernel_rfl) (fun _ _ _ h => h) (Or.inl ⟨by kernel_rfl, ?_⟩) (by assumption) ?_
                · intro wS hSw
                  (try dsimp only at hSw)
                  go_simp
                (try simp only [Act.put]); (try simp only [List.setIfInBounds_toArray]); (try simp only [List.set_cons_succ]); (try simp only [List.set_cons_zero])
                refine wpAnyH_done (by kernel_rfl) ?_ _
                go_wp2_with fail
                go_meet
                exact ⟨rfl, hb⟩
            case rest =>
              obtain ⟨rfl, b9⟩ := hcut
              obtain ⟨W9, hW⟩ : ∃ W, W = wc := ⟨_, rfl⟩
              rw [← hW] at b9 ⊢
              have B9 := Lib.hid b9
              clear hW b9 K hlat hok OS hkL hgl
              go_wp2_with fail
              go_loopw [7] (fun y wx => ∃ i : Nat, i ≤ 12 ∧ y = .int .i64 (i : Int) ∧ Hid (Below wr.heap.size wr wx)) (fun y _ => 12 - (intOf y).toNat)
              case atStart => exact ⟨0, Nat.zero_le _, by go_num, B9⟩
              case round =>
                clear B9
                obtain ⟨i, hi, rfl, HB2⟩ := hrel
                by_cases hlt2 : i < 12
                · have q4 : (i : Int) < 12 := by omega
                  obtain ⟨x, hx⟩ : ∃ x, x = (lAt L k).getD i 0 := ⟨_, rfl⟩
                  have he := HENT.out i hlt2
                  have c1 := elAt_cell (elAt_keep HB2.out E1.out)
                  have c2 := (HB2.out.cell (p := ⟨gk, i, none⟩) HGK.out).trans (HCK.out i hlt2)
                  rw [← hx] at he c2
                  clear hx
                  by_cases hx0 : x = 0
                  · have t0 : (x != 0) = false := by simp [hx0]
                    clear he
                    go_wp2_with fail
                    go_roundw
                    case rel => exact ⟨i + 1, by omega, by go_num, HB2⟩
                    case measure => simp [intOf]; omega
                  · have t0 : (x != 0) = true := by simp [hx0]
                    obtain rfl : x = p := he.resolve_left hx0
                    have t1 : (x != x) = false := by simp
                    go_wp2_with fail
                    go_roundw
                    case rel => exact ⟨i + 1, by omega, by go_num, HB2⟩
                    case measure => simp [intOf]; omega
                · have q4 : ¬ (i : Int) < 12 := by omega
                  go_wp2_with fail
                  go_roundw
                  case rel => exact ⟨k + 1, HLT.out, by go_num, Lib.hid (HB.out.trans (HB2.out.mono HB.out.size))⟩
                  case measure => simp [intOf]; have := HLT.out; omega
          · have q3 : ¬ (k : Int) < n := by omega
            obtain rfl : k = n := by omega
            have t0 : ((k : Int) == (k : Int)) = true := by simp
            go_wp2_with fail
            go_ret
            exact ⟨rfl, B3.out.trans (HB.out.mono B3.out.size)⟩
end Go.Proofs.Ytohfepcdgbgojab
