/- The walk of laws.FnHidden. Written by hidden.py. -/
import Derived.Test.YtfhefakacjkmiaaDoorHiddenSay
import Derived.Test.YtfhefakacjkmiaaDoorAtWalks
import Derived.Test.YtfhefakacjkmiaaDoorTakeD
import Derived.Deep.RegionHeld3
import Derived.Deep.DeepCutAuto
namespace Go.Proofs.YtfhefakacjkmiaaDoor
open Go.RowKit Go.Joins
set_option linter.unusedVariables false
/-- An interval at four cells of a block. -/
def El (g o0 o1 o2 o3 : Nat) (p q r s : Int) (w : World) : Prop := g < w.heap.size ∧ w.cell? ⟨g, o0, none⟩ = some (.int .i64 p) ∧ w.cell? ⟨g, o1, none⟩ = some (.int .i64 q) ∧ w.cell? ⟨g, o2, none⟩ = some (.int .i64 r) ∧ w.cell? ⟨g, o3, none⟩ = some (.int .i64 s)
theorem el_keep {W w : World} {g o0 o1 o2 o3 : Nat} {p q r s : Int} (hb : Below W.heap.size W w) (h : El g o0 o1 o2 o3 p q r s W) : El g o0 o1 o2 o3 p q r s w :=
  ⟨Nat.lt_of_lt_of_le h.1 hb.size, (hb.cell h.1).trans h.2.1, (hb.cell h.1).trans h.2.2.1, (hb.cell h.1).trans h.2.2.2.1, (hb.cell h.1).trans h.2.2.2.2⟩
theorem el_cells {w : World} {g o0 o1 o2 o3 : Nat} {p q r s : Int} (h : El g o0 o1 o2 o3 p q r s w) : w.cell? ⟨g, o0, none⟩ = some (.int .i64 p) ∧ w.cell? ⟨g, o1, none⟩ = some (.int .i64 q) ∧ w.cell? ⟨g, o2, none⟩ = some (.int .i64 r) ∧ w.cell? ⟨g, o3, none⟩ = some (.int .i64 s) := h.2
theorem el_drew {w : World} {g o0 o1 o2 o3 : Nat} {p q r s : Int} (h : El g o0 o1 o2 o3 p q r s w) : El g o0 o1 o2 o3 p q r s w.drew := h
theorem row_hid {w : World} {B g cap : Nat} (h : OwnC B (.slice (some ⟨g, 0, none⟩) 4 cap) hid4 w) : El g 0 1 2 3 11 (-4) (-2) 1 w ∧ El g 4 5 6 7 7 0 (-3) 1 w ∧ El g 8 9 10 11 3 4 (-4) 1 w ∧ El g 12 13 14 15 (-4) 4 (-1) 1 w := by
  have k : w.ownsRow B 29 4 (.slice (some ⟨g, 0, none⟩) 4 cap) 4 (ivCs hid4) := h
  have hg := (k.lt g rfl).2
  exact ⟨⟨hg, own_iv k rfl 0 (by decide)⟩, ⟨hg, own_iv k rfl 1 (by decide)⟩, ⟨hg, own_iv k rfl 2 (by decide)⟩, ⟨hg, own_iv k rfl 3 (by decide)⟩⟩
set_option maxRecDepth 100000 in
set_option maxHeartbeats 16000000 in
theorem walk_FnHidden (P : Addr) (a0 : Option Addr) (len0 cap0 : Nat) (z0 : List Int) (w : World) (hs : SenAt P w) (hr : IsRow .u8 w a0 len0 cap0 z0) :
    Calls Tryd.prog 4 #[.slice a0 len0 cap0] w fun e w' => e = .returned (.bool true) ∧ Below w.heap.size w w' := by
  have hlen := (row_len hr).2
  have HS := Lib.hid hs
  clear hs
  by_cases hbig : 1048576 < len0
  · have t0 : decide (1048576 < (len0 : Int)) = true := by simp; omega
    go_enter Tryd.func4, Tryd.ntmps4
    go_wp2_with fail
    refine (bigA_any _ _ _ _ hlen).mono ?_
    rintro e w' ⟨rfl, rfl⟩
    go_wp2_with fail
    go_ret
    exact ⟨rfl, Below.refl _ _⟩
  · have t0 : decide (1048576 < (len0 : Int)) = false := by simp; omega
    have AT := Lib.hid (fun W (hW : Below w.heap.size w W) (i : Nat) (hi : i ≤ 1000) => at_any (hr.below hW) (by omega) i hi)
    clear hr
    go_enter Tryd.func4, Tryd.ntmps4
    go_wp2_with fail
    refine (bigA_any _ _ _ _ hlen).mono ?_
    rintro e w' ⟨rfl, rfl⟩
    rw [t0]
    clear t0 hbig hlen
    go_wp2_with fail
    refine (best_impl best_twelve _).mono ?_
    rintro e w1 ⟨rfl, hb⟩
    have K1 : Hid (∀ X : World, X = w1.alloc (.cells #[.int .i64 12, .int .i64 19, .int .i64 28] 25) → Below w.heap.size w X ∧ Tri w1.heap.size 12 19 28 X) := Lib.hid (by
      rintro X rfl
      exact ⟨hb.alloc hb.size _, tri_alloc⟩)
    clear hb
    go_upto_region 4 with fail
    obtain ⟨W1, hW⟩ : ∃ X, X = w1.alloc (.cells #[.int .i64 12, .int .i64 19, .int .i64 28] 25) := ⟨_, rfl⟩
    have Q := Lib.hid (K1.out W1 hW)
    rw [← hW]
    clear hW K1
    generalize w1.heap.size = m at Q ⊢
    have B1 := Lib.hid Q.out.1
    have T1 := Lib.hid Q.out.2
    clear Q
    go_wp2_with fail
    refine (AT.out _ B1.out 0 (by omega)).mono ?_
    rintro e w0 ⟨u, hu, rfl, rfl⟩
    obtain ⟨r, hr1, hr2⟩ : ∃ r : Nat, (u : Int) % 20 = (r : Int) ∧ r < 20 := ⟨u % 20, by omega, by omega⟩
    have hm : (u : Int).tmod 20 = (r : Int) := by rw [Int.tmod_eq_emod_of_nonneg (by omega)]; exact hr1
    obtain ⟨n, hn⟩ : ∃ n : Int, n = 1 + (r : Int) := ⟨_, rfl⟩
    have wa : IntKind.i64.wrap (1 + (r : Int)) = n := by rw [IntWalk.i64_in _ (by omega)]; exact hn.symm
    have wa2 : 1 + (r : Int) = n := hn.symm
    have n1 : 1 ≤ n := by omega
    have n2 : n ≤ 20 := by omega
    clear hr1 hr2 hu hn
    go_wp2_with fail
    clear hm wa wa2
    refine (AT.out _ B1.out 1 (by omega)).mono ?_
    rintro e w0 ⟨u, hu, rfl, rfl⟩
    obtain ⟨r2, hr1, hr2⟩ : ∃ r : Nat, (u : Int) % 6 = (r : Int) ∧ r < 6 := ⟨u % 6, by omega, by omega⟩
    have hm : (u : Int).tmod 6 = (r2 : Int) := by rw [Int.tmod_eq_emod_of_nonneg (by omega)]; exact hr1
    obtain ⟨j, hj⟩ : ∃ j : Nat, j = r2 + 1 := ⟨_, rfl⟩
    have hjI : 1 + (r2 : Int) = (j : Int) := by omega
    have wa : IntKind.i64.wrap (1 + (r2 : Int)) = (j : Int) := by rw [IntWalk.i64_in _ (by omega)]; exact hjI
    obtain ⟨t, h, f, a, b, c, xs, z, say⟩ := hidSay_ex P (j := j) (n := n) (by omega) (by omega) n1 n2
    obtain ⟨kk, hkk⟩ : ∃ kk : Int, kk = (j : Int) := ⟨_, rfl⟩
    rw [← hkk] at hjI wa say
    have SAY := Lib.hid say
    have kk1 : 1 ≤ kk := by omega
    have kk2 : kk ≤ 6 := by omega
    clear hr1 hr2 hu hj say hkk n1 n2 AT
    go_wp2_with fail
    clear hm wa hjI kk1 kk2
    refine (SAY.out.com _).mono ?_
    rintro e w2 ⟨rfl, hb⟩
    have B2 := Lib.hid (B1.out.trans (hb.mono B1.out.size))
    have T2 := Lib.hid (tri_keep hb T1.out)
    clear hb B1 T1
    go_wp2_with fail
    refine (SAY.out.div _).mono ?_
    rintro e w3 ⟨vd, rfl, od, hb⟩
    have OD3 := Lib.hid od
    have B3 := Lib.hid (B2.out.trans (hb.mono B2.out.size))
    have T3 := Lib.hid (tri_keep hb T2.out)
    clear hb od B2 T2
    obtain ⟨_, d0, d1, d2⟩ := T3.out
    go_wp2_with fail
    refine (SAY.out.hid _ (senAt_below HS.out B3.out)).mono ?_
    rintro e V ⟨⟨vl, rfl, ol⟩, hb⟩
    obtain ⟨g, cap, rfl, _, _⟩ := own4_pos ol (by decide)
    rw [show hid4.length = 4 from rfl] at ol ⊢
    have RV := Lib.hid (row_hid ol)
    have OD4 := Lib.hid (own_below OD3.out hb)
    have BV := Lib.hid (B3.out.trans (hb.mono B3.out.size))
    have TV := Lib.hid (tri_keep hb T3.out)
    have HQ12 : HasQ V vd 12 true := hasQ_mk SAY.out.len OD4.out SAY.out.i12
    have HQN : HasQ V vd n z := hasQ_mk SAY.out.len OD4.out SAY.out.inn
    have HD1 := SAY.out.q1
    have HD2 := SAY.out.q2
    clear hb ol B3 T3 OD3 OD4 d0 d1 d2
    go_wp2_with fail
    go_loopw [8, 9] (fun fd i wr => ∃ (k : Nat) (x : Int) (y : Bool), k ≤ 4 ∧ x = (k : Int) ∧ y = decide (k = 4) ∧ fd = .bool y ∧ i = .int .i64 x ∧ Hid (Below V.heap.size V wr)) (fun _ i _ => 4 - (intOf i).toNat)
    case atStart => exact ⟨0, 0, false, by omega, rfl, rfl, rfl, rfl, Lib.hid (Below.refl _ _)⟩
    case round =>
      obtain ⟨k, x, y, hk, hx, hy, rfl, rfl, HB⟩ := hrel
      rcases (show (k = 0 ∧ x = 0) ∨ (k = 1 ∧ x = 1) ∨ (k = 2 ∧ x = 2) ∨ (k = 3 ∧ x = 3) ∨ (k = 4 ∧ x = 4) from by omega) with ⟨rfl, rfl⟩ | ⟨rfl, rfl⟩ | ⟨rfl, rfl⟩ | ⟨rfl, rfl⟩ | ⟨rfl, rfl⟩
      · obtain rfl : y = false := hy.trans (by decide)
        have E1 := Lib.hid (el_keep HB.out RV.out.1)
        clear hy hx hk
        go_upto_region 12 with fail
        obtain ⟨_, x0, x1, x2, x3⟩ := E1.out
        go_region_held3 (fun w' => w'.cell? ⟨g, 0, none⟩ = some (.int .i64 11) ∧ w'.cell? ⟨g, 1, none⟩ = some (.int .i64 (-4)) ∧ w'.cell? ⟨g, 2, none⟩ = some (.int .i64 (-2)) ∧ w'.cell? ⟨g, 3, none⟩ = some (.int .i64 1)) (with_reducible first | exact el_cells (el_drew E1.out) | exact el_cells (el_keep (by assumption) E1.out))
          (first
            | (go_at_call 18; refine (calls_fromF (W := wr) (by with_reducible first | assumption | exact (Below.refl _ _).drew) (comma_impl com2 _)).mono ?_; rintro e1 w9 ⟨rfl, hb⟩))
        all_goals
          have B9 := Lib.hid (HB.out.trans (hb.mono HB.out.size))
          clear x0 x1 x2 x3 hb HB E1
          go_wp2_with fail
          go_roundw
          case rel => exact ⟨1, 1, false, by omega, rfl, by decide, rfl, by go_num, B9⟩
          case measure => simp [intOf]
      · obtain rfl : y = false := hy.trans (by decide)
        have E1 := Lib.hid (el_keep HB.out RV.out.2.1)
        clear hy hx hk
        go_upto_region 12 with fail
        obtain ⟨_, x0, x1, x2, x3⟩ := E1.out
        go_region_held3 (fun w' => w'.cell? ⟨g, 4, none⟩ = some (.int .i64 7) ∧ w'.cell? ⟨g, 5, none⟩ = some (.int .i64 0) ∧ w'.cell? ⟨g, 6, none⟩ = some (.int .i64 (-3)) ∧ w'.cell? ⟨g, 7, none⟩ = some (.int .i64 1)) (with_reducible first | exact el_cells (el_drew E1.out) | exact el_cells (el_keep (by assumption) E1.out))
          (first
            | (go_at_call 18; refine (calls_fromF (W := wr) (by with_reducible first | assumption | exact (Below.refl _ _).drew) (comma_impl com2 _)).mono ?_; rintro e1 w9 ⟨rfl, hb⟩))
        all_goals
          have B9 := Lib.hid (HB.out.trans (hb.mono HB.out.size))
          clear x0 x1 x2 x3 hb HB E1
          go_wp2_with fail
          go_roundw
          case rel => exact ⟨2, 2, false, by omega, rfl, by decide, rfl, by go_num, B9⟩
          case measure => simp [intOf]
      · obtain rfl : y = false := hy.trans (by decide)
        have E1 := Lib.hid (el_keep HB.out RV.out.2.2.1)
        clear hy hx hk
        go_upto_region 12 with fail
        obtain ⟨_, x0, x1, x2, x3⟩ := E1.out
        go_region_held3 (fun w' => w'.cell? ⟨g, 8, none⟩ = some (.int .i64 3) ∧ w'.cell? ⟨g, 9, none⟩ = some (.int .i64 4) ∧ w'.cell? ⟨g, 10, none⟩ = some (.int .i64 (-4)) ∧ w'.cell? ⟨g, 11, none⟩ = some (.int .i64 1)) (with_reducible first | exact el_cells (el_drew E1.out) | exact el_cells (el_keep (by assumption) E1.out))
          (first
            | (go_at_call 18; refine (calls_fromF (W := wr) (by with_reducible first | assumption | exact (Below.refl _ _).drew) (comma_impl com2 _)).mono ?_; rintro e1 w9 ⟨rfl, hb⟩))
        all_goals
          have B9 := Lib.hid (HB.out.trans (hb.mono HB.out.size))
          clear x0 x1 x2 x3 hb HB E1
          go_wp2_with fail
          go_roundw
          case rel => exact ⟨3, 3, false, by omega, rfl, by decide, rfl, by go_num, B9⟩
          case measure => simp [intOf]
      · obtain rfl : y = false := hy.trans (by decide)
        have E1 := Lib.hid (el_keep HB.out RV.out.2.2.2)
        clear hy hx hk
        go_upto_region 12 with fail
        obtain ⟨_, x0, x1, x2, x3⟩ := E1.out
        go_region_held3 (fun w' => w'.cell? ⟨g, 12, none⟩ = some (.int .i64 (-4)) ∧ w'.cell? ⟨g, 13, none⟩ = some (.int .i64 4) ∧ w'.cell? ⟨g, 14, none⟩ = some (.int .i64 (-1)) ∧ w'.cell? ⟨g, 15, none⟩ = some (.int .i64 1)) (with_reducible first | exact el_cells (el_drew E1.out) | exact el_cells (el_keep (by assumption) E1.out))
          (first
            | (go_at_call 18; refine (calls_fromF (W := wr) (by with_reducible first | assumption | exact (Below.refl _ _).drew) (comma_impl com2 _)).mono ?_; rintro e1 w9 ⟨rfl, hb⟩))
        all_goals
          have B9 := Lib.hid (HB.out.trans (hb.mono HB.out.size))
          clear x0 x1 x2 x3 hb HB E1
          go_wp2_with fail
          go_roundw
          case rel => exact ⟨4, 4, true, by omega, rfl, by decide, rfl, by go_num, B9⟩
          case measure => simp [intOf]
      · obtain rfl : y = true := hy.trans (by decide)
        clear hy hx hk
        have tz : (z == z) = true := by simp
        go_upto_region 13 with fail
        refine wp_region_held_drew (S := (fun w' => w'.cell? ⟨m, 0, none⟩ = some (.int .i64 12) ∧ w'.cell? ⟨m, 1, none⟩ = some (.int .i64 19) ∧ w'.cell? ⟨m, 2, none⟩ = some (.int .i64 28))) (by kernel_rfl) ?_ (fun hHeld => ?_)
        · exact (tri_keep HB.out TV.out).2
        refine takeD (i := 0) (d := (some 41)) (v := (mapV 12 19 28)) rfl rfl (by kernel_rfl) (by kernel_rfl) (by kernel_rfl) (fun _ _ _ h => h) (Or.inl ⟨by kernel_rfl, ?_⟩) (by assumption) ?_
        · intro wS hSw
          (try dsimp only at hSw)
          go_simp
        (try simp only [Act.put]); (try simp only [List.setIfInBounds_toArray]); (try simp only [List.set_cons_succ]); (try simp only [List.set_cons_zero])
        refine takeD (i := 1) (d := (some 42)) (v := (mapV 12 19 28)) rfl rfl (by kernel_rfl) (by kernel_rfl) (by kernel_rfl) (fun _ _ _ h => h) (Or.inl ⟨by kernel_rfl, ?_⟩) (by assumption) ?_
        · intro wS hSw
          (try dsimp only at hSw)
          go_simp
        (try simp only [Act.put]); (try simp only [List.setIfInBounds_toArray]); (try simp only [List.set_cons_succ]); (try simp only [List.set_cons_zero])
        refine takeD (i := 2) (d := (some 43)) (v := (.bool true)) rfl rfl (by kernel_rfl) (by kernel_rfl) (by kernel_rfl) (fun _ _ _ h => h) (Or.inl ⟨by kernel_rfl, ?_⟩) (by assumption) ?_
        · intro wS hSw
          (try dsimp only at hSw)
          go_simp
        (try simp only [Act.put]); (try simp only [List.setIfInBounds_toArray]); (try simp only [List.set_cons_succ]); (try simp only [List.set_cons_zero])
        refine takeD (i := 3) (d := (some 44)) (v := (.bool true)) rfl rfl (by kernel_rfl) (by kernel_rfl) (by kernel_rfl) (fun _ _ _ h => h) (Or.inl ⟨by kernel_rfl, ?_⟩) (by assumption) ?_
        · intro wS hSw
          (try dsimp only at hSw)
          go_simp
        (try simp only [Act.put]); (try simp only [List.setIfInBounds_toArray]); (try simp only [List.set_cons_succ]); (try simp only [List.set_cons_zero])
        refine takeD (i := 4) (d := (some 45)) (v := (mapV 12 19 28)) rfl rfl (by kernel_rfl) (by kernel_rfl) (by kernel_rfl) (fun _ _ _ h => h) (Or.inl ⟨by kernel_rfl, ?_⟩) (by assumption) ?_
        · intro wS hSw
          (try dsimp only at hSw)
          go_simp
        (try simp only [Act.put]); (try simp only [List.setIfInBounds_toArray]); (try simp only [List.set_cons_succ]); (try simp only [List.set_cons_zero])
        refine takeD (i := 5) (d := (some 46)) (v := (.int .i64 kk)) rfl rfl (by kernel_rfl) (by kernel_rfl) (by kernel_rfl) (fun _ _ _ h => h) (Or.inl ⟨by kernel_rfl, ?_⟩) (by assumption) ?_
        · intro wS hSw
          (try dsimp only at hSw)
          go_simp
        (try simp only [Act.put]); (try simp only [List.setIfInBounds_toArray]); (try simp only [List.set_cons_succ]); (try simp only [List.set_cons_zero])
        refine wpAnyH_ready (rs := [6]) (by kernel_rfl) (by simp) ?_
        refine AllReadyH.cons rfl (fun K hK => ?_) AllReadyH.nil
        go_simp
        refine (calls_fromF (W := V) (by with_reducible first | assumption | exact HB.out.drew | exact HB.out) (SAY.out.com _)).mono ?_
        rintro e1 w1 ⟨rfl, hb⟩
        go_wp2_with fail
        refine hK.out _ _ ?_ (fun hHeld => ?_)
        · exact (tri_keep hb TV.out).2
        clear hK K
        (try simp only [Act.put]); (try simp only [List.setIfInBounds_toArray]); (try simp only [List.set_cons_succ]); (try simp only [List.set_cons_zero])
        refine wpAnyH_ready (rs := [7]) (by kernel_rfl) (by simp) ?_
        refine AllReadyH.cons rfl (fun K hK => ?_) AllReadyH.nil
        go_simp
        refine (calls_fromF (W := V) (by with_reducible first | assumption | exact HB.out.drew | exact HB.out) (hidQ_run (by with_reducible assumption) _)).mono ?_
        rintro e1 w1 ⟨rfl, hb⟩
        go_wp2_with fail
        refine hK.out _ _ ?_ (fun hHeld => ?_)
        · exact (tri_keep hb TV.out).2
        clear hK K
        (try simp only [Act.put]); (try simp only [List.setIfInBounds_toArray]); (try simp only [List.set_cons_succ]); (try simp only [List.set_cons_zero])
        refine takeD (i := 8) (d := (some 49)) (v := (.bool true)) rfl rfl (by kernel_rfl) (by kernel_rfl) (by kernel_rfl) (fun _ _ _ h => h) (Or.inl ⟨by kernel_rfl, ?_⟩) (by assumption) ?_
        · intro wS hSw
          (try dsimp only at hSw)
          go_simp
        (try simp only [Act.put]); (try simp only [List.setIfInBounds_toArray]); (try simp only [List.set_cons_succ]); (try simp only [List.set_cons_zero])
        refine takeD (i := 9) (d := (some 50)) (v := (.bool true)) rfl rfl (by kernel_rfl) (by kernel_rfl) (by kernel_rfl) (fun _ _ _ h => h) (Or.inl ⟨by kernel_rfl, ?_⟩) (by assumption) ?_
        · intro wS hSw
          (try dsimp only at hSw)
          go_simp
        (try simp only [Act.put]); (try simp only [List.setIfInBounds_toArray]); (try simp only [List.set_cons_succ]); (try simp only [List.set_cons_zero])
        refine takeD (i := 10) (d := (some 51)) (v := (.bool true)) rfl rfl (by kernel_rfl) (by kernel_rfl) (by kernel_rfl) (fun _ _ _ h => h) (Or.inl ⟨by kernel_rfl, ?_⟩) (by assumption) ?_
        · intro wS hSw
          (try dsimp only at hSw)
          go_simp
        (try simp only [Act.put]); (try simp only [List.setIfInBounds_toArray]); (try simp only [List.set_cons_succ]); (try simp only [List.set_cons_zero])
        refine takeD (i := 11) (d := (some 52)) (v := (.bool true)) rfl rfl (by kernel_rfl) (by kernel_rfl) (by kernel_rfl) (fun _ _ _ h => h) (Or.inl ⟨by kernel_rfl, ?_⟩) (by assumption) ?_
        · intro wS hSw
          (try dsimp only at hSw)
          go_simp
        (try simp only [Act.put]); (try simp only [List.setIfInBounds_toArray]); (try simp only [List.set_cons_succ]); (try simp only [List.set_cons_zero])
        refine takeD (i := 12) (d := (some 53)) (v := (.bool true)) rfl rfl (by kernel_rfl) (by kernel_rfl) (by kernel_rfl) (fun _ _ _ h => h) (Or.inl ⟨by kernel_rfl, ?_⟩) (by assumption) ?_
        · intro wS hSw
          (try dsimp only at hSw)
          go_simp
        (try simp only [Act.put]); (try simp only [List.setIfInBounds_toArray]); (try simp only [List.set_cons_succ]); (try simp only [List.set_cons_zero])
        refine takeD (i := 13) (d := (some 54)) (v := vd) rfl rfl (by kernel_rfl) (by kernel_rfl) (by kernel_rfl) (fun _ _ _ h => h) (Or.inl ⟨by kernel_rfl, ?_⟩) (by assumption) ?_
        · intro wS hSw
          (try dsimp only at hSw)
          go_simp
        (try simp only [Act.put]); (try simp only [List.setIfInBounds_toArray]); (try simp only [List.set_cons_succ]); (try simp only [List.set_cons_zero])
        refine wpAnyH_ready (rs := [14]) (by kernel_rfl) (by simp) ?_
        refine AllReadyH.cons rfl (fun K hK => ?_) AllReadyH.nil
        go_simp
        refine (hasQ_run (V := V) (by with_reducible assumption) (by with_reducible first | assumption | exact HB.out.drew | exact HB.out)).mono ?_
        rintro e1 w1 ⟨rfl, hb⟩
        go_wp2_with fail
        refine hK.out _ _ ?_ (fun hHeld => ?_)
        · exact (tri_keep hb TV.out).2
        clear hK K
        (try simp only [Act.put]); (try simp only [List.setIfInBounds_toArray]); (try simp only [List.set_cons_succ]); (try simp only [List.set_cons_zero])
        refine takeD (i := 15) (d := (some 56)) (v := (.bool true)) rfl rfl (by kernel_rfl) (by kernel_rfl) (by kernel_rfl) (fun _ _ _ h => h) (Or.inl ⟨by kernel_rfl, ?_⟩) (by assumption) ?_
        · intro wS hSw
          (try dsimp only at hSw)
          go_simp
        (try simp only [Act.put]); (try simp only [List.setIfInBounds_toArray]); (try simp only [List.set_cons_succ]); (try simp only [List.set_cons_zero])
        refine takeD (i := 16) (d := (some 57)) (v := (.bool true)) rfl rfl (by kernel_rfl) (by kernel_rfl) (by kernel_rfl) (fun _ _ _ h => h) (Or.inl ⟨by kernel_rfl, ?_⟩) (by assumption) ?_
        · intro wS hSw
          (try dsimp only at hSw)
          go_simp
        (try simp only [Act.put]); (try simp only [List.setIfInBounds_toArray]); (try simp only [List.set_cons_succ]); (try simp only [List.set_cons_zero])
        refine takeD (i := 17) (d := (some 58)) (v := vd) rfl rfl (by kernel_rfl) (by kernel_rfl) (by kernel_rfl) (fun _ _ _ h => h) (Or.inl ⟨by kernel_rfl, ?_⟩) (by assumption) ?_
        · intro wS hSw
          (try dsimp only at hSw)
          go_simp
        (try simp only [Act.put]); (try simp only [List.setIfInBounds_toArray]); (try simp only [List.set_cons_succ]); (try simp only [List.set_cons_zero])
        refine takeD (i := 18) (d := (some 59)) (v := (.int .i64 n)) rfl rfl (by kernel_rfl) (by kernel_rfl) (by kernel_rfl) (fun _ _ _ h => h) (Or.inl ⟨by kernel_rfl, ?_⟩) (by assumption) ?_
        · intro wS hSw
          (try dsimp only at hSw)
          go_simp
        (try simp only [Act.put]); (try simp only [List.setIfInBounds_toArray]); (try simp only [List.set_cons_succ]); (try simp only [List.set_cons_zero])
        refine takeD (i := 20) (d := (some 61)) (v := (.int .i64 n)) rfl rfl (by kernel_rfl) (by kernel_rfl) (by kernel_rfl) (fun _ _ _ h => h) (Or.inl ⟨by kernel_rfl, ?_⟩) (by assumption) ?_
        · intro wS hSw
          (try dsimp only at hSw)
          go_simp
        (try simp only [Act.put]); (try simp only [List.setIfInBounds_toArray]); (try simp only [List.set_cons_succ]); (try simp only [List.set_cons_zero])
        refine takeD (i := 22) (d := (some 63)) (v := (.int .i64 kk)) rfl rfl (by kernel_rfl) (by kernel_rfl) (by kernel_rfl) (fun _ _ _ h => h) (Or.inl ⟨by kernel_rfl, ?_⟩) (by assumption) ?_
        · intro wS hSw
          (try dsimp only at hSw)
          go_simp
        (try simp only [Act.put]); (try simp only [List.setIfInBounds_toArray]); (try simp only [List.set_cons_succ]); (try simp only [List.set_cons_zero])
        refine wpAnyH_ready (rs := [19]) (by kernel_rfl) (by simp) ?_
        refine AllReadyH.cons rfl (fun K hK => ?_) AllReadyH.nil
        go_simp
        refine (hasQ_run (V := V) (by with_reducible assumption) (by with_reducible first | assumption | exact HB.out.drew | exact HB.out)).mono ?_
        rintro e1 w1 ⟨rfl, hb⟩
        go_wp2_with fail
        refine hK.out _ _ ?_ (fun hHeld => ?_)
        · exact (tri_keep hb TV.out).2
        clear hK K
        (try simp only [Act.put]); (try simp only [List.setIfInBounds_toArray]); (try simp only [List.set_cons_succ]); (try simp only [List.set_cons_zero])
        refine wpAnyH_ready (rs := [21]) (by kernel_rfl) (by simp) ?_
        refine AllReadyH.cons rfl (fun K hK => ?_) AllReadyH.nil
        go_simp
        refine (calls_fromF (W := V) (by with_reducible first | assumption | exact HB.out.drew | exact HB.out) (SAY.out.bm _)).mono ?_
        rintro e1 w1 ⟨rfl, hb⟩
        go_wp2_with fail
        refine hK.out _ _ ?_ (fun hHeld => ?_)
        · exact (tri_keep hb TV.out).2
        clear hK K
        (try simp only [Act.put]); (try simp only [List.setIfInBounds_toArray]); (try simp only [List.set_cons_succ]); (try simp only [List.set_cons_zero])
        refine wpAnyH_ready (rs := [23]) (by kernel_rfl) (by simp) ?_
        refine AllReadyH.cons rfl (fun K hK => ?_) AllReadyH.nil
        go_simp
        refine (calls_fromF (W := V) (by with_reducible first | assumption | exact HB.out.drew | exact HB.out) (SAY.out.com _)).mono ?_
        rintro e1 w1 ⟨rfl, hb⟩
        go_wp2_with fail
        refine hK.out _ _ ?_ (fun hHeld => ?_)
        · exact (tri_keep hb TV.out).2
        clear hK K
        (try simp only [Act.put]); (try simp only [List.setIfInBounds_toArray]); (try simp only [List.set_cons_succ]); (try simp only [List.set_cons_zero])
        refine wpAnyH_ready (rs := [24]) (by kernel_rfl) (by simp) ?_
        refine AllReadyH.cons rfl (fun K hK => ?_) AllReadyH.nil
        go_simp
        refine (calls_fromF (W := V) (by with_reducible first | assumption | exact HB.out.drew | exact HB.out) (hidQ_run (by with_reducible assumption) _)).mono ?_
        rintro e1 w1 ⟨rfl, hb⟩
        go_wp2_with fail
        refine hK.out _ _ ?_ (fun hHeld => ?_)
        · exact (tri_keep hb TV.out).2
        clear hK K
        (try simp only [Act.put]); (try simp only [List.setIfInBounds_toArray]); (try simp only [List.set_cons_succ]); (try simp only [List.set_cons_zero])
        refine takeD (i := 25) (d := (some 66)) (v := (.bool true)) rfl rfl (by kernel_rfl) (by kernel_rfl) (by kernel_rfl) (fun _ _ _ h => h) (Or.inl ⟨by kernel_rfl, ?_⟩) (by assumption) ?_
        · intro wS hSw
          (try dsimp only at hSw)
          go_simp
        (try simp only [Act.put]); (try simp only [List.setIfInBounds_toArray]); (try simp only [List.set_cons_succ]); (try simp only [List.set_cons_zero])
        refine takeD (i := 26) (d := (some 67)) (v := (.bool true)) rfl rfl (by kernel_rfl) (by kernel_rfl) (by kernel_rfl) (fun _ _ _ h => h) (Or.inl ⟨by kernel_rfl, ?_⟩) (by assumption) ?_
        · intro wS hSw
          (try dsimp only at hSw)
          go_simp
        (try simp only [Act.put]); (try simp only [List.setIfInBounds_toArray]); (try simp only [List.set_cons_succ]); (try simp only [List.set_cons_zero])
        refine takeD (i := 27) (d := (some 68)) (v := (.bool true)) rfl rfl (by kernel_rfl) (by kernel_rfl) (by kernel_rfl) (fun _ _ _ h => h) (Or.inl ⟨by kernel_rfl, ?_⟩) (by assumption) ?_
        · intro wS hSw
          (try dsimp only at hSw)
          go_simp
        (try simp only [Act.put]); (try simp only [List.setIfInBounds_toArray]); (try simp only [List.set_cons_succ]); (try simp only [List.set_cons_zero])
        refine takeD (i := 28) (d := (some 69)) (v := (mapV 12 19 28)) rfl rfl (by kernel_rfl) (by kernel_rfl) (by kernel_rfl) (fun _ _ _ h => h) (Or.inl ⟨by kernel_rfl, ?_⟩) (by assumption) ?_
        · intro wS hSw
          (try dsimp only at hSw)
          go_simp
        (try simp only [Act.put]); (try simp only [List.setIfInBounds_toArray]); (try simp only [List.set_cons_succ]); (try simp only [List.set_cons_zero])
        refine wpAnyH_ready (rs := [29]) (by kernel_rfl) (by simp) ?_
        refine AllReadyH.cons rfl (fun K hK => ?_) AllReadyH.nil
        go_simp
        refine (calls_fromF (W := V) (by with_reducible first | assumption | exact HB.out.drew | exact HB.out) (SAY.out.con _)).mono ?_
        rintro e1 w1 ⟨rfl, hb⟩
        go_wp2_with fail
        refine hK.out _ _ ?_ (fun hHeld => ?_)
        · exact (tri_keep hb TV.out).2
        clear hK K
        (try simp only [Act.put]); (try simp only [List.setIfInBounds_toArray]); (try simp only [List.set_cons_succ]); (try simp only [List.set_cons_zero])
        refine takeD (i := 30) (d := (some 71)) (v := (.bool true)) rfl rfl (by kernel_rfl) (by kernel_rfl) (by kernel_rfl) (fun _ _ _ h => h) (Or.inl ⟨by kernel_rfl, ?_⟩) (by assumption) ?_
        · intro wS hSw
          (try dsimp only at hSw)
          go_simp
        (try simp only [Act.put]); (try simp only [List.setIfInBounds_toArray]); (try simp only [List.set_cons_succ]); (try simp only [List.set_cons_zero])
        refine takeD (i := 31) (d := (some 2)) (v := (.bool true)) rfl rfl (by kernel_rfl) (by kernel_rfl) (by kernel_rfl) (fun _ _ _ h => h) (Or.inl ⟨by kernel_rfl, ?_⟩) (by assumption) ?_
        · intro wS hSw
          (try dsimp only at hSw)
          go_simp
        (try simp only [Act.put]); (try simp only [List.setIfInBounds_toArray]); (try simp only [List.set_cons_succ]); (try simp only [List.set_cons_zero])
        refine wpAnyH_done (by kernel_rfl) ?_ _
        have B9 := Lib.hid (BV.out.trans (hb.mono BV.out.size))
        clear hb HB
        go_wp2_with fail
        go_ret
        exact ⟨rfl, B9.out⟩
end Go.Proofs.YtfhefakacjkmiaaDoor
