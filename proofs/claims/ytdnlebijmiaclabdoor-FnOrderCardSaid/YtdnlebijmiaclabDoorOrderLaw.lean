/- The walk of laws.FnOrder. -/
import Derived.Test.YtdnlebijmiaclabDoorSignOf
import Derived.Test.YtdnlebijmiaclabDoorTakeD
namespace Go.Proofs.YtdnlebijmiaclabDoor
open Go.RowKit Go.Joins
set_option linter.unusedVariables false
set_option maxRecDepth 100000 in
set_option maxHeartbeats 8000000 in
theorem walk_FnOrder (P : Addr) (a0 : Option Addr) (len0 cap0 : Nat) (z0 : List Int) (w : World) (hs : SenAt P w) (hr : IsRow .u8 w a0 len0 cap0 z0) :
    Calls Tryd.prog 3 #[.slice a0 len0 cap0] w fun e w' => e = .returned (.bool true) ∧ Below w.heap.size w w' := by
  have hlen := (row_len hr).2
  have HS := Lib.hid hs
  clear hs
  by_cases hbig : 1048576 < len0
  · have t0 : decide (1048576 < (len0 : Int)) = true := by simp; omega
    go_enter Tryd.func3, Tryd.ntmps3
    go_wp2_with fail
    refine (bigW_any _ _ _ _ hlen).mono ?_
    rintro e w' ⟨rfl, rfl⟩
    go_wp2_with fail
    go_ret
    exact ⟨rfl, Below.refl _ _⟩
  · have t0 : decide (1048576 < (len0 : Int)) = false := by simp; omega
    have HR := Lib.hid hr
    clear hr
    go_enter Tryd.func3, Tryd.ntmps3
    go_wp2_with fail
    refine (bigW_any _ _ _ _ hlen).mono ?_
    rintro e w' ⟨rfl, rfl⟩
    go_wp2_with fail
    refine (drawTones_any HR.out).mono ?_
    rintro en w1 ⟨a, b, c, d, e, f, g, h, i, j, k, l, hT1, hT2, hT3, rfl, hb1⟩
    obtain ⟨A, rfl, rfl, rfl, rfl⟩ : ∃ A : Iv, a = A.two ∧ b = A.three ∧ c = A.five ∧ d = A.root := ⟨⟨a, b, c, d⟩, rfl, rfl, rfl, rfl⟩
    obtain ⟨B, rfl, rfl, rfl, rfl⟩ : ∃ A : Iv, e = A.two ∧ f = A.three ∧ g = A.five ∧ h = A.root := ⟨⟨e, f, g, h⟩, rfl, rfl, rfl, rfl⟩
    obtain ⟨C, rfl, rfl, rfl, rfl⟩ : ∃ A : Iv, i = A.two ∧ j = A.three ∧ k = A.five ∧ l = A.root := ⟨⟨i, j, k, l⟩, rfl, rfl, rfl, rfl⟩
    obtain ⟨N, D, G, x, y, z, c, two, g, k1, k2, k3, k4, k5, k6, k7, k8, k9, g1, g2, g3, c0, tr1, tr2, x1, x2, y1, y2, z1, z2⟩ := order_say P (A := A) (B := B) (C := C) (ti_ok hT1) (ti_ok hT2) (ti_ok hT3)
    have K1 := Lib.hid k1
    have K2 := Lib.hid k2
    have K3 := Lib.hid k3
    have K4 := Lib.hid k4
    have K5 := Lib.hid k5
    have K6 := Lib.hid k6
    have K7 := Lib.hid k7
    have KC := Lib.hid k8
    have KB := Lib.hid k9
    have G1 := Lib.hid g1
    have G2 := Lib.hid g2
    have G3 := Lib.hid g3
    have KC0 := Lib.hid c0
    have T1 := Lib.hid tr1
    have T2 := Lib.hid tr2
    have HB := Lib.hid hb1
    clear k1 k2 k3 k4 k5 k6 k7 k8 k9 g1 g2 g3 c0 tr1 tr2 hT1 hT2 hT3 hb1 HR hlen hbig
    obtain ⟨W0, hW, E0, E1, E2, EB⟩ := boxesD w1 A.two A.three A.five A.root B.two B.three B.five B.root C.two C.three C.five C.root 25
    have E2' : Four (w1.heap.size + 1 + 1) C.two C.three C.five C.root W0 := E2
    have BB := Lib.hid (HB.out.trans (EB.mono HB.out.size))
    have HW := Lib.hid hW
    clear E2 EB HB hW
    have TB := Lib.hid (show Trip w1.heap.size (w1.heap.size + 1) (w1.heap.size + 1 + 1) A.two A.three A.five A.root B.two B.three B.five B.root C.two C.three C.five C.root W0 from ⟨E0, E1, E2'⟩)
    clear E0 E1 E2'
    go_wp2_with fail
    rw [← HW.out]
    clear HW
    generalize w1.heap.size + 1 + 1 = mC at TB ⊢
    generalize w1.heap.size + 1 = mB at TB ⊢
    generalize w1.heap.size = mA at TB ⊢
    refine (K1.out _ (senAt_below HS.out BB.out)).mono ?_
    rintro en v2 ⟨rfl, hb⟩
    have tb := trip_keep hb TB.out
    have bb := BB.out.trans (Below.mono hb BB.out.size)
    clear TB BB
    have TB := Lib.hid tb
    have BB := Lib.hid bb
    clear tb bb hb
    obtain ⟨⟨A9, A0, A1, A2, A3⟩, ⟨B9, B0, B1, B2, B3⟩, ⟨C9, C0, C1, C2, C3⟩⟩ := TB.out
    go_wp2_with fail
    clear A9 A0 A1 A2 A3 B9 B0 B1 B2 B3 C9 C0 C1 C2 C3
    refine (K2.out _ (senAt_below HS.out BB.out)).mono ?_
    rintro en v3 ⟨rfl, hb⟩
    have tb := trip_keep hb TB.out
    have bb := BB.out.trans (Below.mono hb BB.out.size)
    clear TB BB
    have TB := Lib.hid tb
    have BB := Lib.hid bb
    clear tb bb hb
    obtain ⟨⟨A9, A0, A1, A2, A3⟩, ⟨B9, B0, B1, B2, B3⟩, ⟨C9, C0, C1, C2, C3⟩⟩ := TB.out
    go_wp2_with fail
    clear A9 A0 A1 A2 A3 B9 B0 B1 B2 B3 C9 C0 C1 C2 C3
    refine (K3.out _ (senAt_below HS.out BB.out)).mono ?_
    rintro en v4 ⟨rfl, hb⟩
    have tb := trip_keep hb TB.out
    have bb := BB.out.trans (Below.mono hb BB.out.size)
    clear TB BB
    have TB := Lib.hid tb
    have BB := Lib.hid bb
    clear tb bb hb
    obtain ⟨⟨A9, A0, A1, A2, A3⟩, ⟨B9, B0, B1, B2, B3⟩, ⟨C9, C0, C1, C2, C3⟩⟩ := TB.out
    go_wp2_with fail
    clear A9 A0 A1 A2 A3 B9 B0 B1 B2 B3 C9 C0 C1 C2 C3
    refine (K4.out _).mono ?_
    rintro en v5 ⟨rfl, hb⟩
    have tb := trip_keep hb TB.out
    have bb := BB.out.trans (Below.mono hb BB.out.size)
    clear TB BB
    have TB := Lib.hid tb
    have BB := Lib.hid bb
    clear tb bb hb
    obtain ⟨⟨A9, A0, A1, A2, A3⟩, ⟨B9, B0, B1, B2, B3⟩, ⟨C9, C0, C1, C2, C3⟩⟩ := TB.out
    go_wp2_with fail
    clear A9 A0 A1 A2 A3 B9 B0 B1 B2 B3 C9 C0 C1 C2 C3
    have ka : Below v5.heap.size v5 (v5.alloc (.cells #[.int .i64 N.two, .int .i64 N.three, .int .i64 N.five, .int .i64 N.root] 25)) := below_alloc1 v5 _
    have tb := trip_keep ka TB.out
    have bb := BB.out.trans (Below.mono ka BB.out.size)
    clear TB BB
    have TB := Lib.hid tb
    have BB := Lib.hid bb
    clear tb bb ka
    refine (K5.out _).mono ?_
    rintro en v6 ⟨rfl, hb⟩
    have tb := trip_keep hb TB.out
    have bb := BB.out.trans (Below.mono hb BB.out.size)
    clear TB BB
    have TB := Lib.hid tb
    have BB := Lib.hid bb
    clear tb bb hb
    obtain ⟨⟨A9, A0, A1, A2, A3⟩, ⟨B9, B0, B1, B2, B3⟩, ⟨C9, C0, C1, C2, C3⟩⟩ := TB.out
    go_upto_region 9 with fail
    clear A9 A0 A1 A2 A3 B9 B0 B1 B2 B3 C9 C0 C1 C2 C3
    obtain ⟨W9, hW9⟩ : ∃ y, y = (v6.alloc (.cells #[.int .i64 D.two, .int .i64 D.three, .int .i64 D.five, .int .i64 D.root] 25)) := ⟨_, rfl⟩
    have ka : Below v6.heap.size v6 W9 := by rw [hW9]; exact below_alloc1 v6 _
    obtain ⟨mD, hmD⟩ : ∃ m, m = v6.heap.size := ⟨_, rfl⟩
    have gD : Four mD D.two D.three D.five D.root W9 := by rw [hW9, hmD]; exact four_alloc
    rw [← hW9, ← hmD]
    clear hW9 hmD
    have tb := trip_keep ka TB.out
    have bb := BB.out.trans (Below.mono ka BB.out.size)
    clear TB BB
    have TB := Lib.hid tb
    have BB := Lib.hid bb
    clear tb bb ka
    have FD := Lib.hid gD
    have HS9 := Lib.hid (senAt_below HS.out BB.out)
    clear gD
    have tx : (x != x) = false := by simp
    have nx : - -x = x := by omega
    go_cut [60] (fun s60 wx => s60 = .bool false ∧ Below W9.heap.size W9 wx)
    case first =>
      obtain ⟨⟨A9, A0, A1, A2, A3⟩, ⟨B9, B0, B1, B2, B3⟩, ⟨C9, C0, C1, C2, C3⟩⟩ := TB.out
      obtain ⟨D9, D0, D1, D2, D3⟩ := FD.out
      cases two
      · go_wp2_with fail
        refine (K7.out _ HS9.out).mono ?_
        rintro en v7 ⟨rfl, hb⟩
        go_wp2_with fail
        go_meet
        exact ⟨rfl, hb⟩
      · go_wp2_with fail
        refine (K6.out (by trivial) _ HS9.out).mono ?_
        rintro en v7 ⟨rfl, hb⟩
        have tb := trip_keep hb TB.out
        clear A9 A0 A1 A2 A3 B9 B0 B1 B2 B3 C9 C0 C1 C2 C3 D9 D0 D1 D2 D3
        obtain ⟨⟨A9, A0, A1, A2, A3⟩, ⟨B9, B0, B1, B2, B3⟩, ⟨C9, C0, C1, C2, C3⟩⟩ := tb
        go_wp2_with fail
        refine (K7.out _ (senAt_below HS9.out hb)).mono ?_
        rintro en v8 ⟨rfl, hb2⟩
        go_wp2_with fail
        go_meet
        exact ⟨rfl, hb.trans (hb2.mono hb.size)⟩
    case rest =>
      obtain ⟨rfl, hb⟩ := hcut
      obtain ⟨W, hW⟩ : ∃ y, y = wc := ⟨_, rfl⟩
      rw [← hW] at hb ⊢
      clear hW HS9 FD
      have tb := trip_keep hb TB.out
      have bb := BB.out.trans (Below.mono hb BB.out.size)
      clear TB BB
      have TB := Lib.hid tb
      have BB := Lib.hid bb
      clear tb bb hb
      go_upto_region 11 with fail
      go_cut [82] (fun s82 wx => s82 = .bool false ∧ wx = W)
      case first =>
        rcases (show x < 0 ∨ (x ≤ 0 ∧ 0 ≤ x) ∨ 0 < x from by omega) with hx | hx | hx
        all_goals rcases (show y < 0 ∨ (y ≤ 0 ∧ 0 ≤ y) ∨ 0 < y from by omega) with hy | hy | hy
        all_goals
          have hz1 : x ≤ 0 → y ≤ 0 → z ≤ 0 := T1.out
          have hz2 : 0 ≤ x → 0 ≤ y → 0 ≤ z := T2.out
          have hz3 : z ≤ 0 ∨ ¬ (x ≤ 0 ∧ y ≤ 0) := by omega
          have hz4 : 0 ≤ z ∨ ¬ (0 ≤ x ∧ 0 ≤ y) := by omega
          clear hz1 hz2
          rcases (show z < 0 ∨ (z ≤ 0 ∧ 0 ≤ z) ∨ 0 < z from by omega) with hz | hz | hz
          all_goals first
            | (exfalso; omega)
            | (first
                | have dx1 : decide (x ≤ 0) = true := decide_eq_true (by omega)
                | have dx1 : decide (x ≤ 0) = false := decide_eq_false (by omega)
               first
                | have dx2 : decide (0 ≤ x) = true := decide_eq_true (by omega)
                | have dx2 : decide (0 ≤ x) = false := decide_eq_false (by omega)
               first
                | have dy1 : decide (y ≤ 0) = true := decide_eq_true (by omega)
                | have dy1 : decide (y ≤ 0) = false := decide_eq_false (by omega)
               first
                | have dy2 : decide (0 ≤ y) = true := decide_eq_true (by omega)
                | have dy2 : decide (0 ≤ y) = false := decide_eq_false (by omega)
               first
                | have dz1 : decide (0 < z) = true := decide_eq_true (by omega)
                | have dz1 : decide (0 < z) = false := decide_eq_false (by omega)
               first
                | have dz2 : decide (z < 0) = true := decide_eq_true (by omega)
                | have dz2 : decide (z < 0) = false := decide_eq_false (by omega)
               clear hx hy hz hz3 hz4
               go_wp2_with fail
               go_meet
               exact ⟨rfl, rfl⟩)
      case rest =>
        obtain ⟨rfl, hwc⟩ := hcut
        have hwc2 := hwc.symm
        clear hwc
        subst hwc2
        obtain ⟨⟨A9, A0, A1, A2, A3⟩, ⟨B9, B0, B1, B2, B3⟩, ⟨C9, C0, C1, C2, C3⟩⟩ := TB.out
        go_wp2_with fail
        have OL : (W.alloc (.cells #[.int .i64 A.two, .int .i64 A.three, .int .i64 A.five, .int .i64 A.root, .int .i64 B.two, .int .i64 B.three, .int .i64 B.five, .int .i64 B.root, .int .i64 C.two, .int .i64 C.three, .int .i64 C.five, .int .i64 C.root] 25)).ownsRow W.heap.size 25 4 (.slice (some ⟨W.heap.size, 0, none⟩) 3 3) [A, B, C].length (ivCs [A, B, C]) := World.ownsRow_lit W #[.int .i64 A.two, .int .i64 A.three, .int .i64 A.five, .int .i64 A.root, .int .i64 B.two, .int .i64 B.three, .int .i64 B.five, .int .i64 B.root, .int .i64 C.two, .int .i64 C.three, .int .i64 C.five, .int .i64 C.root] 3 (Nat.le_refl _) (by unfold maxLen; omega) rfl
        have ka : Below W.heap.size W (W.alloc (.cells #[.int .i64 A.two, .int .i64 A.three, .int .i64 A.five, .int .i64 A.root, .int .i64 B.two, .int .i64 B.three, .int .i64 B.five, .int .i64 B.root, .int .i64 C.two, .int .i64 C.three, .int .i64 C.five, .int .i64 C.root] 25)) := below_alloc1 W _
        clear A9 A0 A1 A2 A3 B9 B0 B1 B2 B3 C9 C0 C1 C2 C3
        have tb := trip_keep ka TB.out
        have bb := BB.out.trans (Below.mono ka BB.out.size)
        clear TB BB
        have TB := Lib.hid tb
        have BB := Lib.hid bb
        clear tb bb ka
        refine (greatest_impl P _ _ _ _ [A, B, C] (by simp) OL (senAt_below HS.out BB.out)).mono ?_
        rintro en v9 ⟨rfl, hb⟩
        rw [G1.out]
        clear OL
        have tb := trip_keep hb TB.out
        have bb := BB.out.trans (Below.mono hb BB.out.size)
        clear TB BB
        have TB := Lib.hid tb
        have BB := Lib.hid bb
        clear tb bb hb
        go_upto_region 14 with fail
        have q3 : (g : Int) < 3 := by have := G2.out; omega
        have OL : (World.drew (v9.alloc (.cells #[.int .i64 A.two, .int .i64 A.three, .int .i64 A.five, .int .i64 A.root, .int .i64 B.two, .int .i64 B.three, .int .i64 B.five, .int .i64 B.root, .int .i64 C.two, .int .i64 C.three, .int .i64 C.five, .int .i64 C.root] 25))).ownsRow v9.heap.size 25 4 (.slice (some ⟨v9.heap.size, 0, none⟩) 3 3) 3 (ivCs [A, B, C]) := World.ownsRow_lit v9 #[.int .i64 A.two, .int .i64 A.three, .int .i64 A.five, .int .i64 A.root, .int .i64 B.two, .int .i64 B.three, .int .i64 B.five, .int .i64 B.root, .int .i64 C.two, .int .i64 C.three, .int .i64 C.five, .int .i64 C.root] 3 (Nat.le_refl _) (by unfold maxLen; omega) rfl
        have Q := own_iv OL rfl g G2.out
        rw [← G3.out] at Q
        have ka : Below v9.heap.size v9 (World.drew (v9.alloc (.cells #[.int .i64 A.two, .int .i64 A.three, .int .i64 A.five, .int .i64 A.root, .int .i64 B.two, .int .i64 B.three, .int .i64 B.five, .int .i64 B.root, .int .i64 C.two, .int .i64 C.three, .int .i64 C.five, .int .i64 C.root] 25))) := ((Below.refl _ _).alloc (Nat.le_refl _) _).drew
        clear OL
        have tb2 := trip_keep ka TB.out
        have bb2 := BB.out.trans (Below.mono ka BB.out.size)
        have hs2 := senAt_below HS.out bb2
        obtain ⟨W2, hW2⟩ : ∃ y, y = World.drew (v9.alloc (.cells #[.int .i64 A.two, .int .i64 A.three, .int .i64 A.five, .int .i64 A.root, .int .i64 B.two, .int .i64 B.three, .int .i64 B.five, .int .i64 B.root, .int .i64 C.two, .int .i64 C.three, .int .i64 C.five, .int .i64 C.root] 25)) := ⟨_, rfl⟩
        rw [← hW2] at Q tb2 bb2 hs2
        obtain ⟨mL, hmL⟩ : ∃ m, m = v9.heap.size := ⟨_, rfl⟩
        rw [← hmL] at Q
        have HW2 := Lib.hid hW2
        have HML := Lib.hid hmL
        have QH := Lib.hid Q
        have TB2 := Lib.hid tb2
        have BB2 := Lib.hid bb2
        have HS2 := Lib.hid hs2
        clear hW2 hmL Q ka tb2 bb2 hs2
        by_cases hx : x ≤ 0
        · obtain ⟨yb, hyb⟩ : ∃ b, decide (y ≤ 0) = b := ⟨_, rfl⟩
          have K9 : IsPick P B.two B.three B.five B.root A.two A.three A.five A.root C.two C.three C.five C.root yb := by
            have := KB.out
            rw [decide_eq_true hx, Bool.true_and, hyb] at this
            exact this
          have K8 := KC.out
          have hc0 := KC0.out
          have ty : (yb == yb) = true := by cases yb <;> rfl
          refine wp_region_held_drew (S := (fun w' => w'.cell? ⟨mA, 0, none⟩ = some (.int .i64 A.two) ∧ w'.cell? ⟨mA, 1, none⟩ = some (.int .i64 A.three) ∧ w'.cell? ⟨mA, 2, none⟩ = some (.int .i64 A.five) ∧ w'.cell? ⟨mA, 3, none⟩ = some (.int .i64 A.root) ∧ w'.cell? ⟨mB, 0, none⟩ = some (.int .i64 B.two) ∧ w'.cell? ⟨mB, 1, none⟩ = some (.int .i64 B.three) ∧ w'.cell? ⟨mB, 2, none⟩ = some (.int .i64 B.five) ∧ w'.cell? ⟨mB, 3, none⟩ = some (.int .i64 B.root) ∧ w'.cell? ⟨mC, 0, none⟩ = some (.int .i64 C.two) ∧ w'.cell? ⟨mC, 1, none⟩ = some (.int .i64 C.three) ∧ w'.cell? ⟨mC, 2, none⟩ = some (.int .i64 C.five) ∧ w'.cell? ⟨mC, 3, none⟩ = some (.int .i64 C.root))) (by kernel_rfl) ?_ (fun hHeld => ?_)
          · exact trip_cells (trip_drew TB.out)
          refine takeD (i := 0) (d := (some 88)) (v := (.int .i64 (g : Int))) rfl rfl (by kernel_rfl) (by kernel_rfl) (by kernel_rfl) (fun _ _ _ h => h) (Or.inl ⟨by kernel_rfl, ?_⟩) (by assumption) ?_
          · intro wS hSw
            (try dsimp only at hSw)
            go_simp
          (try simp only [Act.put]); (try simp only [List.setIfInBounds_toArray]); (try simp only [List.set_cons_succ]); (try simp only [List.set_cons_zero])
          refine takeD (i := 1) (d := (some 89)) (v := (.bool true)) rfl rfl (by kernel_rfl) (by kernel_rfl) (by kernel_rfl) (fun _ _ _ h => h) (Or.inl ⟨by kernel_rfl, ?_⟩) (by assumption) ?_
          · intro wS hSw
            (try dsimp only at hSw)
            go_simp
          (try simp only [Act.put]); (try simp only [List.setIfInBounds_toArray]); (try simp only [List.set_cons_succ]); (try simp only [List.set_cons_zero])
          refine takeD (i := 2) (d := (some 90)) (v := (.bool true)) rfl rfl (by kernel_rfl) (by kernel_rfl) (by kernel_rfl) (fun _ _ _ h => h) (Or.inl ⟨by kernel_rfl, ?_⟩) (by assumption) ?_
          · intro wS hSw
            (try dsimp only at hSw)
            go_simp
          (try simp only [Act.put]); (try simp only [List.setIfInBounds_toArray]); (try simp only [List.set_cons_succ]); (try simp only [List.set_cons_zero])
          refine takeD (i := 3) (d := (some 91)) (v := (.int .i64 (g : Int))) rfl rfl (by kernel_rfl) (by kernel_rfl) (by kernel_rfl) (fun _ _ _ h => h) (Or.inl ⟨by kernel_rfl, ?_⟩) (by assumption) ?_
          · intro wS hSw
            (try dsimp only at hSw)
            go_simp
          (try simp only [Act.put]); (try simp only [List.setIfInBounds_toArray]); (try simp only [List.set_cons_succ]); (try simp only [List.set_cons_zero])
          refine takeD (i := 4) (d := (some 92)) (v := (.bool true)) rfl rfl (by kernel_rfl) (by kernel_rfl) (by kernel_rfl) (fun _ _ _ h => h) (Or.inl ⟨by kernel_rfl, ?_⟩) (by assumption) ?_
          · intro wS hSw
            (try dsimp only at hSw)
            go_simp
          (try simp only [Act.put]); (try simp only [List.setIfInBounds_toArray]); (try simp only [List.set_cons_succ]); (try simp only [List.set_cons_zero])
          refine takeD (i := 5) (d := (some 93)) (v := (.bool true)) rfl rfl (by kernel_rfl) (by kernel_rfl) (by kernel_rfl) (fun _ _ _ h => h) (Or.inl ⟨by kernel_rfl, ?_⟩) (by assumption) ?_
          · intro wS hSw
            (try dsimp only at hSw)
            go_simp
          (try simp only [Act.put]); (try simp only [List.setIfInBounds_toArray]); (try simp only [List.set_cons_succ]); (try simp only [List.set_cons_zero])
          refine takeD (i := 6) (d := (some 94)) (v := (.bool true)) rfl rfl (by kernel_rfl) (by kernel_rfl) (by kernel_rfl) (fun _ _ _ h => h) (Or.inl ⟨by kernel_rfl, ?_⟩) (by assumption) ?_
          · intro wS hSw
            (try dsimp only at hSw)
            go_simp
          (try simp only [Act.put]); (try simp only [List.setIfInBounds_toArray]); (try simp only [List.set_cons_succ]); (try simp only [List.set_cons_zero])
          refine takeD (i := 7) (d := (some 95)) (v := (ivV A.two A.three A.five A.root)) rfl rfl (by kernel_rfl) (by kernel_rfl) (by kernel_rfl) (fun _ _ _ h => h) (Or.inl ⟨by kernel_rfl, ?_⟩) (by assumption) ?_
          · intro wS hSw
            (try dsimp only at hSw)
            go_simp
          (try simp only [Act.put]); (try simp only [List.setIfInBounds_toArray]); (try simp only [List.set_cons_succ]); (try simp only [List.set_cons_zero])
          refine takeD (i := 8) (d := (some 96)) (v := (ivV B.two B.three B.five B.root)) rfl rfl (by kernel_rfl) (by kernel_rfl) (by kernel_rfl) (fun _ _ _ h => h) (Or.inl ⟨by kernel_rfl, ?_⟩) (by assumption) ?_
          · intro wS hSw
            (try dsimp only at hSw)
            go_simp
          (try simp only [Act.put]); (try simp only [List.setIfInBounds_toArray]); (try simp only [List.set_cons_succ]); (try simp only [List.set_cons_zero])
          refine takeD (i := 9) (d := (some 97)) (v := (ivV C.two C.three C.five C.root)) rfl rfl (by kernel_rfl) (by kernel_rfl) (by kernel_rfl) (fun _ _ _ h => h) (Or.inl ⟨by kernel_rfl, ?_⟩) (by assumption) ?_
          · intro wS hSw
            (try dsimp only at hSw)
            go_simp
          (try simp only [Act.put]); (try simp only [List.setIfInBounds_toArray]); (try simp only [List.set_cons_succ]); (try simp only [List.set_cons_zero])
          refine takeD (i := 11) (d := (some 99)) (v := (.int .i64 (g : Int))) rfl rfl (by kernel_rfl) (by kernel_rfl) (by kernel_rfl) (fun _ _ _ h => h) (Or.inl ⟨by kernel_rfl, ?_⟩) (by assumption) ?_
          · intro wS hSw
            (try dsimp only at hSw)
            go_simp
          (try simp only [Act.put]); (try simp only [List.setIfInBounds_toArray]); (try simp only [List.set_cons_succ]); (try simp only [List.set_cons_zero])
          refine takeD (i := 14) (d := (some 102)) (v := (ivV A.two A.three A.five A.root)) rfl rfl (by kernel_rfl) (by kernel_rfl) (by kernel_rfl) (fun _ _ _ h => h) (Or.inl ⟨by kernel_rfl, ?_⟩) (by assumption) ?_
          · intro wS hSw
            (try dsimp only at hSw)
            go_simp
          (try simp only [Act.put]); (try simp only [List.setIfInBounds_toArray]); (try simp only [List.set_cons_succ]); (try simp only [List.set_cons_zero])
          refine wpAnyH_ready (rs := [10]) (by kernel_rfl) (by simp) ?_
          refine AllReadyH.cons rfl (fun K hK => ?_) AllReadyH.nil
          go_simp
          refine hK.out _ _ ?_ (fun hHeld => ?_)
          · exact trip_cells (trip_keep (((Below.refl _ _).alloc (Nat.le_refl _) _).drew) TB.out)
          clear hK K
          (try simp only [Act.put]); (try simp only [List.setIfInBounds_toArray]); (try simp only [List.set_cons_succ]); (try simp only [List.set_cons_zero])
          rw [← HW2.out] at hHeld ⊢
          rw [← HML.out]
          obtain ⟨g0, g1, g2, g3⟩ := QH.out
          refine takeD (i := 12) (d := (some 100)) (v := (.pointer (some ⟨mL, g * 4, none⟩))) rfl rfl (by kernel_rfl) (by kernel_rfl) (by kernel_rfl) (fun _ _ _ h => h) (Or.inl ⟨by kernel_rfl, ?_⟩) (by assumption) ?_
          · intro wS hSw
            (try dsimp only at hSw)
            go_simp
          (try simp only [Act.put]); (try simp only [List.setIfInBounds_toArray]); (try simp only [List.set_cons_succ]); (try simp only [List.set_cons_zero])
          refine wpAnyH_ready (rs := [13]) (by kernel_rfl) (by simp) ?_
          refine AllReadyH.cons rfl (fun K hK => ?_) AllReadyH.nil
          go_simp
          refine hK.out _ _ ?_ (fun hHeld => ?_)
          · assumption
          clear hK K g0 g1 g2 g3
          (try simp only [Act.put]); (try simp only [List.setIfInBounds_toArray]); (try simp only [List.set_cons_succ]); (try simp only [List.set_cons_zero])
          refine wpAnyH_ready (rs := [15]) (by kernel_rfl) (by simp) ?_
          refine AllReadyH.cons rfl (fun K hK => ?_) AllReadyH.nil
          go_simp
          refine (calls_fromS (W := W2) (by with_reducible first | assumption | exact Below.refl _ _) (cmp_pick K8 _ (senAt_below HS2.out (by with_reducible first | assumption | exact Below.refl _ _)))).mono ?_
          rintro e1 w1 ⟨rfl, hb⟩
          go_wp2_with fail
          refine hK.out _ _ ?_ (fun hHeld => ?_)
          · exact trip_cells (trip_keep hb TB2.out)
          clear hK K
          (try simp only [Act.put]); (try simp only [List.setIfInBounds_toArray]); (try simp only [List.set_cons_succ]); (try simp only [List.set_cons_zero])
          refine takeD (i := 16) (d := (some 104)) (v := (.bool true)) rfl rfl (by kernel_rfl) (by kernel_rfl) (by kernel_rfl) (fun _ _ _ h => h) (Or.inl ⟨by kernel_rfl, ?_⟩) (by assumption) ?_
          · intro wS hSw
            (try dsimp only at hSw)
            go_simp
          (try simp only [Act.put]); (try simp only [List.setIfInBounds_toArray]); (try simp only [List.set_cons_succ]); (try simp only [List.set_cons_zero])
          refine takeD (i := 17) (d := (some 105)) (v := (.bool true)) rfl rfl (by kernel_rfl) (by kernel_rfl) (by kernel_rfl) (fun _ _ _ h => h) (Or.inl ⟨by kernel_rfl, ?_⟩) (by assumption) ?_
          · intro wS hSw
            (try dsimp only at hSw)
            go_simp
          (try simp only [Act.put]); (try simp only [List.setIfInBounds_toArray]); (try simp only [List.set_cons_succ]); (try simp only [List.set_cons_zero])
          refine takeD (i := 18) (d := (some 106)) (v := (.bool true)) rfl rfl (by kernel_rfl) (by kernel_rfl) (by kernel_rfl) (fun _ _ _ h => h) (Or.inl ⟨by kernel_rfl, ?_⟩) (by assumption) ?_
          · intro wS hSw
            (try dsimp only at hSw)
            go_simp
          (try simp only [Act.put]); (try simp only [List.setIfInBounds_toArray]); (try simp only [List.set_cons_succ]); (try simp only [List.set_cons_zero])
          refine takeD (i := 19) (d := (some 107)) (v := (ivV B.two B.three B.five B.root)) rfl rfl (by kernel_rfl) (by kernel_rfl) (by kernel_rfl) (fun _ _ _ h => h) (Or.inl ⟨by kernel_rfl, ?_⟩) (by assumption) ?_
          · intro wS hSw
            (try dsimp only at hSw)
            go_simp
          (try simp only [Act.put]); (try simp only [List.setIfInBounds_toArray]); (try simp only [List.set_cons_succ]); (try simp only [List.set_cons_zero])
          refine takeD (i := 20) (d := (some 108)) (v := (ivV A.two A.three A.five A.root)) rfl rfl (by kernel_rfl) (by kernel_rfl) (by kernel_rfl) (fun _ _ _ h => h) (Or.inl ⟨by kernel_rfl, ?_⟩) (by assumption) ?_
          · intro wS hSw
            (try dsimp only at hSw)
            go_simp
          (try simp only [Act.put]); (try simp only [List.setIfInBounds_toArray]); (try simp only [List.set_cons_succ]); (try simp only [List.set_cons_zero])
          refine takeD (i := 21) (d := (some 109)) (v := (ivV C.two C.three C.five C.root)) rfl rfl (by kernel_rfl) (by kernel_rfl) (by kernel_rfl) (fun _ _ _ h => h) (Or.inl ⟨by kernel_rfl, ?_⟩) (by assumption) ?_
          · intro wS hSw
            (try dsimp only at hSw)
            go_simp
          (try simp only [Act.put]); (try simp only [List.setIfInBounds_toArray]); (try simp only [List.set_cons_succ]); (try simp only [List.set_cons_zero])
          refine takeD (i := 23) (d := (some 111)) (v := (.int .i64 x)) rfl rfl (by kernel_rfl) (by kernel_rfl) (by kernel_rfl) (fun _ _ _ h => h) (Or.inl ⟨by kernel_rfl, ?_⟩) (by assumption) ?_
          · intro wS hSw
            (try dsimp only at hSw)
            go_simp
          (try simp only [Act.put]); (try simp only [List.setIfInBounds_toArray]); (try simp only [List.set_cons_succ]); (try simp only [List.set_cons_zero])
          refine takeD (i := 24) (d := (some 112)) (v := (.bool true)) rfl rfl (by kernel_rfl) (by kernel_rfl) (by kernel_rfl) (fun _ _ _ h => h) (Or.inl ⟨by kernel_rfl, ?_⟩) (by assumption) ?_
          · intro wS hSw
            (try dsimp only at hSw)
            go_simp
          (try simp only [Act.put]); (try simp only [List.setIfInBounds_toArray]); (try simp only [List.set_cons_succ]); (try simp only [List.set_cons_zero])
          refine wpAnyH_ready (rs := [22]) (by kernel_rfl) (by simp) ?_
          refine AllReadyH.cons rfl (fun K hK => ?_) AllReadyH.nil
          go_simp
          refine (calls_fromS (W := W2) (by with_reducible first | assumption | exact Below.refl _ _) (is_pick K9 _ (senAt_below HS2.out (by with_reducible first | assumption | exact Below.refl _ _)))).mono ?_
          rintro e1 w1 ⟨rfl, hb⟩
          go_wp2_with fail
          refine hK.out _ _ ?_ (fun hHeld => ?_)
          · exact trip_cells (trip_keep hb TB2.out)
          clear hK K
          (try simp only [Act.put]); (try simp only [List.setIfInBounds_toArray]); (try simp only [List.set_cons_succ]); (try simp only [List.set_cons_zero])
          refine takeD (i := 25) (d := (some 113)) (v := (.bool true)) rfl rfl (by kernel_rfl) (by kernel_rfl) (by kernel_rfl) (fun _ _ _ h => h) (Or.inl ⟨by kernel_rfl, ?_⟩) (by assumption) ?_
          · intro wS hSw
            (try dsimp only at hSw)
            go_simp
          (try simp only [Act.put]); (try simp only [List.setIfInBounds_toArray]); (try simp only [List.set_cons_succ]); (try simp only [List.set_cons_zero])
          refine takeD (i := 26) (d := (some 114)) (v := (.int .i64 y)) rfl rfl (by kernel_rfl) (by kernel_rfl) (by kernel_rfl) (fun _ _ _ h => h) (Or.inl ⟨by kernel_rfl, ?_⟩) (by assumption) ?_
          · intro wS hSw
            (try dsimp only at hSw)
            go_simp
          (try simp only [Act.put]); (try simp only [List.setIfInBounds_toArray]); (try simp only [List.set_cons_succ]); (try simp only [List.set_cons_zero])
          refine takeD (i := 27) (d := (some 115)) (v := (.bool yb)) rfl rfl (by kernel_rfl) (by kernel_rfl) (by kernel_rfl) (fun _ _ _ h => h) (Or.inl ⟨by kernel_rfl, ?_⟩) (by assumption) ?_
          · intro wS hSw
            (try dsimp only at hSw)
            go_simp
          (try simp only [Act.put]); (try simp only [List.setIfInBounds_toArray]); (try simp only [List.set_cons_succ]); (try simp only [List.set_cons_zero])
          refine takeD (i := 28) (d := (some 116)) (v := (.bool yb)) rfl rfl (by kernel_rfl) (by kernel_rfl) (by kernel_rfl) (fun _ _ _ h => h) (Or.inl ⟨by kernel_rfl, ?_⟩) (by assumption) ?_
          · intro wS hSw
            (try dsimp only at hSw)
            go_simp
          (try simp only [Act.put]); (try simp only [List.setIfInBounds_toArray]); (try simp only [List.set_cons_succ]); (try simp only [List.set_cons_zero])
          refine takeD (i := 29) (d := (some 117)) (v := (.bool true)) rfl rfl (by kernel_rfl) (by kernel_rfl) (by kernel_rfl) (fun _ _ _ h => h) (Or.inl ⟨by kernel_rfl, ?_⟩) (by assumption) ?_
          · intro wS hSw
            (try dsimp only at hSw)
            go_simp
          (try simp only [Act.put]); (try simp only [List.setIfInBounds_toArray]); (try simp only [List.set_cons_succ]); (try simp only [List.set_cons_zero])
          refine takeD (i := 30) (d := (some 118)) (v := (.bool true)) rfl rfl (by kernel_rfl) (by kernel_rfl) (by kernel_rfl) (fun _ _ _ h => h) (Or.inl ⟨by kernel_rfl, ?_⟩) (by assumption) ?_
          · intro wS hSw
            (try dsimp only at hSw)
            go_simp
          (try simp only [Act.put]); (try simp only [List.setIfInBounds_toArray]); (try simp only [List.set_cons_succ]); (try simp only [List.set_cons_zero])
          refine takeD (i := 31) (d := (some 2)) (v := (.bool true)) rfl rfl (by kernel_rfl) (by kernel_rfl) (by kernel_rfl) (fun _ _ _ h => h) (Or.inl ⟨by kernel_rfl, ?_⟩) (by assumption) ?_
          · intro wS hSw
            (try dsimp only at hSw)
            go_simp
          (try simp only [Act.put]); (try simp only [List.setIfInBounds_toArray]); (try simp only [List.set_cons_succ]); (try simp only [List.set_cons_zero])
          refine wpAnyH_done (by kernel_rfl) ?_ _
          go_wp2_with fail
          go_ret
          exact ⟨rfl, BB2.out.trans (hb.mono BB2.out.size)⟩
        · have K9 : IsPick P B.two B.three B.five B.root A.two A.three A.five A.root C.two C.three C.five C.root false := by
            have := KB.out
            rw [decide_eq_false hx, Bool.false_and] at this
            exact this
          have K8 := KC.out
          have hc0 := KC0.out
          have hx' : decide (x ≤ 0) = false := decide_eq_false hx
          refine wp_region_held_drew (S := (fun w' => w'.cell? ⟨mA, 0, none⟩ = some (.int .i64 A.two) ∧ w'.cell? ⟨mA, 1, none⟩ = some (.int .i64 A.three) ∧ w'.cell? ⟨mA, 2, none⟩ = some (.int .i64 A.five) ∧ w'.cell? ⟨mA, 3, none⟩ = some (.int .i64 A.root) ∧ w'.cell? ⟨mB, 0, none⟩ = some (.int .i64 B.two) ∧ w'.cell? ⟨mB, 1, none⟩ = some (.int .i64 B.three) ∧ w'.cell? ⟨mB, 2, none⟩ = some (.int .i64 B.five) ∧ w'.cell? ⟨mB, 3, none⟩ = some (.int .i64 B.root) ∧ w'.cell? ⟨mC, 0, none⟩ = some (.int .i64 C.two) ∧ w'.cell? ⟨mC, 1, none⟩ = some (.int .i64 C.three) ∧ w'.cell? ⟨mC, 2, none⟩ = some (.int .i64 C.five) ∧ w'.cell? ⟨mC, 3, none⟩ = some (.int .i64 C.root))) (by kernel_rfl) ?_ (fun hHeld => ?_)
          · exact trip_cells (trip_drew TB.out)
          refine takeD (i := 0) (d := (some 88)) (v := (.int .i64 (g : Int))) rfl rfl (by kernel_rfl) (by kernel_rfl) (by kernel_rfl) (fun _ _ _ h => h) (Or.inl ⟨by kernel_rfl, ?_⟩) (by assumption) ?_
          · intro wS hSw
            (try dsimp only at hSw)
            go_simp
          (try simp only [Act.put]); (try simp only [List.setIfInBounds_toArray]); (try simp only [List.set_cons_succ]); (try simp only [List.set_cons_zero])
          refine takeD (i := 1) (d := (some 89)) (v := (.bool true)) rfl rfl (by kernel_rfl) (by kernel_rfl) (by kernel_rfl) (fun _ _ _ h => h) (Or.inl ⟨by kernel_rfl, ?_⟩) (by assumption) ?_
          · intro wS hSw
            (try dsimp only at hSw)
            go_simp
          (try simp only [Act.put]); (try simp only [List.setIfInBounds_toArray]); (try simp only [List.set_cons_succ]); (try simp only [List.set_cons_zero])
          refine takeD (i := 2) (d := (some 90)) (v := (.bool true)) rfl rfl (by kernel_rfl) (by kernel_rfl) (by kernel_rfl) (fun _ _ _ h => h) (Or.inl ⟨by kernel_rfl, ?_⟩) (by assumption) ?_
          · intro wS hSw
            (try dsimp only at hSw)
            go_simp
          (try simp only [Act.put]); (try simp only [List.setIfInBounds_toArray]); (try simp only [List.set_cons_succ]); (try simp only [List.set_cons_zero])
          refine takeD (i := 3) (d := (some 91)) (v := (.int .i64 (g : Int))) rfl rfl (by kernel_rfl) (by kernel_rfl) (by kernel_rfl) (fun _ _ _ h => h) (Or.inl ⟨by kernel_rfl, ?_⟩) (by assumption) ?_
          · intro wS hSw
            (try dsimp only at hSw)
            go_simp
          (try simp only [Act.put]); (try simp only [List.setIfInBounds_toArray]); (try simp only [List.set_cons_succ]); (try simp only [List.set_cons_zero])
          refine takeD (i := 4) (d := (some 92)) (v := (.bool true)) rfl rfl (by kernel_rfl) (by kernel_rfl) (by kernel_rfl) (fun _ _ _ h => h) (Or.inl ⟨by kernel_rfl, ?_⟩) (by assumption) ?_
          · intro wS hSw
            (try dsimp only at hSw)
            go_simp
          (try simp only [Act.put]); (try simp only [List.setIfInBounds_toArray]); (try simp only [List.set_cons_succ]); (try simp only [List.set_cons_zero])
          refine takeD (i := 5) (d := (some 93)) (v := (.bool true)) rfl rfl (by kernel_rfl) (by kernel_rfl) (by kernel_rfl) (fun _ _ _ h => h) (Or.inl ⟨by kernel_rfl, ?_⟩) (by assumption) ?_
          · intro wS hSw
            (try dsimp only at hSw)
            go_simp
          (try simp only [Act.put]); (try simp only [List.setIfInBounds_toArray]); (try simp only [List.set_cons_succ]); (try simp only [List.set_cons_zero])
          refine takeD (i := 6) (d := (some 94)) (v := (.bool true)) rfl rfl (by kernel_rfl) (by kernel_rfl) (by kernel_rfl) (fun _ _ _ h => h) (Or.inl ⟨by kernel_rfl, ?_⟩) (by assumption) ?_
          · intro wS hSw
            (try dsimp only at hSw)
            go_simp
          (try simp only [Act.put]); (try simp only [List.setIfInBounds_toArray]); (try simp only [List.set_cons_succ]); (try simp only [List.set_cons_zero])
          refine takeD (i := 7) (d := (some 95)) (v := (ivV A.two A.three A.five A.root)) rfl rfl (by kernel_rfl) (by kernel_rfl) (by kernel_rfl) (fun _ _ _ h => h) (Or.inl ⟨by kernel_rfl, ?_⟩) (by assumption) ?_
          · intro wS hSw
            (try dsimp only at hSw)
            go_simp
          (try simp only [Act.put]); (try simp only [List.setIfInBounds_toArray]); (try simp only [List.set_cons_succ]); (try simp only [List.set_cons_zero])
          refine takeD (i := 8) (d := (some 96)) (v := (ivV B.two B.three B.five B.root)) rfl rfl (by kernel_rfl) (by kernel_rfl) (by kernel_rfl) (fun _ _ _ h => h) (Or.inl ⟨by kernel_rfl, ?_⟩) (by assumption) ?_
          · intro wS hSw
            (try dsimp only at hSw)
            go_simp
          (try simp only [Act.put]); (try simp only [List.setIfInBounds_toArray]); (try simp only [List.set_cons_succ]); (try simp only [List.set_cons_zero])
          refine takeD (i := 9) (d := (some 97)) (v := (ivV C.two C.three C.five C.root)) rfl rfl (by kernel_rfl) (by kernel_rfl) (by kernel_rfl) (fun _ _ _ h => h) (Or.inl ⟨by kernel_rfl, ?_⟩) (by assumption) ?_
          · intro wS hSw
            (try dsimp only at hSw)
            go_simp
          (try simp only [Act.put]); (try simp only [List.setIfInBounds_toArray]); (try simp only [List.set_cons_succ]); (try simp only [List.set_cons_zero])
          refine takeD (i := 11) (d := (some 99)) (v := (.int .i64 (g : Int))) rfl rfl (by kernel_rfl) (by kernel_rfl) (by kernel_rfl) (fun _ _ _ h => h) (Or.inl ⟨by kernel_rfl, ?_⟩) (by assumption) ?_
          · intro wS hSw
            (try dsimp only at hSw)
            go_simp
          (try simp only [Act.put]); (try simp only [List.setIfInBounds_toArray]); (try simp only [List.set_cons_succ]); (try simp only [List.set_cons_zero])
          refine takeD (i := 14) (d := (some 102)) (v := (ivV A.two A.three A.five A.root)) rfl rfl (by kernel_rfl) (by kernel_rfl) (by kernel_rfl) (fun _ _ _ h => h) (Or.inl ⟨by kernel_rfl, ?_⟩) (by assumption) ?_
          · intro wS hSw
            (try dsimp only at hSw)
            go_simp
          (try simp only [Act.put]); (try simp only [List.setIfInBounds_toArray]); (try simp only [List.set_cons_succ]); (try simp only [List.set_cons_zero])
          refine wpAnyH_ready (rs := [10]) (by kernel_rfl) (by simp) ?_
          refine AllReadyH.cons rfl (fun K hK => ?_) AllReadyH.nil
          go_simp
          refine hK.out _ _ ?_ (fun hHeld => ?_)
          · exact trip_cells (trip_keep (((Below.refl _ _).alloc (Nat.le_refl _) _).drew) TB.out)
          clear hK K
          (try simp only [Act.put]); (try simp only [List.setIfInBounds_toArray]); (try simp only [List.set_cons_succ]); (try simp only [List.set_cons_zero])
          rw [← HW2.out] at hHeld ⊢
          rw [← HML.out]
          obtain ⟨g0, g1, g2, g3⟩ := QH.out
          refine takeD (i := 12) (d := (some 100)) (v := (.pointer (some ⟨mL, g * 4, none⟩))) rfl rfl (by kernel_rfl) (by kernel_rfl) (by kernel_rfl) (fun _ _ _ h => h) (Or.inl ⟨by kernel_rfl, ?_⟩) (by assumption) ?_
          · intro wS hSw
            (try dsimp only at hSw)
            go_simp
          (try simp only [Act.put]); (try simp only [List.setIfInBounds_toArray]); (try simp only [List.set_cons_succ]); (try simp only [List.set_cons_zero])
          refine wpAnyH_ready (rs := [13]) (by kernel_rfl) (by simp) ?_
          refine AllReadyH.cons rfl (fun K hK => ?_) AllReadyH.nil
          go_simp
          refine hK.out _ _ ?_ (fun hHeld => ?_)
          · assumption
          clear hK K g0 g1 g2 g3
          (try simp only [Act.put]); (try simp only [List.setIfInBounds_toArray]); (try simp only [List.set_cons_succ]); (try simp only [List.set_cons_zero])
          refine wpAnyH_ready (rs := [15]) (by kernel_rfl) (by simp) ?_
          refine AllReadyH.cons rfl (fun K hK => ?_) AllReadyH.nil
          go_simp
          refine (calls_fromS (W := W2) (by with_reducible first | assumption | exact Below.refl _ _) (cmp_pick K8 _ (senAt_below HS2.out (by with_reducible first | assumption | exact Below.refl _ _)))).mono ?_
          rintro e1 w1 ⟨rfl, hb⟩
          go_wp2_with fail
          refine hK.out _ _ ?_ (fun hHeld => ?_)
          · exact trip_cells (trip_keep hb TB2.out)
          clear hK K
          (try simp only [Act.put]); (try simp only [List.setIfInBounds_toArray]); (try simp only [List.set_cons_succ]); (try simp only [List.set_cons_zero])
          refine takeD (i := 16) (d := (some 104)) (v := (.bool true)) rfl rfl (by kernel_rfl) (by kernel_rfl) (by kernel_rfl) (fun _ _ _ h => h) (Or.inl ⟨by kernel_rfl, ?_⟩) (by assumption) ?_
          · intro wS hSw
            (try dsimp only at hSw)
            go_simp
          (try simp only [Act.put]); (try simp only [List.setIfInBounds_toArray]); (try simp only [List.set_cons_succ]); (try simp only [List.set_cons_zero])
          refine takeD (i := 17) (d := (some 105)) (v := (.bool true)) rfl rfl (by kernel_rfl) (by kernel_rfl) (by kernel_rfl) (fun _ _ _ h => h) (Or.inl ⟨by kernel_rfl, ?_⟩) (by assumption) ?_
          · intro wS hSw
            (try dsimp only at hSw)
            go_simp
          (try simp only [Act.put]); (try simp only [List.setIfInBounds_toArray]); (try simp only [List.set_cons_succ]); (try simp only [List.set_cons_zero])
          refine takeD (i := 18) (d := (some 106)) (v := (.bool true)) rfl rfl (by kernel_rfl) (by kernel_rfl) (by kernel_rfl) (fun _ _ _ h => h) (Or.inl ⟨by kernel_rfl, ?_⟩) (by assumption) ?_
          · intro wS hSw
            (try dsimp only at hSw)
            go_simp
          (try simp only [Act.put]); (try simp only [List.setIfInBounds_toArray]); (try simp only [List.set_cons_succ]); (try simp only [List.set_cons_zero])
          refine takeD (i := 19) (d := (some 107)) (v := (ivV B.two B.three B.five B.root)) rfl rfl (by kernel_rfl) (by kernel_rfl) (by kernel_rfl) (fun _ _ _ h => h) (Or.inl ⟨by kernel_rfl, ?_⟩) (by assumption) ?_
          · intro wS hSw
            (try dsimp only at hSw)
            go_simp
          (try simp only [Act.put]); (try simp only [List.setIfInBounds_toArray]); (try simp only [List.set_cons_succ]); (try simp only [List.set_cons_zero])
          refine takeD (i := 20) (d := (some 108)) (v := (ivV A.two A.three A.five A.root)) rfl rfl (by kernel_rfl) (by kernel_rfl) (by kernel_rfl) (fun _ _ _ h => h) (Or.inl ⟨by kernel_rfl, ?_⟩) (by assumption) ?_
          · intro wS hSw
            (try dsimp only at hSw)
            go_simp
          (try simp only [Act.put]); (try simp only [List.setIfInBounds_toArray]); (try simp only [List.set_cons_succ]); (try simp only [List.set_cons_zero])
          refine takeD (i := 21) (d := (some 109)) (v := (ivV C.two C.three C.five C.root)) rfl rfl (by kernel_rfl) (by kernel_rfl) (by kernel_rfl) (fun _ _ _ h => h) (Or.inl ⟨by kernel_rfl, ?_⟩) (by assumption) ?_
          · intro wS hSw
            (try dsimp only at hSw)
            go_simp
          (try simp only [Act.put]); (try simp only [List.setIfInBounds_toArray]); (try simp only [List.set_cons_succ]); (try simp only [List.set_cons_zero])
          refine takeD (i := 23) (d := (some 111)) (v := (.int .i64 x)) rfl rfl (by kernel_rfl) (by kernel_rfl) (by kernel_rfl) (fun _ _ _ h => h) (Or.inl ⟨by kernel_rfl, ?_⟩) (by assumption) ?_
          · intro wS hSw
            (try dsimp only at hSw)
            go_simp
          (try simp only [Act.put]); (try simp only [List.setIfInBounds_toArray]); (try simp only [List.set_cons_succ]); (try simp only [List.set_cons_zero])
          refine takeD (i := 24) (d := (some 112)) (v := (.bool false)) rfl rfl (by kernel_rfl) (by kernel_rfl) (by kernel_rfl) (fun _ _ _ h => h) (Or.inl ⟨by kernel_rfl, ?_⟩) (by assumption) ?_
          · intro wS hSw
            (try dsimp only at hSw)
            go_simp
          (try simp only [Act.put]); (try simp only [List.setIfInBounds_toArray]); (try simp only [List.set_cons_succ]); (try simp only [List.set_cons_zero])
          refine wpAnyH_ready (rs := [22]) (by kernel_rfl) (by simp) ?_
          refine AllReadyH.cons rfl (fun K hK => ?_) AllReadyH.nil
          go_simp
          refine (calls_fromS (W := W2) (by with_reducible first | assumption | exact Below.refl _ _) (is_pick K9 _ (senAt_below HS2.out (by with_reducible first | assumption | exact Below.refl _ _)))).mono ?_
          rintro e1 w1 ⟨rfl, hb⟩
          go_wp2_with fail
          refine hK.out _ _ ?_ (fun hHeld => ?_)
          · exact trip_cells (trip_keep hb TB2.out)
          clear hK K
          (try simp only [Act.put]); (try simp only [List.setIfInBounds_toArray]); (try simp only [List.set_cons_succ]); (try simp only [List.set_cons_zero])
          refine takeD (i := 25) (d := (some 113)) (v := (.bool false)) rfl rfl (by kernel_rfl) (by kernel_rfl) (by kernel_rfl) (fun _ _ _ h => h) (Or.inl ⟨by kernel_rfl, ?_⟩) (by assumption) ?_
          · intro wS hSw
            (try dsimp only at hSw)
            go_simp
          (try simp only [Act.put]); (try simp only [List.setIfInBounds_toArray]); (try simp only [List.set_cons_succ]); (try simp only [List.set_cons_zero])
          refine takeD (i := 26) (d := (some 114)) (v := undef) rfl rfl (by kernel_rfl) (by kernel_rfl) (by kernel_rfl) (fun _ _ _ h => h) (Or.inr ⟨by kernel_rfl, rfl⟩) (by assumption) ?_
          (try simp only [Act.put]); (try simp only [List.setIfInBounds_toArray]); (try simp only [List.set_cons_succ]); (try simp only [List.set_cons_zero])
          refine takeD (i := 27) (d := (some 115)) (v := undef) rfl rfl (by kernel_rfl) (by kernel_rfl) (by kernel_rfl) (fun _ _ _ h => h) (Or.inr ⟨by kernel_rfl, rfl⟩) (by assumption) ?_
          (try simp only [Act.put]); (try simp only [List.setIfInBounds_toArray]); (try simp only [List.set_cons_succ]); (try simp only [List.set_cons_zero])
          refine takeD (i := 28) (d := (some 116)) (v := (.bool false)) rfl rfl (by kernel_rfl) (by kernel_rfl) (by kernel_rfl) (fun _ _ _ h => h) (Or.inl ⟨by kernel_rfl, ?_⟩) (by assumption) ?_
          · intro wS hSw
            (try dsimp only at hSw)
            go_simp
          (try simp only [Act.put]); (try simp only [List.setIfInBounds_toArray]); (try simp only [List.set_cons_succ]); (try simp only [List.set_cons_zero])
          refine takeD (i := 29) (d := (some 117)) (v := (.bool true)) rfl rfl (by kernel_rfl) (by kernel_rfl) (by kernel_rfl) (fun _ _ _ h => h) (Or.inl ⟨by kernel_rfl, ?_⟩) (by assumption) ?_
          · intro wS hSw
            (try dsimp only at hSw)
            go_simp
          (try simp only [Act.put]); (try simp only [List.setIfInBounds_toArray]); (try simp only [List.set_cons_succ]); (try simp only [List.set_cons_zero])
          refine takeD (i := 30) (d := (some 118)) (v := (.bool true)) rfl rfl (by kernel_rfl) (by kernel_rfl) (by kernel_rfl) (fun _ _ _ h => h) (Or.inl ⟨by kernel_rfl, ?_⟩) (by assumption) ?_
          · intro wS hSw
            (try dsimp only at hSw)
            go_simp
          (try simp only [Act.put]); (try simp only [List.setIfInBounds_toArray]); (try simp only [List.set_cons_succ]); (try simp only [List.set_cons_zero])
          refine takeD (i := 31) (d := (some 2)) (v := (.bool true)) rfl rfl (by kernel_rfl) (by kernel_rfl) (by kernel_rfl) (fun _ _ _ h => h) (Or.inl ⟨by kernel_rfl, ?_⟩) (by assumption) ?_
          · intro wS hSw
            (try dsimp only at hSw)
            go_simp
          (try simp only [Act.put]); (try simp only [List.setIfInBounds_toArray]); (try simp only [List.set_cons_succ]); (try simp only [List.set_cons_zero])
          refine wpAnyH_done (by kernel_rfl) ?_ _
          go_wp2_with fail
          go_ret
          exact ⟨rfl, BB2.out.trans (hb.mono BB2.out.size)⟩
end Go.Proofs.YtdnlebijmiaclabDoor
