/- The walk of laws.FnPlans over the program's contracts. -/
import Derived.Test.YtcddmmepphihjaaPlanImpl
import Derived.Test.YtcddmmepphihjaaDrawPlan
import Derived.Test.YtcddmmepphihjaaTuneLaw
import Derived.Test.YtcddmmepphihjaaKeysSay
namespace Go.Proofs.Ytcddmmepphihjaa
open Go.RowKit Go.Joins
set_option linter.unusedVariables false
/-- A step in a block and two pitches of a row. -/
def StepTwo (m g k T : Nat) (kk kt kd bt P Q : Int) (w : World) : Prop := Four m kk kt kd bt w ∧ OneL g k P w ∧ OneL g T Q w
theorem stepTwo_keep {m g k T : Nat} {kk kt kd bt P Q : Int} {w w' : World} (hb : Below w.heap.size w w') (h : StepTwo m g k T kk kt kd bt P Q w) : StepTwo m g k T kk kt kd bt P Q w' := ⟨four_keep hb h.1, oneL_keep hb h.2.1, oneL_keep hb h.2.2⟩
theorem stepTwo_cells {m g k T : Nat} {kk kt kd bt P Q : Int} {w : World} (h : StepTwo m g k T kk kt kd bt P Q w) : w.cell? ⟨m, 0, none⟩ = some (.int .i64 kk) ∧ w.cell? ⟨m, 1, none⟩ = some (.int .i64 kt) ∧ w.cell? ⟨m, 2, none⟩ = some (.int .i64 kd) ∧ w.cell? ⟨g, k, none⟩ = some (.int .i64 P) ∧ w.cell? ⟨g, T, none⟩ = some (.int .i64 Q) :=
  ⟨h.1.2.1, h.1.2.2.1, h.1.2.2.2.1, h.2.1.2, h.2.2.2⟩
set_option maxRecDepth 100000 in
set_option maxHeartbeats 8000000 in
theorem walk_FnPlansBy (RI : RunImpl) (KI : KeysImpl) (HI : HdImpl) (UI : UsualImpl) (PI : PlanOkImpl) (CI : ClosImpl19) (a0 : Option Addr) (len0 cap0 : Nat) (z0 : List Int) (w : World) (hr : IsRow .u8 w a0 len0 cap0 z0) :
    Calls Try.prog 4 #[.slice a0 len0 cap0] w fun e w' => e = .returned (.bool true) ∧ Below w.heap.size w w' := by
  have hlen := (row_len hr).2
  by_cases hbig : 1048576 < len0
  · have t0 : decide (1048576 < (len0 : Int)) = true := by simp; omega
    go_enter Try.func4, Try.ntmps4
    go_wp2_with fail
    refine (bigA_any _ _ _ _ hlen).mono ?_
    rintro e w' ⟨rfl, rfl⟩
    go_wp2_with fail
    go_ret
    exact ⟨rfl, Below.refl _ _⟩
  · have t0 : decide (1048576 < (len0 : Int)) = false := by simp; omega
    have HLEN := Lib.hid hlen
    have HR := Lib.hid hr
    have HL := Lib.hid (show len0 ≤ 1048576 by omega)
    clear hr hbig hlen
    go_enter Try.func4, Try.ntmps4
    go_wp2_with fail
    refine (bigA_any _ _ _ _ HLEN.out).mono ?_
    rintro e w' ⟨rfl, rfl⟩
    rw [t0]
    clear t0
    go_wp2_with fail
    refine (drawPlan_any HR.out).mono ?_
    rintro e w1 ⟨s, xs, p, c, hd, rfl, ho, b1⟩
    replace hd := dr_wide hd
    have hx2 : xs.length ≤ 2000000 := by have := hd.2.1; omega
    have CR := Lib.hid (fun (W : World) (h : W.ownsRow w.heap.size 36 4 (.slice p xs.length c) xs.length (ivCs xs)) => RI s W _ _ xs hx2 h)
    rw [(run_yes (dr_run hd)).1, (run_yes (dr_run hd)).2] at CR
    have CK : Hid (∀ (V : World), V.ownsRow w.heap.size 36 4 (.slice p xs.length c) xs.length (ivCs xs) → KeysAt 18 (.slice p xs.length c) (keysL xs) V) := Lib.hid (fun V hV X hX => KI X _ _ xs hx2 (own4_below hV hX))
    have CC := Lib.hid (fun (W : World) (h : W.ownsRow w.heap.size 36 4 (.slice p xs.length c) xs.length (ivCs xs)) => CI s W _ _ xs hx2 h)
    have HH := Lib.hid (fun k hk => dr_heard hd (k := k) hk)
    have HS := Lib.hid (fun i hi => dr_sounds hd (i := i) hi)
    have HC := Lib.hid (dr_close hd)
    have HK := Lib.hid (keys_len (dr_plok hd))
    have HG := Lib.hid (dr_plok hd)
    have HP0 : Hid ((pitL s xs xs.length).getD 0 0 = s) := Lib.hid (by rw [pitL_at _ _ _ (by omega)]; exact if_pos (by omega))
    have HPK : Hid (∀ k, k ≤ xs.length → (pitL s xs xs.length).getD k 0 = pitK s xs k) := Lib.hid (fun k hk => by rw [pitL_at _ _ _ (by have := hd.2.1; omega)]; exact if_pos hk)
    have HPL := Lib.hid (pitL_len s xs xs.length)
    have hn11 : xs.length ≤ 11 := hd.2.1
    obtain ⟨n, hn⟩ : ∃ n, n = xs.length := ⟨_, rfl⟩
    rw [← hn] at ho CR CK CC HH HS HK HP0 HPK HPL hn11 hx2 ⊢
    have HN := Lib.hid hn
    obtain ⟨ks, hks⟩ : ∃ ks, ks = keysL xs := ⟨_, rfl⟩
    rw [← hks] at CK HS HC HK
    obtain ⟨pl, hpl⟩ : ∃ pl, pl = pitL s xs n := ⟨_, rfl⟩
    rw [← hpl] at CR HS HP0 HPK HPL
    obtain ⟨cv, hcv⟩ : ∃ cv, cv = closV s xs := ⟨_, rfl⟩
    rw [← hcv] at CC HC
    have O1 := Lib.hid ho
    have B1 := Lib.hid b1
    clear hd hn hks hpl hcv ho b1 RI KI CI
    go_wp2_with fail
    refine (CR.out _ O1.out).mono ?_
    rintro e w2 ⟨v2, rfl, o2, b2⟩
    rw [HPL.out] at o2
    obtain ⟨g, cl, rfl, _, _⟩ := own_pos o2 (by omega)
    have c0 := own_icell o2 0 (by omega)
    rw [HP0.out] at c0
    have L2 := Lib.hid o2
    have O2 := Lib.hid (own4_below O1.out b2)
    have B2 := Lib.hid (B1.out.trans (b2.mono B1.out.size))
    have hgb : g < w2.heap.size := (o2.lt g rfl).2
    have N1 := B1.out.size
    clear o2 b2 O1 B1 CR
    go_wp2_with fail
    refine (CK.out _ O2.out _ (Below.refl _ _)).mono ?_
    rintro e w3 ⟨v3, rfl, o3, b3⟩
    rw [HK.out] at o3
    obtain ⟨g3, c3, rfl, _, _⟩ := own_pos o3 (by omega)
    have L3 := Lib.hid (own_below L2.out b3)
    have O3 := Lib.hid (own4_below O2.out b3)
    have B3 := Lib.hid (B2.out.trans (b3.mono B2.out.size))
    clear o3 b3 L2 O2 B2 c0 hgb
    go_wp2_with fail
    go_loopw [7] (fun i wr => ∃ k : Nat, k ≤ n ∧ i = .int .i64 (k : Int) ∧ Hid (wr.ownsRow w.heap.size 36 4 (.slice p n c) n (ivCs xs)) ∧ Hid (wr.ownsRow w1.heap.size 3 1 (.slice (some ⟨g, 0, none⟩) 12 cl) 12 (intCs pl)) ∧ Hid (Below w.heap.size w wr)) (fun i _ => n - (intOf i).toNat)
    case atStart => exact ⟨0, by omega, by go_num, O3, L3, B3⟩
    case round =>
      obtain ⟨k, hk, rfl, O4, L4, B4⟩ := hrel
      clear O3 L3 B3
      by_cases hlt : k < n
      · have q3 : (k : Int) < n := by omega
        obtain ⟨gx, cx, hgx, _, lgx⟩ := own4_pos O4.out (by omega)
        simp only [Value.slice.injEq, true_and] at hgx
        obtain ⟨rfl, rfl⟩ := hgx
        obtain ⟨kd, bt, hX, hkd, hbt⟩ := good_step HG.out (k := k) (by have := HN.out; omega)
        have r1 := own_iv O4.out HN.out k hlt
        have hh := HH.out k hlt
        rw [hX] at r1 hh
        dsimp only at hh
        obtain ⟨x0, x1, x2, x3⟩ := r1
        dsimp only at x0 x1 x2 x3
        obtain ⟨T, hT⟩ : ∃ T : Nat, T = k + 1 := ⟨_, rfl⟩
        rw [← HPK.out k hk, ← HPK.out (k + 1) hlt, ← hT] at hh
        have x1' : wr.cell? ⟨gx, k * 4 + 1, none⟩ = some (.int .i64 (T : Int)) := by rw [x1, hT]; push_cast; rfl
        have lg := (L4.out.lt g rfl).2
        have cP := own_icell L4.out k (by omega)
        have cQ := own_icell L4.out T (by omega)
        obtain ⟨P, hP⟩ : ∃ P, P = pl.getD k 0 := ⟨_, rfl⟩
        obtain ⟨Q, hQ⟩ : ∃ Q, Q = pl.getD T 0 := ⟨_, rfl⟩
        rw [← hP, ← hQ] at hh
        rw [← hP] at cP
        rw [← hQ] at cQ
        have CH := Lib.hid (fun X => HI P Q kd X)
        obtain ⟨h, hhv⟩ : ∃ h, h = heardV P Q kd := ⟨_, rfl⟩
        rw [← hhv] at CH hh
        obtain ⟨hh1, hh2⟩ := hh
        have t1 : 0 ≤ (T : Int) := by omega
        have t2 : (T : Int) < 12 := by omega
        have k12 : (k : Int) < 12 := by omega
        have hkd1 : 1 ≤ kd ∧ kd ≤ 2 := by omega
        obtain ⟨kd1, kd2⟩ := hkd1
        obtain ⟨bt1, bt2⟩ := hbt
        have HLT := Lib.hid hlt
        have N4 := B4.out.size
        clear hX hT hP hQ hhv hkd x1 hlt
        go_upto_region 11 with fail
        obtain ⟨W1, hW1⟩ : ∃ W, W = wr.alloc (.cells #[.int .i64 (k : Int), .int .i64 (T : Int), .int .i64 kd, .int .i64 bt] 36) := ⟨_, rfl⟩
        have BA : Below wr.heap.size wr W1 := by rw [hW1]; exact below_alloc1 wr _
        have F4 : Four wr.heap.size (k : Int) (T : Int) kd bt W1 := by rw [hW1]; exact four_alloc
        rw [← hW1]
        have ST : Hid (StepTwo wr.heap.size g k T (k : Int) (T : Int) kd bt P Q W1) := Lib.hid ⟨F4, oneL_keep BA ⟨lg, cP⟩, oneL_keep BA ⟨lg, cQ⟩⟩
        have O5 := Lib.hid (own4_below O4.out BA)
        have L5 := Lib.hid (own_below L4.out BA)
        have B5 := Lib.hid (B4.out.trans (BA.mono N4))
        clear hW1 x0 x1' x2 x3 cP cQ F4 BA O4 L4 B4
        generalize wr.heap.size = m1 at ST ⊢
        go_region_held3 (fun w' => w'.cell? ⟨m1, 0, none⟩ = some (.int .i64 (k : Int)) ∧ w'.cell? ⟨m1, 1, none⟩ = some (.int .i64 (T : Int)) ∧ w'.cell? ⟨m1, 2, none⟩ = some (.int .i64 kd) ∧ w'.cell? ⟨g, k, none⟩ = some (.int .i64 P) ∧ w'.cell? ⟨g, T, none⟩ = some (.int .i64 Q)) (with_reducible first | exact stepTwo_cells (stepTwo_keep (Below.refl _ _).drew ST.out) | exact stepTwo_cells (stepTwo_keep (by assumption) ST.out) | exact stepTwo_cells ST.out)
          (first
            | (go_at_call 14; refine (calls_fromF (W := W1) (by with_reducible first | assumption | exact (Below.refl _ _).drew) (CH.out _)).mono ?_; rintro e9 w6 ⟨rfl, b6⟩))
        all_goals
          have ST6 := Lib.hid (stepTwo_keep b6 ST.out)
          have O6 := Lib.hid (own4_below O5.out b6)
          have L6 := Lib.hid (own_below L5.out b6)
          have B6 := Lib.hid (B5.out.trans (b6.mono B5.out.size))
          clear b6 ST O5 L5 B5
          obtain ⟨_, y0, y1, y2, y3⟩ := ST6.out.1
          have e1 : ¬ h < bt := by omega
          have e2 : h < bt + 2 * kd := hh2
          go_wp2_with fail
          go_roundw
          case rel => exact ⟨k + 1, HLT.out, by go_num, O6, L6, B6⟩
          case measure => simp [intOf]; omega
      · obtain rfl : k = n := by omega
        clear hk hlt HH HPK HP0 HI
        go_wp2_with fail
        go_loopw [10] (fun i wr => ∃ i' : Nat, i' ≤ 12 ∧ i = .int .i64 (i' : Int) ∧ Hid (wr.ownsRow w.heap.size 36 4 (.slice p k c) k (ivCs xs)) ∧ Hid (wr.ownsRow w1.heap.size 3 1 (.slice (some ⟨g, 0, none⟩) 12 cl) 12 (intCs pl)) ∧ Hid (Below w.heap.size w wr)) (fun i _ => 12 - (intOf i).toNat)
        case atStart => exact ⟨0, by omega, by go_num, O4, L4, B4⟩
        case round =>
          clear O4 L4 B4
          obtain ⟨i, hi, rfl, O4, L4, B4⟩ := hrel
          by_cases hlt : i < 12
          · have q3 : (i : Int) < 12 := by omega
            have i0 : 0 ≤ (i : Int) := by omega
            have cP := own_icell L4.out i hlt
            have hz := HS.out i hlt
            obtain ⟨P, hP⟩ : ∃ P, P = pl.getD i 0 := ⟨_, rfl⟩
            rw [← hP] at cP hz
            have OL : Hid (OneL g i P wr) := Lib.hid ⟨(L4.out.lt g rfl).2, cP⟩
            have KA := Lib.hid (CK.out wr O4.out)
            have hk2 : ks.length ≤ 2000000 := by have := HK.out; omega
            have HLT := Lib.hid hlt
            clear hP cP hlt
            by_cases h0 : 0 < P
            · rw [decide_eq_true h0] at hz
              have HZ := Lib.hid hz.symm
              clear hz
              go_upto_region 17 with fail
              go_region_held3 (fun w' => w'.cell? ⟨g, i, none⟩ = some (.int .i64 P)) (with_reducible first | exact oneL_cell (oneL_keep (Below.refl _ _).drew OL.out) | exact oneL_cell (oneL_keep (by assumption) OL.out) | exact oneL_cell OL.out)
                (first
                  | (go_at_call 18; refine (keysAt_run KA.out hk2 HZ.out (by with_reducible first | assumption | exact (Below.refl _ _).drew)).mono ?_; rintro e9 w6 ⟨v6, rfl, kh6, b6⟩)
                  | (go_at_call 19; refine (khas_run (W := wr) (by with_reducible assumption) (by with_reducible assumption)).mono ?_; rintro e9 w7 ⟨rfl, b7⟩))
              all_goals
                have O6 := Lib.hid (own4_below O4.out b7)
                have L6 := Lib.hid (own_below L4.out b7)
                have B6 := Lib.hid (B4.out.trans (b7.mono B4.out.size))
                clear b6 b7 kh6 O4 L4 B4 OL KA
                go_wp2_with fail
                go_roundw
                case rel => exact ⟨i + 1, HLT.out, by go_num, O6, L6, B6⟩
                case measure => simp [intOf]; omega
            · rw [decide_eq_false h0] at hz
              have HZ := Lib.hid hz.symm
              clear hz
              go_upto_region 17 with fail
              go_region_held3 (fun w' => w'.cell? ⟨g, i, none⟩ = some (.int .i64 P)) (with_reducible first | exact oneL_cell (oneL_keep (Below.refl _ _).drew OL.out) | exact oneL_cell (oneL_keep (by assumption) OL.out) | exact oneL_cell OL.out)
                (first
                  | (go_at_call 18; refine (keysAt_run KA.out hk2 HZ.out (by with_reducible first | assumption | exact (Below.refl _ _).drew)).mono ?_; rintro e9 w6 ⟨v6, rfl, kh6, b6⟩)
                  | (go_at_call 19; refine (khas_run (W := wr) (by with_reducible assumption) (by with_reducible assumption)).mono ?_; rintro e9 w7 ⟨rfl, b7⟩))
              all_goals
                have O6 := Lib.hid (own4_below O4.out b7)
                have L6 := Lib.hid (own_below L4.out b7)
                have B6 := Lib.hid (B4.out.trans (b7.mono B4.out.size))
                clear b6 b7 kh6 O4 L4 B4 OL KA
                go_wp2_with fail
                go_roundw
                case rel => exact ⟨i + 1, HLT.out, by go_num, O6, L6, B6⟩
                case measure => simp [intOf]; omega
          · obtain rfl : i = 12 := by omega
            obtain ⟨u, hu, hat⟩ := at_fix (HR.out.below B4.out) HL.out 0 (by omega)
            have AT := Lib.hid (hat _ (Below.refl _ _))
            obtain ⟨ul, up⟩ := us_plok (b := (u : Int)) ⟨by omega, by omega⟩
            have UU := Lib.hid (UI (u : Int))
            rw [ul] at UU
            have UP := Lib.hid (show planB (usTo (u : Int) 11) = true from decide_eq_true up)
            have UL := Lib.hid (usTo_len (u : Int) 11)
            obtain ⟨us, hus⟩ : ∃ us, us = usTo (u : Int) 11 := ⟨_, rfl⟩
            rw [← hus] at UU UP UL
            clear hat ul up hus hi L4 HS UI
            go_wp2_with fail
            refine AT.out.mono ?_
            rintro e w5 ⟨rfl, rfl⟩
            go_wp2_with fail
            refine (UU.out _).mono ?_
            rintro e w6 ⟨v6, rfl, o6, b6⟩
            rw [UL.out] at o6
            obtain ⟨g6, c6, rfl, _, _⟩ := own4_pos o6 (by omega)
            have CP := Lib.hid (PI w6 _ _ us (by have := UL.out; omega) (by rw [UL.out]; exact o6))
            rw [UP.out] at CP
            have O6 := Lib.hid (own4_below O4.out b6)
            have B6 := Lib.hid (B4.out.trans (b6.mono B4.out.size))
            clear o6 b6 O4 B4 UU UP UL PI
            go_wp2_with fail
            refine CP.out.mono ?_
            rintro e w7 ⟨rfl, b7⟩
            have O7 := Lib.hid (own4_below O6.out b7)
            have B7 := Lib.hid (B6.out.trans (b7.mono B6.out.size))
            clear b7 O6 B6 CP
            go_wp2_with fail
            refine (CC.out _ O7.out).mono ?_
            rintro e w8 ⟨rfl, b8⟩
            have O8 := Lib.hid (own4_below O7.out b8)
            have B8 := Lib.hid (B7.out.trans (b8.mono B7.out.size))
            clear b8 O7 B7 CC
            have hk2 : ks.length ≤ 2000000 := by have := HK.out; omega
            by_cases h0 : 0 ≤ cv
            · have hz := HC.out
              rw [decide_eq_true h0] at hz
              have HZ := Lib.hid hz.symm
              clear hz
              go_wp2_with fail
              refine (keysAt_run (CK.out _ O8.out) hk2 HZ.out (Below.refl _ _)).mono ?_
              rintro e w9 ⟨v9, rfl, kh9, b9⟩
              have B9 := Lib.hid (B8.out.trans (b9.mono B8.out.size))
              clear b9 B8
              go_wp2_with fail
              refine (khas_run B9.out kh9).mono ?_
              rintro e w10 ⟨rfl, b10⟩
              go_wp2_with fail
              go_ret
              exact ⟨rfl, b10⟩
            · have hz := HC.out
              rw [decide_eq_false h0] at hz
              have HZ := Lib.hid hz.symm
              clear hz
              go_wp2_with fail
              refine (keysAt_run (CK.out _ O8.out) hk2 HZ.out (Below.refl _ _)).mono ?_
              rintro e w9 ⟨v9, rfl, kh9, b9⟩
              have B9 := Lib.hid (B8.out.trans (b9.mono B8.out.size))
              clear b9 B8
              go_wp2_with fail
              refine (khas_run B9.out kh9).mono ?_
              rintro e w10 ⟨rfl, b10⟩
              go_wp2_with fail
              go_ret
              exact ⟨ret_boolH (a := !decide (0 ≤ cv)) (by simp; omega), b10⟩
end Go.Proofs.Ytcddmmepphihjaa
