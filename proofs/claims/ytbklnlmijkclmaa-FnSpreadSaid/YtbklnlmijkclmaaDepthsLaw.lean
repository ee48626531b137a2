/- The walk of laws.FnDepths over the program's contracts. -/
import Derived.Test.YtbklnlmijkclmaaSprImpl
import Derived.Test.YtbklnlmijkclmaaDrawPlan
import Derived.Test.YtbklnlmijkclmaaAtWalks
namespace Go.Proofs.Ytbklnlmijkclmaa
open Go.RowKit Go.Joins
set_option linter.unusedVariables false
set_option maxRecDepth 100000 in
set_option maxHeartbeats 8000000 in
theorem walk_FnDepthsBy (DI : DepImpl) (EI : ErrImpl) (PI : DeepImpl) (a0 : Option Addr) (len0 cap0 : Nat) (z0 : List Int) (w : World) (hr : IsRow .u8 w a0 len0 cap0 z0) :
    Calls Try.prog 4 #[.slice a0 len0 cap0] w fun e w' => e = .returned (.bool true) ∧ Below w.heap.size w w' := by
  have hlen := (row_len hr).2
  by_cases hbig : 1048576 < len0
  · have t0 : decide (1048576 < (len0 : Int)) = true := by simp; omega
    go_enter Try.func4, Try.ntmps4
    go_wp2_with fail
    refine (bigA_any _ _ _ _ hlen).mono ?_
    rintro e w' ⟨rfl, rfl⟩
    go_wp2_with fail
    go_ret
    exact ⟨rfl, Below.refl _ _⟩
  · have t0 : decide (1048576 < (len0 : Int)) = false := by simp; omega
    have HLEN := Lib.hid hlen
    have HR := Lib.hid hr
    clear hr hbig hlen
    go_enter Try.func4, Try.ntmps4
    go_wp2_with fail
    refine (bigA_any _ _ _ _ HLEN.out).mono ?_
    rintro e w' ⟨rfl, rfl⟩
    rw [t0]
    clear t0
    go_wp2_with fail
    refine (drawPlan_any HR.out).mono ?_
    rintro e w1 ⟨s, xs, p, c, hd, rfl, ho, b1⟩
    have hp := dr_plok (dr_wide hd)
    have hx2 : xs.length ≤ 2000000 := by have := hd.2.1; omega
    have CP := Lib.hid (fun (W : World) (h : W.ownsRow w.heap.size 32 4 (.slice p xs.length c) xs.length (ivCs xs)) => PI W _ _ xs hx2 h)
    rw [show deepV xs = (xs.length : Int) from if_pos hp] at CP
    have CD : Hid (∀ (K : Nat), K ≤ xs.length → ∀ (W : World), W.ownsRow w.heap.size 32 4 (.slice p xs.length c) xs.length (ivCs xs) → Calls Try.prog 20 #[.slice p xs.length c, .int .i64 (K : Int)] W fun en w' => en = .returned (.int .i64 (K : Int)) ∧ Below W.heap.size W w') := Lib.hid (fun K hK W h => by
      have k := DI (K : Int) (WalkArith.wf_i64 (by omega)) W _ _ xs hx2 h
      rw [depV_yes hp hK] at k
      exact k)
    have CE : Hid (∀ (K : Nat), K < xs.length → ∀ (W : World), W.ownsRow w.heap.size 32 4 (.slice p xs.length c) xs.length (ivCs xs) → Calls Try.prog 19 #[.slice p xs.length c, .int .i64 ((K + 1 : Nat) : Int), .int .i64 0] W fun en w' => en = .returned (.int .i64 (errK xs 0 (K + 1))) ∧ Below W.heap.size W w') := Lib.hid (fun K hK W h => by
      have k := EI ((K + 1 : Nat) : Int) 0 (WalkArith.wf_i64 (by omega)) W _ _ xs hx2 h
      rw [show errV xs ((K + 1 : Nat) : Int) 0 = errK xs 0 (K + 1) by unfold errV; rw [if_pos ⟨⟨hp, by omega, by omega⟩, by omega, by omega⟩, Int.toNat_natCast]] at k
      exact k)
    have HE := Lib.hid (fun k hk => errK_pos hp (wr := 0) ⟨by omega, by omega⟩ (k := k) hk)
    have HG := Lib.hid hp
    have hn11 : xs.length ≤ 11 := hd.2.1
    obtain ⟨n, hn⟩ : ∃ n, n = xs.length := ⟨_, rfl⟩
    rw [← hn] at ho CP CD CE HE hn11 ⊢
    have HN := Lib.hid hn
    have O1 := Lib.hid ho
    have B1 := Lib.hid b1
    clear hd hn ho b1 DI EI PI hp hx2
    go_wp2_with fail
    refine (CP.out _ O1.out).mono ?_
    rintro e w2 ⟨rfl, b2⟩
    have O2 := Lib.hid (own4_below O1.out b2)
    have B2 := Lib.hid (B1.out.trans (b2.mono B1.out.size))
    clear b2 O1 B1 CP
    go_wp2_with fail
    go_loopw [6] (fun i wr => ∃ k : Nat, k ≤ n ∧ i = .int .i64 (k : Int) ∧ Hid (wr.ownsRow w.heap.size 32 4 (.slice p n c) n (ivCs xs)) ∧ Hid (Below w.heap.size w wr)) (fun i _ => n - (intOf i).toNat)
    case atStart => exact ⟨0, by omega, by go_num, O2, B2⟩
    case round =>
      clear O2 B2
      obtain ⟨k, hk, rfl, O4, B4⟩ := hrel
      by_cases hlt : k < n
      · have q3 : (k : Int) < n := by omega
        have k0 : 0 ≤ (k : Int) := by omega
        obtain ⟨gx, cx, hgx, _, lgx⟩ := own4_pos O4.out (by omega)
        simp only [Value.slice.injEq, true_and] at hgx
        obtain ⟨rfl, rfl⟩ := hgx
        obtain ⟨T, hT⟩ : ∃ T : Nat, T = k + 1 := ⟨_, rfl⟩
        have r2 := (HG.out.2 k (by have := HN.out; omega)).1
        have r1 := own_iv O4.out HN.out k hlt
        rw [r2.1, r2.2, show (k : Int) + 1 = (T : Int) by rw [hT]; push_cast; rfl] at r1
        have R1 := Lib.hid (show wr.cell? ⟨gx, k * 4, none⟩ = some (.int .i64 (k : Int)) ∧ wr.cell? ⟨gx, k * 4 + 1, none⟩ = some (.int .i64 (T : Int)) from ⟨r1.1, r1.2.1⟩)
        have LG := Lib.hid lgx
        have DT := Lib.hid (CD.out T (by omega))
        have DK := Lib.hid (CD.out k hk)
        have DN := Lib.hid (CD.out n (Nat.le_refl n))
        have ET := Lib.hid (CE.out k hlt)
        rw [← hT] at ET
        have he := HE.out k hlt
        rw [← hT] at he
        obtain ⟨E, hE⟩ : ∃ E, E = errK xs 0 T := ⟨_, rfl⟩
        rw [← hE] at ET he
        have hTT : (T : Int) = (k : Int) + 1 := by omega
        have HTT := Lib.hid hTT
        have HLT := Lib.hid hlt
        have tn : ¬ (n : Int) < (T : Int) := by omega
        obtain ⟨c0, c1⟩ := R1.out
        have e1 : ((T : Int) != (k : Int) + 1) = false := by simp; omega
        clear hT hE r1 r2 lgx hlt hTT
        go_wp2_with fail
        refine (DT.out _ O4.out).mono ?_
        rintro e w5 ⟨rfl, b5⟩
        have O5 := Lib.hid (own4_below O4.out b5)
        have B5 := Lib.hid (B4.out.trans (b5.mono B4.out.size))
        have c0 := (b5.cell (p := ⟨gx, k * 4, none⟩) LG.out).trans R1.out.1
        have c1 := (b5.cell (p := ⟨gx, k * 4 + 1, none⟩) LG.out).trans R1.out.2
        have R5 := Lib.hid (And.intro c0 c1)
        have LG5 := Lib.hid (Nat.lt_of_lt_of_le LG.out b5.size)
        clear b5 O4 B4 R1 LG
        go_wp2_with fail
        refine (DK.out _ O5.out).mono ?_
        rintro e w6 ⟨rfl, b6⟩
        have O6 := Lib.hid (own4_below O5.out b6)
        have B6 := Lib.hid (B5.out.trans (b6.mono B5.out.size))
        have c1 := (b6.cell (p := ⟨gx, k * 4 + 1, none⟩) LG5.out).trans R5.out.2
        have R6 := Lib.hid c1
        have LG6 := Lib.hid (Nat.lt_of_lt_of_le LG5.out b6.size)
        clear b6 O5 B5 R5 LG5
        go_wp2_with fail
        refine (DN.out _ O6.out).mono ?_
        rintro e w7 ⟨rfl, b7⟩
        have O7 := Lib.hid (own4_below O6.out b7)
        have B7 := Lib.hid (B6.out.trans (b7.mono B6.out.size))
        have c1 := (b7.cell (p := ⟨gx, k * 4 + 1, none⟩) LG6.out).trans R6.out
        clear b7 O6 B6 R6 LG6
        go_wp2_with fail
        refine (ET.out _ O7.out).mono ?_
        rintro e w8 ⟨rfl, b8⟩
        have O8 := Lib.hid (own4_below O7.out b8)
        have B8 := Lib.hid (B7.out.trans (b8.mono B7.out.size))
        have e3 : ¬ E < 1 := by omega
        clear b8 O7 B7
        go_wp2_with fail
        go_roundw
        case rel => exact ⟨k + 1, HLT.out, by go_num, O8, B8⟩
        case measure => simp [intOf]; omega
      · obtain rfl : k = n := by omega
        have D0 := Lib.hid (CD.out 0 (Nat.zero_le k))
        have DN := Lib.hid (CD.out k (Nat.le_refl k))
        clear CD CE HE hk hlt
        go_wp2_with fail
        refine (D0.out _ O4.out).mono ?_
        rintro e w5 ⟨rfl, b5⟩
        have O5 := Lib.hid (own4_below O4.out b5)
        have B5 := Lib.hid (B4.out.trans (b5.mono B4.out.size))
        clear b5 O4 B4
        go_wp2_with fail
        refine (DN.out _ O5.out).mono ?_
        rintro e w6 ⟨rfl, b6⟩
        have B6 := Lib.hid (B5.out.trans (b6.mono B5.out.size))
        clear b6 O5 B5
        go_wp2_with fail
        go_ret
        exact ⟨rfl, B6.out⟩
end Go.Proofs.Ytbklnlmijkclmaa
