/- The walk of laws.FnClosing over the program's contracts. -/
import Derived.Test.YtjfeeppbbckneabClosImpl
import Derived.Test.YtjfeeppbbckneabDrawCir
import Derived.Test.YtjfeeppbbckneabAtWalks
import Derived.Test.YtjfeeppbbckneabOctWalks
namespace Go.Proofs.Ytjfeeppbbckneab
open Go.RowKit Go.Joins
set_option linter.unusedVariables false
/-- The first numbers of a row lie in the same block. -/
theorem own_first {w : World} {base g n cap k : Nat} {e : TypeId} {xs : List Int} (h : w.ownsRow base e 1 (.slice (some ⟨g, 0, none⟩) n cap) n (intCs xs)) (hk : k ≤ n) : w.ownsRow base e 1 (.slice (some ⟨g, 0, none⟩) k cap) k (intCs (xs.take k)) := by
  have hl := h.1
  rw [intCs_len, Nat.mul_one] at hl
  refine ⟨by rw [intCs_len, List.length_take]; omega, ?_⟩
  rcases h.2 with ⟨h', _⟩ | ⟨g', cap', cur, h', hb, hg, hnc, hcm, hcs, htake⟩
  · simp at h'
  · simp only [Value.slice.injEq, Option.some.injEq, Addr.mk.injEq, and_true, true_and] at h'
    obtain ⟨rfl, rfl⟩ := h'
    refine .inr ⟨g, cap, cur, rfl, hb, hg, Nat.le_trans hk hnc, hcm, hcs, ?_⟩
    rw [Nat.mul_one] at htake ⊢
    rw [show intCs (xs.take k) = (intCs xs).take k from by unfold intCs; rw [List.map_take], ← htake, List.take_take, Nat.min_eq_left hk]
set_option maxRecDepth 100000 in
set_option maxHeartbeats 8000000 in
theorem walk_ClosingBy (GT : GroupThirdsImpl) (LP : LastImpl) (WI : WolfImpl) (GS : GroupSumImpl) (CL : ClosesImpl) (RI : RegularImpl) (a0 : Option Addr) (len0 cap0 : Nat) (z0 : List Int) (w : World) (hr : IsRow .u8 w a0 len0 cap0 z0) :
    Calls Try.prog 5 #[.slice a0 len0 cap0] w fun e w' => e = .returned (.bool true) ∧ Below w.heap.size w w' := by
  have hlen := (row_len hr).2
  by_cases hbig : 1048576 < len0
  · have t0 : decide (1048576 < (len0 : Int)) = true := by simp; omega
    go_enter Try.func5, Try.ntmps5
    go_wp2_with fail
    refine (bigW_any _ _ _ _ hlen).mono ?_
    rintro e w' ⟨rfl, rfl⟩
    go_wp2_with fail
    go_ret
    exact ⟨rfl, Below.refl _ _⟩
  · have t0 : decide (1048576 < (len0 : Int)) = false := by simp; omega
    have HR := Lib.hid hr
    obtain ⟨u, hu, hat⟩ := at_fix hr (by omega) 0 (by omega)
    have AT := Lib.hid hat
    obtain ⟨rr, hrr, hrr2⟩ : ∃ rr : Nat, (u : Int).tmod 4 = (rr : Int) ∧ rr < 4 := ⟨u % 4, by rw [Int.tmod_eq_emod_of_nonneg (by omega)]; omega, by omega⟩
    have HLEN := Lib.hid hlen
    have HRR := Lib.hid hrr
    have HR4 := Lib.hid hrr2
    clear hr hbig hlen hat hrr hrr2 hu
    go_enter Try.func5, Try.ntmps5
    go_wp2_with fail
    refine (bigW_any _ _ _ _ HLEN.out).mono ?_
    rintro e w' ⟨rfl, rfl⟩
    rw [t0]
    go_wp2_with fail
    clear t0
    refine (drawCircle_any HR.out).mono ?_
    rintro e w1 ⟨xs, p, cc, ok, rfl, o1, b1⟩
    have HL := Lib.hid (show xs.length ≤ 2000000 from by rw [ok.1]; omega)
    have h12 : (12 : Nat) = xs.length := ok.1.symm
    obtain ⟨g, cap, he, hg, hc12, hcm, hcl⟩ := cir_row (own_eq o1 (rfl : xs = xs) h12) ok
    simp only [Value.slice.injEq, true_and] at he
    obtain ⟨rfl, rfl⟩ := he
    have OK := Lib.hid ok
    have X1 := Lib.hid (one_alloc (w := w1) (v := .slice (some ⟨g, 0, none⟩) 12 cc) (t := 26))
    have O1 := Lib.hid (own_below o1 (below_alloc1 w1 (.cells #[.slice (some ⟨g, 0, none⟩) 12 cc] 26)))
    have B1 := Lib.hid (b1.alloc b1.size (.cells #[.slice (some ⟨g, 0, none⟩) 12 cc] 26))
    clear ok o1 b1 HR HLEN hg hcl h12
    go_upto_region 4 with fail
    obtain ⟨W1, hW⟩ : ∃ W, W = w1.alloc (.cells #[.slice (some ⟨g, 0, none⟩) 12 cc] 26) := ⟨_, rfl⟩
    obtain ⟨mc, hm⟩ : ∃ m, m = w1.heap.size := ⟨_, rfl⟩
    rw [← hW] at X1 O1 B1 ⊢
    rw [← hm] at X1 ⊢
    clear hW hm
    obtain ⟨pa, pb, pc, hgt⟩ := gtAt_ex xs rr
    have hsum := gt_sum hgt OK.out (show (0 : Int) ≤ rr ∧ (rr : Int) ≤ 3 from by have := HR4.out; omega)
    obtain ⟨yw, hyw⟩ := wolfTo_ex xs
    have OW := Lib.hid (fun X (hX : Below W1.heap.size W1 X) => own_eq (own_below O1.out hX) (rfl : xs = xs) OK.out.1.symm)
    have CG : Hid (∀ X, Below W1.heap.size W1 X → Calls Try.prog 24 #[cirV (.slice (some ⟨g, 0, none⟩) 12 cc), .int .i64 rr] X fun en w' => en = .returned (.tuple #[.int .i64 pa, .int .i64 pb, .int .i64 pc]) ∧ Below X.heap.size X w') := Lib.hid (fun X hX => GT _ _ _ _ _ hgt X _ _ _ HL.out (OW.out X hX))
    have CP : Hid (∀ X, Below W1.heap.size W1 X → Calls Try.prog 25 #[.slice (some ⟨g, 0, none⟩) 11 cc] X fun en w' => en = .returned (.tuple #[.int .i64 (xs.getD 11 0), .bool true]) ∧ Below X.heap.size X w') := Lib.hid (fun X hX => LP _ _ _ (last_cir OK.out) X _ _ _ (by rw [List.length_take, OK.out.1]; decide) (own_eq (own_first (own_below O1.out hX) (by omega)) rfl (by rw [List.length_take, OK.out.1]; rfl)))
    have CW : Hid (∀ X, Below W1.heap.size W1 X → Calls Try.prog 26 #[cirV (.slice (some ⟨g, 0, none⟩) 12 cc)] X fun en w' => en = .returned (.int .i64 yw) ∧ Below X.heap.size X w') := Lib.hid (fun X hX => WI _ _ hyw X _ _ _ HL.out (OW.out X hX))
    have CS : Hid (∀ X, Below W1.heap.size W1 X → Calls Try.prog 27 #[cirV (.slice (some ⟨g, 0, none⟩) 12 cc), .int .i64 rr] X fun en w' => en = .returned (ivV 1 0 0 1) ∧ Below X.heap.size X w') := Lib.hid (fun X hX => GS _ _ _ _ _ _ (.inl ⟨⟨OK.out, by omega, by have := HR4.out; omega⟩, rfl, rfl, rfl, rfl⟩) X _ _ _ HL.out (OW.out X hX))
    have CC : Hid (∀ X, Below W1.heap.size W1 X → Calls Try.prog 29 #[.slice (some ⟨g, 0, none⟩) 12 cc] X fun en w' => en = .returned (.bool true) ∧ Below X.heap.size X w') := Lib.hid (fun X hX => by
      have t := CL xs X _ _ _ HL.out (OW.out X hX)
      rwa [cir_clos OK.out] at t)
    have CR : Hid (0 ≤ yw → ∀ X, Below W1.heap.size W1 X → Calls Try.prog 30 #[cirV (.slice (some ⟨g, 0, none⟩) 12 cc)] X fun en w' => en = .returned (.bool true) ∧ Below X.heap.size X w') := Lib.hid (fun h0 X hX => RI _ _ (.inl ⟨wolf_reg hyw h0, rfl⟩) X _ _ _ HL.out (OW.out X hX))
    have CE : Hid (∀ X v, X.ownsRow W1.heap.size 3 1 v onesL.length (intCs onesL) → Calls Try.prog 30 #[cirV v] X fun en w' => en = .returned (.bool true) ∧ Below X.heap.size X w') := Lib.hid (fun X v h => RI onesL _ (.inl ⟨reg_ones, rfl⟩) X _ _ v (by decide) h)
    have hy0 : yw = -1 ∨ 0 ≤ yw := by
      rcases hyw with ⟨_, k, _, _, rfl⟩ | ⟨_, h⟩
      · exact .inr (by omega)
      · exact .inl h
    have q11 : Hid (W1.cell? ⟨g, 11, none⟩ = some (.int .i64 (xs.getD 11 0))) := Lib.hid (own_icell O1.out 11 (by omega))
    have GL : Hid (g < W1.heap.size) := Lib.hid (O1.out.lt g rfl).2
    obtain ⟨x11, hx11⟩ : ∃ x, x = xs.getD 11 0 := ⟨_, rfl⟩
    rw [← hx11] at CP q11
    clear hx11 hgt hyw OW O1 HL GT LP WI GS CL RI
    obtain ⟨hs1, hs2, hs3, hs4⟩ := hsum
    have v1 : IntKind.i64.wrap (pa + pb) = pa + pb := IntWalk.i64_in _ (by omega)
    have v2 : IntKind.i64.wrap (pa + pb + pc) = 12 := by rw [IntWalk.i64_in _ (by omega)]; exact hs1
    have v3 : (x11 == x11) = true := by simp
    go_wp2_with fail
    refine (AT.out _ B1.out).mono ?_
    rintro e w2 ⟨rfl, rfl⟩
    have hrr := HRR.out
    obtain ⟨_, c1, _⟩ := X1.out
    clear AT
    go_wp2_with fail
    refine (CG.out _ (Below.refl _ _)).mono ?_
    rintro e w3 ⟨rfl, b3⟩
    have X3 := one_keep b3 X1.out
    obtain ⟨_, c3, _⟩ := X3
    clear c1 CG
    go_wp2_with fail
    refine (CP.out _ b3).mono ?_
    rintro e w4 ⟨rfl, b4'⟩
    have b4 := b3.trans (b4'.mono b3.size)
    obtain ⟨_, c4, _⟩ := one_keep b4 X1.out
    clear c3 b4' CP
    go_wp2_with fail
    refine (CW.out _ b4).mono ?_
    rintro e w5 ⟨rfl, b5'⟩
    have b5 := b4.trans (b5'.mono b4.size)
    obtain ⟨_, c5, _⟩ := one_keep b5 X1.out
    clear c4 b5' CW b3
    go_wp2_with fail
    refine (CS.out _ b5).mono ?_
    rintro e w6 ⟨rfl, b6'⟩
    have b6 := b5.trans (b6'.mono b5.size)
    clear c5 b6' CS b4
    go_wp2_with fail
    refine (octave_one _).mono ?_
    rintro e w7 ⟨rfl, b7'⟩
    have b7 := b6.trans (b7'.mono b6.size)
    obtain ⟨_, c7, _⟩ := one_keep b7 X1.out
    have q7 := (b7.cell (p := ⟨g, 11, none⟩) GL.out).trans q11.out
    clear b7' b5
    go_wp2_with fail
    refine (CC.out _ b7).mono ?_
    rintro e w8 ⟨rfl, b8'⟩
    have b8 := b7.trans (b8'.mono b7.size)
    obtain ⟨_, c8, _⟩ := one_keep b8 X1.out
    clear c7 q7 b8' CC b6
    rcases hy0 with rfl | hy0
    · go_wp2_with fail
      refine (equal_impl _).mono ?_
      rintro e w9 ⟨v9, rfl, o9, b9'⟩
      have b9 := b8.trans (b9'.mono b8.size)
      go_wp2_with fail
      refine (CE.out _ v9 (own_base o9 b8.size)).mono ?_
      rintro e w10 ⟨rfl, b10⟩
      have B10 := Lib.hid (B1.out.trans ((b9.trans (b10.mono b9.size)).mono B1.out.size))
      go_wp2_with fail
      go_ret
      exact ⟨rfl, B10.out⟩
    · have hn : ¬ yw < 0 := by omega
      have CRR := CR.out hy0
      go_wp2_with fail
      refine (CRR _ b8).mono ?_
      rintro e w81 ⟨rfl, b81⟩
      have b82 := b8.trans (b81.mono b8.size)
      go_wp2_with fail
      refine (equal_impl _).mono ?_
      rintro e w9 ⟨v9, rfl, o9, b9'⟩
      have b9 := b82.trans (b9'.mono b82.size)
      go_wp2_with fail
      refine (CE.out _ v9 (own_base o9 b82.size)).mono ?_
      rintro e w10 ⟨rfl, b10⟩
      have B10 := Lib.hid (B1.out.trans ((b9.trans (b10.mono b9.size)).mono B1.out.size))
      go_wp2_with fail
      go_ret
      exact ⟨rfl, B10.out⟩
end Go.Proofs.Ytjfeeppbbckneab
