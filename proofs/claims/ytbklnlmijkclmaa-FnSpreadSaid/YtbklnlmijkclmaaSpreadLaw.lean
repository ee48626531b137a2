/- The walk of laws.FnSpread over the program's contracts. -/
import Derived.Test.YtbklnlmijkclmaaSprImpl
import Derived.Test.YtbklnlmijkclmaaDrawPlan
import Derived.Test.YtbklnlmijkclmaaKeysSay
import Derived.Test.YtbklnlmijkclmaaAtWalks
namespace Go.Proofs.Ytbklnlmijkclmaa
open Go.RowKit Go.Joins
set_option linter.unusedVariables false
theorem pit_small {s : Int} {xs : List Iv} (h : DrOkW s xs) {n i : Nat} (hn : n = xs.length) (hi : i < 12) : 0 ≤ (pitL s xs n).getD i 0 ∧ (pitL s xs n).getD i 0 ≤ 600000 := by
  rw [pitL_at _ _ _ hi]
  split
  · have := pit_mid h (k := i) (by omega); omega
  · omega
theorem spread_wrap {x y D : Int} (hx : 0 ≤ x ∧ x ≤ 600000) (hy : 0 ≤ y ∧ y ≤ 600000) (hD : D = max (x - y) (y - x)) :
    (if IntKind.i64.wrap (x - y) < IntKind.i64.wrap (y - x) then IntKind.i64.wrap (y - x) else IntKind.i64.wrap (x - y)) = D := by
  rw [IntWalk.i64_in (x - y) (by omega), IntWalk.i64_in (y - x) (by omega)]
  split <;> omega
/-- The same number of two rows. -/
def TwoL (g h i : Nat) (x y : Int) (w : World) : Prop := OneL g i x w ∧ OneL h i y w
theorem twoL_cells {g h i : Nat} {x y : Int} {w : World} (q : TwoL g h i x y w) : w.cell? ⟨g, i, none⟩ = some (.int .i64 x) ∧ w.cell? ⟨h, i, none⟩ = some (.int .i64 y) := ⟨q.1.2, q.2.2⟩
theorem has_at {w : World} {b : Nat} {v : Value} {xs : List Int} {x : Int} {z : Bool} (hz : decide (x ∈ xs) = z) (hx : xs.length ≤ 2000000) (h : w.ownsRow b 3 1 v xs.length (intCs xs)) : KHas w v x z := by
  have k := has_any w b _ v xs x hx h
  rw [hz] at k
  exact k
set_option maxRecDepth 100000 in
set_option maxHeartbeats 8000000 in
theorem walk_FnSpreadBy (RI : RunImpl) (KI : KeysImpl) (MI : MisImpl) (AI : AffImpl) (EI : ErrImpl) (PI : DeepImpl) (a0 : Option Addr) (len0 cap0 : Nat) (z0 : List Int) (w : World) (hr : IsRow .u8 w a0 len0 cap0 z0) :
    Calls Try.prog 3 #[.slice a0 len0 cap0] w fun e w' => e = .returned (.bool true) ∧ Below w.heap.size w w' := by
  have hlen := (row_len hr).2
  by_cases hbig : 1048576 < len0
  · have t0 : decide (1048576 < (len0 : Int)) = true := by simp; omega
    go_enter Try.func3, Try.ntmps3
    go_wp2_with fail
    refine (bigA_any _ _ _ _ hlen).mono ?_
    rintro e w' ⟨rfl, rfl⟩
    go_wp2_with fail
    go_ret
    exact ⟨rfl, Below.refl _ _⟩
  · have t0 : decide (1048576 < (len0 : Int)) = false := by simp; omega
    have HLEN := Lib.hid hlen
    have HR := Lib.hid hr
    have HL := Lib.hid (show len0 ≤ 1048576 by omega)
    clear hr hbig hlen
    go_enter Try.func3, Try.ntmps3
    go_wp2_with fail
    refine (bigA_any _ _ _ _ HLEN.out).mono ?_
    rintro e w' ⟨rfl, rfl⟩
    rw [t0]
    clear t0
    go_wp2_with fail
    refine (drawPlan_any HR.out).mono ?_
    rintro e w1 ⟨s, xs, p, c, hd, rfl, ho, b1⟩
    have hp := dr_plok (dr_wide hd)
    have hx2 : xs.length ≤ 2000000 := by have := hd.2.1; omega
    rcases Nat.eq_zero_or_pos xs.length with hn0 | hn0
    · have CP := Lib.hid (PI w1 _ _ xs hx2 ho)
      rw [show deepV xs = (xs.length : Int) from if_pos hp, hn0] at CP
      rw [hn0]
      have B1 := Lib.hid b1
      clear ho b1 hd hp hx2 RI KI MI AI EI PI
      go_wp2_with fail
      refine CP.out.mono ?_
      rintro e w2 ⟨rfl, b2⟩
      go_wp2_with fail
      go_ret
      exact ⟨rfl, B1.out.trans (b2.mono B1.out.size)⟩
    · obtain ⟨u, hu, hat⟩ := at_fix HR.out HL.out 0 (by omega)
      obtain ⟨u', hu', hat'⟩ := at_fix HR.out HL.out 1 (by omega)
      have AT := Lib.hid hat
      have AT' := Lib.hid hat'
      obtain ⟨k, hk⟩ : ∃ k : Nat, k = u % xs.length := ⟨_, rfl⟩
      have hkn : k < xs.length := by rw [hk]; exact Nat.mod_lt _ hn0
      obtain ⟨ch, hch⟩ : ∃ ch : Nat, ch = u' % 50 := ⟨_, rfl⟩
      have hc50 : ch < 50 := by omega
      have cc : 0 ≤ (ch : Int) ∧ (ch : Int) < 50 := ⟨by omega, by omega⟩
      have m1 : (u : Int) % (xs.length : Int) = (k : Int) := by rw [hk]; exact_mod_cast rfl
      have m2 : (u' : Int) % 50 = (ch : Int) := by rw [hch]; exact_mod_cast rfl
      have m3 : (u : Int).tmod (xs.length : Int) = (k : Int) := by rw [Int.tmod_eq_emod_of_nonneg (by omega)]; exact m1
      have hm := mis_dr hd hkn cc
      have hmo := mis_ok hd hkn cc
      have CM := Lib.hid (fun (W : World) (h : W.ownsRow w.heap.size 32 4 (.slice p xs.length c) xs.length (ivCs xs)) => MI (k : Int) (ch : Int) W _ _ xs hx2 h)
      rw [(mis_yes hmo).1, (mis_yes hmo).2, Int.toNat_natCast] at CM
      have CR := Lib.hid (fun (W : World) (h : W.ownsRow w.heap.size 32 4 (.slice p xs.length c) xs.length (ivCs xs)) => RI s W _ _ xs hx2 h)
      rw [(run_yes (dr_run (dr_wide hd))).1, (run_yes (dr_run (dr_wide hd))).2] at CR
      have CS := Lib.hid (fun (W : World) (v : Value) (h : W.ownsRow w.heap.size 32 4 v (misX xs k (ch : Int)).length (ivCs (misX xs k (ch : Int)))) => RI s W _ v (misX xs k (ch : Int)) (by rw [misX_len]; exact hx2) h)
      rw [(run_yes (dr_run hm)).1, (run_yes (dr_run hm)).2, misX_len] at CS
      have CA := Lib.hid (fun (W : World) (h : W.ownsRow w.heap.size 32 4 (.slice p xs.length c) xs.length (ivCs xs)) => AI (k : Int) W _ _ xs hx2 h)
      have CK : Hid (∀ (V : World), V.ownsRow w.heap.size 32 4 (.slice p xs.length c) xs.length (ivCs xs) → KeysAt 18 (.slice p xs.length c) (keysL xs) V) := Lib.hid (fun V hV X hX => KI X _ _ xs hx2 (own4_below hV hX))
      have CE := Lib.hid (fun (i : Nat) (hi12 : i < 12) (W : World) (h : W.ownsRow w.heap.size 32 4 (.slice p xs.length c) xs.length (ivCs xs)) => EI (i : Int) (ch : Int) (WalkArith.wf_i64 (by omega)) W _ _ xs hx2 h)
      have SK := Lib.hid (fun i hi => spread_key hd hkn cc (i := i) hi)
      have PA := Lib.hid (fun i hi => pit_small (dr_wide hd) (n := xs.length) (i := i) rfl hi)
      have PB := Lib.hid (fun i hi => pit_small hm (n := xs.length) (i := i) (misX_len _ _ _).symm hi)
      have LA := Lib.hid (affL_len xs (k : Int))
      have LK := Lib.hid (keysL_len xs)
      have HT : Hid (decide ((((k + 1 : Nat) : Int)) ∈ affL xs (k : Int)) = true) := Lib.hid (decide_eq_true ((mem_aff ⟨hp, by omega, by omega⟩).2 ⟨by omega, by omega⟩))
      have HP1 := Lib.hid (pitL_len s xs xs.length)
      have HP2 := Lib.hid (pitL_len s (misX xs k (ch : Int)) xs.length)
      have HG := Lib.hid hp
      have hn11 : xs.length ≤ 11 := hd.2.1
      obtain ⟨ys, hys⟩ : ∃ ys, ys = misX xs k (ch : Int) := ⟨_, rfl⟩
      rw [← hys] at CM CS SK PB HP2
      have HYL : Hid (ys.length = xs.length) := Lib.hid (by rw [hys, misX_len])
      obtain ⟨n, hn⟩ : ∃ n, n = xs.length := ⟨_, rfl⟩
      rw [← hn] at ho m1 m3 CM CR CS CA CK CE SK PA PB HP1 HP2 HYL hn11 hn0 hkn ⊢
      have HN := Lib.hid hn
      obtain ⟨pa, hpa⟩ : ∃ pa, pa = pitL s xs n := ⟨_, rfl⟩
      rw [← hpa] at CR SK PA HP1
      obtain ⟨pb, hpb⟩ : ∃ pb, pb = pitL s ys n := ⟨_, rfl⟩
      rw [← hpb] at CS SK PB HP2
      obtain ⟨af, haf⟩ : ∃ af, af = affL xs (k : Int) := ⟨_, rfl⟩
      rw [← haf] at CA SK LA HT
      obtain ⟨ks, hks⟩ : ∃ ks, ks = keysL xs := ⟨_, rfl⟩
      rw [← hks] at CK SK LK
      have O1 := Lib.hid ho
      have B1 := Lib.hid b1
      have nz : ¬ n = 0 := by omega
      have nz2 : ¬ (n : Int) = 0 := by omega
      have nz3 : ((n : Int) == 0) = false := by simp; omega
      have HKN := Lib.hid hkn
      clear hd hp hn hys hpa hpb haf hks ho b1 RI KI MI AI EI PI hat hat' hk hch hm hmo hx2 hn0 cc hu hu'
      go_wp2_with fail
      refine (AT.out _ B1.out).mono ?_
      rintro e w2 ⟨rfl, rfl⟩
      go_wp2_with fail
      refine (AT'.out _ B1.out).mono ?_
      rintro e w2 ⟨rfl, rfl⟩
      clear AT AT'
      go_wp2_with fail
      refine (CM.out _ O1.out).mono ?_
      rintro e w2 ⟨v7, rfl, o7, b2⟩
      have Y2 := Lib.hid (ownM_base o7 B1.out.size)
      have O2 := Lib.hid (own4_below O1.out b2)
      have B2 := Lib.hid (B1.out.trans (b2.mono B1.out.size))
      clear o7 b2 O1 B1 CM
      go_wp2_with fail
      refine (CR.out _ O2.out).mono ?_
      rintro e w3 ⟨v9, rfl, o9, b3⟩
      rw [HP1.out] at o9
      obtain ⟨g9, c9, rfl, _, _⟩ := own_pos o9 (by omega)
      have A3 := Lib.hid (ownM_base o9 B2.out.size)
      have Y3 := Lib.hid (own4_below Y2.out b3)
      have O3 := Lib.hid (own4_below O2.out b3)
      have B3 := Lib.hid (B2.out.trans (b3.mono B2.out.size))
      clear o9 b3 O2 B2 Y2 CR
      go_wp2_with fail
      refine (CS.out _ _ (by have := Y3.out; rw [HYL.out] at this; exact this)).mono ?_
      rintro e w4 ⟨v11, rfl, o11, b4⟩
      rw [HP2.out] at o11
      obtain ⟨g11, c11, rfl, _, _⟩ := own_pos o11 (by omega)
      have E4 := Lib.hid (ownM_base o11 B3.out.size)
      have A4 := Lib.hid (own_below A3.out b4)
      have O4 := Lib.hid (own4_below O3.out b4)
      have B4 := Lib.hid (B3.out.trans (b4.mono B3.out.size))
      clear o11 b4 O3 B3 Y3 A3 CS
      go_wp2_with fail
      refine (CA.out _ O4.out).mono ?_
      rintro e w5 ⟨v13, rfl, o13, b5⟩
      have F5 := Lib.hid (ownM_base o13 B4.out.size)
      have E5 := Lib.hid (own_below E4.out b5)
      have A5 := Lib.hid (own_below A4.out b5)
      have O5 := Lib.hid (own4_below O4.out b5)
      have B5 := Lib.hid (B4.out.trans (b5.mono B4.out.size))
      clear o13 b5 O4 B4 E4 A4 CA
      go_wp2_with fail
      go_loopw [14] (fun i wr => ∃ i' : Nat, i' ≤ 12 ∧ i = .int .i64 (i' : Int) ∧ Hid (wr.ownsRow w.heap.size 32 4 (.slice p n c) n (ivCs xs)) ∧ Hid (wr.ownsRow w.heap.size 3 1 (.slice (some ⟨g9, 0, none⟩) 12 c9) 12 (intCs pa)) ∧ Hid (wr.ownsRow w.heap.size 3 1 (.slice (some ⟨g11, 0, none⟩) 12 c11) 12 (intCs pb)) ∧ Hid (wr.ownsRow w.heap.size 3 1 v13 af.length (intCs af)) ∧ Hid (Below w.heap.size w wr)) (fun i _ => 12 - (intOf i).toNat)
      case atStart => exact ⟨0, by omega, by go_num, O5, A5, E5, F5, B5⟩
      case round =>
        clear O5 A5 E5 F5 B5
        obtain ⟨i, hi, rfl, O6, A6, E6, F6, B6⟩ := hrel
        by_cases hlt : i < 12
        · have q3 : (i : Int) < 12 := by omega
          have i0 : 0 ≤ (i : Int) := by omega
          have hS := SK.out i hlt
          have hA := PA.out i hlt
          have hB := PB.out i hlt
          have cA := own_icell A6.out i hlt
          have cB := own_icell E6.out i hlt
          obtain ⟨x, hx⟩ : ∃ x, x = pa.getD i 0 := ⟨_, rfl⟩
          obtain ⟨y, hy⟩ : ∃ y, y = pb.getD i 0 := ⟨_, rfl⟩
          rw [← hx] at cA hA
          rw [← hy] at cB hB
          rw [← hx, ← hy] at hS
          obtain ⟨D, hD⟩ : ∃ D, D = max (x - y) (y - x) := ⟨_, rfl⟩
          have WD := Lib.hid (spread_wrap hA hB hD)
          have S1 := Lib.hid (show ¬ (i : Int) ∈ af → D = 0 from fun q => by have := hS.1 q; omega)
          rw [← hD] at hS
          have S2 := Lib.hid hS.2
          have TL : Hid (TwoL g9 g11 i x y wr) := Lib.hid ⟨⟨(A6.out.lt g9 rfl).2, cA⟩, ⟨(E6.out.lt g11 rfl).2, cB⟩⟩
          have EE := Lib.hid (CE.out i (by omega))
          have HLT := Lib.hid hlt
          clear hS hA hB cA cB hx hy hD hlt
          go_upto_region 19 with fail
          go_region_held3 (fun w' => w'.cell? ⟨g9, i, none⟩ = some (.int .i64 x) ∧ w'.cell? ⟨g11, i, none⟩ = some (.int .i64 y)) (first | exact twoL_cells (TL.out : TwoL g9 g11 i x y wr)) (fail)
          rw [WD.out]
          obtain ⟨W6, hW6⟩ : ∃ W, W = wr.drew := ⟨_, rfl⟩
          have O7 : Hid (W6.ownsRow w.heap.size 32 4 (.slice p n c) n (ivCs xs)) := Lib.hid (by rw [hW6]; exact O6.out)
          have A7 : Hid (W6.ownsRow w.heap.size 3 1 (.slice (some ⟨g9, 0, none⟩) 12 c9) 12 (intCs pa)) := Lib.hid (by rw [hW6]; exact A6.out)
          have E7 : Hid (W6.ownsRow w.heap.size 3 1 (.slice (some ⟨g11, 0, none⟩) 12 c11) 12 (intCs pb)) := Lib.hid (by rw [hW6]; exact E6.out)
          have F7 : Hid (W6.ownsRow w.heap.size 3 1 v13 af.length (intCs af)) := Lib.hid (by rw [hW6]; exact F6.out)
          have B7 : Hid (Below w.heap.size w W6) := Lib.hid (by rw [hW6]; exact B6.out.drew)
          rw [← hW6]
          clear hW6 O6 A6 E6 F6 B6 TL WD
          have hk2 : ks.length ≤ 2000000 := by have := LK.out; omega
          have hf2 : af.length ≤ 2000000 := by have := LA.out; omega
          by_cases h1 : (i : Int) ∈ af
          · by_cases h2 : (i : Int) ∈ ks
            · have KH := Lib.hid (has_at (decide_eq_true h1) hf2 F7.out)
              have Z2 := Lib.hid (decide_eq_true h2)
              obtain ⟨E, hE⟩ : ∃ E, E = errV xs (i : Int) (ch : Int) := ⟨_, rfl⟩
              have hDE := S2.out h2
              rw [← hE] at EE hDE
              have hDE2 : ¬ E < D := by omega
              clear hE
              clear h1 h2 S1 S2
              go_wp2_with fail
              refine KH.out.mono ?_
              rintro e w7 ⟨rfl, b7⟩
              have O8 := Lib.hid (own4_below O7.out b7)
              have A8 := Lib.hid (own_below A7.out b7)
              have E8 := Lib.hid (own_below E7.out b7)
              have F8 := Lib.hid (own_below F7.out b7)
              have B8 := Lib.hid (B7.out.trans (b7.mono B7.out.size))
              clear b7 O7 A7 E7 F7 B7 KH
              go_wp2_with fail
              refine (keysAt_run (CK.out _ O8.out) hk2 Z2.out (Below.refl _ _)).mono ?_
              rintro e w8 ⟨v8, rfl, kh8, b8⟩
              have KB := Lib.hid b8
              clear b8
              go_wp2_with fail
              refine (khas_run KB.out kh8).mono ?_
              rintro e w9 ⟨rfl, b9⟩
              have O9 := Lib.hid (own4_below O8.out b9)
              have A9 := Lib.hid (own_below A8.out b9)
              have E9 := Lib.hid (own_below E8.out b9)
              have F9 := Lib.hid (own_below F8.out b9)
              have B9 := Lib.hid (B8.out.trans (b9.mono B8.out.size))
              clear b9 KB kh8 O8 A8 E8 F8 B8
              go_wp2_with fail
              refine (EE.out _ O9.out).mono ?_
              rintro e w10 ⟨rfl, b10⟩
              have O10 := Lib.hid (own4_below O9.out b10)
              have A10 := Lib.hid (own_below A9.out b10)
              have E10 := Lib.hid (own_below E9.out b10)
              have F10 := Lib.hid (own_below F9.out b10)
              have B10 := Lib.hid (B9.out.trans (b10.mono B9.out.size))
              clear b10 O9 A9 E9 F9 B9
              go_wp2_with fail
              go_roundw
              case rel => exact ⟨i + 1, HLT.out, by go_num, O10, A10, E10, F10, B10⟩
              case measure => simp [intOf]; omega
            · have KH := Lib.hid (has_at (decide_eq_true h1) hf2 F7.out)
              have Z2 := Lib.hid (decide_eq_false h2)
              clear h1 h2 S1 S2
              go_wp2_with fail
              refine KH.out.mono ?_
              rintro e w7 ⟨rfl, b7⟩
              have O8 := Lib.hid (own4_below O7.out b7)
              have A8 := Lib.hid (own_below A7.out b7)
              have E8 := Lib.hid (own_below E7.out b7)
              have F8 := Lib.hid (own_below F7.out b7)
              have B8 := Lib.hid (B7.out.trans (b7.mono B7.out.size))
              clear b7 O7 A7 E7 F7 B7 KH
              go_wp2_with fail
              refine (keysAt_run (CK.out _ O8.out) hk2 Z2.out (Below.refl _ _)).mono ?_
              rintro e w8 ⟨v8, rfl, kh8, b8⟩
              have KB := Lib.hid b8
              clear b8
              go_wp2_with fail
              refine (khas_run KB.out kh8).mono ?_
              rintro e w9 ⟨rfl, b9⟩
              have O9 := Lib.hid (own4_below O8.out b9)
              have A9 := Lib.hid (own_below A8.out b9)
              have E9 := Lib.hid (own_below E8.out b9)
              have F9 := Lib.hid (own_below F8.out b9)
              have B9 := Lib.hid (B8.out.trans (b9.mono B8.out.size))
              clear b9 KB kh8 O8 A8 E8 F8 B8
              go_wp2_with fail
              go_roundw
              case rel => exact ⟨i + 1, HLT.out, by go_num, O9, A9, E9, F9, B9⟩
              case measure => simp [intOf]; omega
          · by_cases h2 : (i : Int) ∈ ks
            · have KH := Lib.hid (has_at (decide_eq_false h1) hf2 F7.out)
              have Z2 := Lib.hid (decide_eq_true h2)
              have d0 := S1.out h1
              obtain ⟨E, hE⟩ : ∃ E, E = errV xs (i : Int) (ch : Int) := ⟨_, rfl⟩
              have hDE := S2.out h2
              rw [← hE] at EE hDE
              have hDE2 : ¬ E < D := by omega
              clear hE
              subst d0
              clear h1 h2 S1 S2
              go_wp2_with fail
              refine KH.out.mono ?_
              rintro e w7 ⟨rfl, b7⟩
              have O8 := Lib.hid (own4_below O7.out b7)
              have A8 := Lib.hid (own_below A7.out b7)
              have E8 := Lib.hid (own_below E7.out b7)
              have F8 := Lib.hid (own_below F7.out b7)
              have B8 := Lib.hid (B7.out.trans (b7.mono B7.out.size))
              clear b7 O7 A7 E7 F7 B7 KH
              go_wp2_with fail
              refine (keysAt_run (CK.out _ O8.out) hk2 Z2.out (Below.refl _ _)).mono ?_
              rintro e w8 ⟨v8, rfl, kh8, b8⟩
              have KB := Lib.hid b8
              clear b8
              go_wp2_with fail
              refine (khas_run KB.out kh8).mono ?_
              rintro e w9 ⟨rfl, b9⟩
              have O9 := Lib.hid (own4_below O8.out b9)
              have A9 := Lib.hid (own_below A8.out b9)
              have E9 := Lib.hid (own_below E8.out b9)
              have F9 := Lib.hid (own_below F8.out b9)
              have B9 := Lib.hid (B8.out.trans (b9.mono B8.out.size))
              clear b9 KB kh8 O8 A8 E8 F8 B8
              go_wp2_with fail
              refine (EE.out _ O9.out).mono ?_
              rintro e w10 ⟨rfl, b10⟩
              have O10 := Lib.hid (own4_below O9.out b10)
              have A10 := Lib.hid (own_below A9.out b10)
              have E10 := Lib.hid (own_below E9.out b10)
              have F10 := Lib.hid (own_below F9.out b10)
              have B10 := Lib.hid (B9.out.trans (b10.mono B9.out.size))
              clear b10 O9 A9 E9 F9 B9
              go_wp2_with fail
              go_roundw
              case rel => exact ⟨i + 1, HLT.out, by go_num, O10, A10, E10, F10, B10⟩
              case measure => simp [intOf]; omega
            · have KH := Lib.hid (has_at (decide_eq_false h1) hf2 F7.out)
              have Z2 := Lib.hid (decide_eq_false h2)
              have d0 := S1.out h1
              subst d0
              clear h1 h2 S1 S2
              go_wp2_with fail
              refine KH.out.mono ?_
              rintro e w7 ⟨rfl, b7⟩
              have O8 := Lib.hid (own4_below O7.out b7)
              have A8 := Lib.hid (own_below A7.out b7)
              have E8 := Lib.hid (own_below E7.out b7)
              have F8 := Lib.hid (own_below F7.out b7)
              have B8 := Lib.hid (B7.out.trans (b7.mono B7.out.size))
              clear b7 O7 A7 E7 F7 B7 KH
              go_wp2_with fail
              refine (keysAt_run (CK.out _ O8.out) hk2 Z2.out (Below.refl _ _)).mono ?_
              rintro e w8 ⟨v8, rfl, kh8, b8⟩
              have KB := Lib.hid b8
              clear b8
              go_wp2_with fail
              refine (khas_run KB.out kh8).mono ?_
              rintro e w9 ⟨rfl, b9⟩
              have O9 := Lib.hid (own4_below O8.out b9)
              have A9 := Lib.hid (own_below A8.out b9)
              have E9 := Lib.hid (own_below E8.out b9)
              have F9 := Lib.hid (own_below F8.out b9)
              have B9 := Lib.hid (B8.out.trans (b9.mono B8.out.size))
              clear b9 KB kh8 O8 A8 E8 F8 B8
              go_wp2_with fail
              go_roundw
              case rel => exact ⟨i + 1, HLT.out, by go_num, O9, A9, E9, F9, B9⟩
              case measure => simp [intOf]; omega
        · obtain rfl : i = 12 := by omega
          obtain ⟨gx, cx, hgx, _, lgx⟩ := own4_pos O6.out (by have := HKN.out; omega)
          simp only [Value.slice.injEq, true_and] at hgx
          obtain ⟨rfl, rfl⟩ := hgx
          have r2 := (HG.out.2 k (by have := HN.out; have := HKN.out; omega)).1.2
          have r1 := (own_iv O6.out HN.out k HKN.out).2.1
          rw [r2] at r1
          have KH := Lib.hid (has_at HT.out (by have := LA.out; omega) F6.out)
          have ek : (((k + 1 : Nat)) : Int) = (k : Int) + 1 := by push_cast; rfl
          rw [ek] at KH
          have k0 : 0 ≤ (k : Int) := by omega
          have kn : (k : Int) < n := by have := HKN.out; omega
          clear r2 lgx ek hi
          go_wp2_with fail
          refine KH.out.mono ?_
          rintro e w7 ⟨rfl, b7⟩
          go_wp2_with fail
          go_ret
          exact ⟨rfl, B6.out.trans (b7.mono B6.out.size)⟩
end Go.Proofs.Ytbklnlmijkclmaa
