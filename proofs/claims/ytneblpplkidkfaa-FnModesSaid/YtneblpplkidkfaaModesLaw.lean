/- The walk of laws.FnModes over the program's contracts. Written by modes.py. -/
import Derived.Test.YtneblpplkidkfaaModeOffs
import Derived.Test.YtneblpplkidkfaaDrawSc
import Derived.Test.YtneblpplkidkfaaAtWalks
import Derived.Test.YtneblpplkidkfaaSameInts
import Derived.Test.YtneblpplkidkfaaTakeD
import Derived.Deep.RegionHeld3
import Derived.Deep.DeepCutAuto
namespace Go.Proofs.Ytneblpplkidkfaa
open Go.RowKit Go.Joins
set_option linter.unusedVariables false
def TwG (v : Value) (z : Bool) (W : World) : Prop := ∀ X, Below W.heap.size W X → Calls Try.prog 16 #[cirV v] X fun e w' => e = .returned (.bool z) ∧ Below W.heap.size W w'
theorem TwG_run {v : Value} {z : Bool} {W : World} (h : TwG v z W) (X : World) (hX : Below W.heap.size W X) : Calls Try.prog 16 #[cirV v] X fun e w' => e = .returned (.bool z) ∧ Below W.heap.size W w' := h X hX
def MiG (v : Value) (z : Bool) (W : World) : Prop := ∀ X, Below W.heap.size W X → Calls Try.prog 17 #[cirV v] X fun e w' => e = .returned (.bool z) ∧ Below W.heap.size W w'
theorem MiG_run {v : Value} {z : Bool} {W : World} (h : MiG v z W) (X : World) (hX : Below W.heap.size W X) : Calls Try.prog 17 #[cirV v] X fun e w' => e = .returned (.bool z) ∧ Below W.heap.size W w' := h X hX
def CnG (v : Value) (y : Int) (W : World) : Prop := ∀ X, Below W.heap.size W X → Calls Try.prog 12 #[cirV v] X fun e w' => e = .returned (.int .i64 y) ∧ Below W.heap.size W w'
theorem CnG_run {v : Value} {y : Int} {W : World} (h : CnG v y W) (X : World) (hX : Below W.heap.size W X) : Calls Try.prog 12 #[cirV v] X fun e w' => e = .returned (.int .i64 y) ∧ Below W.heap.size W w' := h X hX
def MdA (f : FuncId) (u1 v : Value) (i : Int) (z : Bool) (W : World) : Prop := ∀ X, Below W.heap.size W X → Calls Try.prog 11 #[cirV v, .int .i64 i] X fun e w' => ∃ u, e = .returned (cirV u) ∧ Fn2 f u1 u z w' W ∧ Below W.heap.size W w'
theorem MdA_run {f : FuncId} {u1 v : Value} {i : Int} {z : Bool} {W : World} (h : MdA f u1 v i z W) (X : World) (hX : Below W.heap.size W X) : Calls Try.prog 11 #[cirV v, .int .i64 i] X fun e w' => ∃ u, e = .returned (cirV u) ∧ Fn2 f u1 u z w' W ∧ Below W.heap.size W w' := h X hX
def MdB (f : FuncId) (v : Value) (i : Int) (u2 : Value) (z : Bool) (W : World) : Prop := ∀ X, Below W.heap.size W X → Calls Try.prog 11 #[cirV v, .int .i64 i] X fun e w' => ∃ u, e = .returned (cirV u) ∧ Fn2 f u u2 z w' W ∧ Below W.heap.size W w'
theorem MdB_run {f : FuncId} {v : Value} {i : Int} {u2 : Value} {z : Bool} {W : World} (h : MdB f v i u2 z W) (X : World) (hX : Below W.heap.size W X) : Calls Try.prog 11 #[cirV v, .int .i64 i] X fun e w' => ∃ u, e = .returned (cirV u) ∧ Fn2 f u u2 z w' W ∧ Below W.heap.size W w' := h X hX
def RvB (f : FuncId) (u us : Value) (z : Bool) (W1 W : World) : Prop := ∀ X, Below W1.heap.size W1 X → Calls Try.prog 18 #[cirV u] X fun e w' => ∃ u2, e = .returned (cirV u2) ∧ Fn2 f u2 us z w' W ∧ Below W.heap.size W w'
theorem RvB_run {f : FuncId} {u us : Value} {z : Bool} {W1 W : World} (h : RvB f u us z W1 W) (X : World) (hX : Below W1.heap.size W1 X) : Calls Try.prog 18 #[cirV u] X fun e w' => ∃ u2, e = .returned (cirV u2) ∧ Fn2 f u2 us z w' W ∧ Below W.heap.size W w' := h X hX
def RvA (f : FuncId) (v us : Value) (z : Bool) (W : World) : Prop := ∀ X, Below W.heap.size W X → Calls Try.prog 18 #[cirV v] X fun e w' => ∃ u, e = .returned (cirV u) ∧ RvB f u us z w' W ∧ Below W.heap.size W w'
theorem RvA_run {f : FuncId} {v us : Value} {z : Bool} {W : World} (h : RvA f v us z W) (X : World) (hX : Below W.heap.size W X) : Calls Try.prog 18 #[cirV v] X fun e w' => ∃ u, e = .returned (cirV u) ∧ RvB f u us z w' W ∧ Below W.heap.size W w' := h X hX
theorem sameI (Z : World) {b1 b2 : Nat} {u1 u2 : Value} {xs ys : List Int} (h1 : OffI Z b1 u1 xs.length xs) (h2 : OffI Z b2 u2 ys.length ys) (h : xs = ys) (hl : xs.length ≤ 2000000) : Calls Try.prog 15 #[u1, u2] Z fun e w' => e = .returned (.bool true) ∧ Below Z.heap.size Z w' := by
  subst h
  have k := sameInts_off Z _ _ u1 u2 xs xs hl hl h1 h2
  rw [decide_eq_true (rfl : xs = xs)] at k
  exact k
theorem mdA_mk (MO : ModeOff) {xs ys : List Int} {W : World} {b b1 : Nat} {v u1 : Value} {i : Int} (hl : xs.length ≤ 2000000) (h : OffI W b v xs.length xs) (h1 : OffI W b1 u1 ys.length ys) (hy : ys = modF xs i) : MdA 15 u1 v i true W := fun X hX =>
  (MO xs i _ rfl X b v hl (off_below h hX)).mono fun e2 w2 ⟨u, he, ou, bu⟩ =>
    have h2 : Below W.heap.size W w2 := hX.trans (bu.mono hX.size)
    ⟨u, he, fun Z hZ => (sameI Z (off_below h1 (h2.trans (hZ.mono h2.size))) (off_below ou hZ) hy (by rw [hy]; have := modF_len xs i; omega)).mono fun _ _ ⟨h3, h4⟩ => ⟨h3, h2.trans ((hZ.trans (h4.mono hZ.size)).mono h2.size)⟩, h2⟩
theorem mdB_mk (MO : ModeOff) {xs ys : List Int} {W : World} {b b1 : Nat} {v u2 : Value} {i : Int} (hl : xs.length ≤ 2000000) (h : OffI W b v xs.length xs) (h1 : OffI W b1 u2 ys.length ys) (hy : (modF xs i).length = ys.length) (hg : gtL ys (modF xs i) = false) : MdB 19 v i u2 false W := fun X hX =>
  (MO xs i _ rfl X b v hl (off_below h hX)).mono fun e2 w2 ⟨u, he, ou, bu⟩ =>
    have h2 : Below W.heap.size W w2 := hX.trans (bu.mono hX.size)
    ⟨u, he, fun Z hZ => by
      have k := later_off Z _ _ u u2 (modF xs i) ys (by have := modF_len xs i; omega) hy (off_below ou hZ) (off_below h1 (h2.trans (hZ.mono h2.size)))
      rw [hg] at k
      exact k.mono fun _ _ ⟨h3, h4⟩ => ⟨h3, h2.trans ((hZ.trans (h4.mono hZ.size)).mono h2.size)⟩, h2⟩
theorem rvA_mk (RV : RevOff) {xs : List Int} {W : World} {b : Nat} {v : Value} (hs : ScOk xs) (hl : xs.length ≤ 2000000) (h : OffI W b v xs.length xs) : RvA 15 v v true W := fun X hX =>
  (RV xs _ rfl X b v hl (off_below h hX)).mono fun e2 w2 ⟨u, he, ou, bu⟩ =>
    have h2 : Below W.heap.size W w2 := hX.trans (bu.mono hX.size)
    ⟨u, he, fun Y hY => (RV (revF xs) _ rfl Y _ u (by have := revF_len xs; omega) (off_below (off_own ou) hY)).mono fun e3 w3 ⟨u2, he3, ou3, bu3⟩ =>
      have h3 : Below W.heap.size W w3 := h2.trans ((hY.trans (bu3.mono hY.size)).mono h2.size)
      ⟨u2, he3, fun Z hZ => (sameI Z (off_below (off_own ou3) hZ) (off_below h (h3.trans (hZ.mono h3.size))) (rev_twice hs) (by have := revF_len (revF xs); omega)).mono fun _ _ ⟨h5, h6⟩ => ⟨h5, h3.trans ((hZ.trans (h6.mono hZ.size)).mono h3.size)⟩, h3⟩, h2⟩
theorem one_m {w : World} {m : Nat} {v : Value} (h : One m v w) : w.cell? ⟨m, 0, none⟩ = some v := h.2.1
/-- Three boxes. -/
def Bx3 (m3 m7 m8 : Nat) (v3 v7 v8 : Value) (W : World) : Prop := One m3 v3 W ∧ One m7 v7 W ∧ One m8 v8 W
theorem bx3_cells {m3 m7 m8 : Nat} {v3 v7 v8 : Value} {W X : World} (h : Bx3 m3 m7 m8 v3 v7 v8 W) (hb : Below W.heap.size W X) : X.cell? ⟨m3, 0, none⟩ = some v3 ∧ X.cell? ⟨m7, 0, none⟩ = some v7 ∧ X.cell? ⟨m8, 0, none⟩ = some v8 :=
  ⟨one_m (one_keep hb h.1), one_m (one_keep hb h.2.1), one_m (one_keep hb h.2.2)⟩
set_option maxRecDepth 100000 in
set_option maxHeartbeats 16000000 in
theorem walk_FnModesBy (MO : ModeOff) (CM : CntOff) (BR : BrightOff) (RV : RevOff) (TI : TwoMOff) (SM : SmOff) (MR : MirOff) (a0 : Option Addr) (len0 cap0 : Nat) (z0 : List Int) (w : World) (hr : IsRow .u8 w a0 len0 cap0 z0) :
    Calls Try.prog 3 #[.slice a0 len0 cap0] w fun e w' => e = .returned (.bool true) ∧ Below w.heap.size w w' := by
  have hlen := (row_len hr).2
  by_cases hbig : 1048576 < len0
  · have t0 : decide (1048576 < (len0 : Int)) = true := by simp; omega
    go_enter Try.func3, Try.ntmps3
    go_wp2_with fail
    refine (bigW_any _ _ _ _ hlen).mono ?_
    rintro e w' ⟨rfl, rfl⟩
    go_wp2_with fail
    go_ret
    exact ⟨rfl, Below.refl _ _⟩
  · have t0 : decide (1048576 < (len0 : Int)) = false := by simp; omega
    have HR := Lib.hid hr
    obtain ⟨u0, hu0, hat0⟩ := at_fix hr (by omega) 0 (by omega)
    obtain ⟨u1, hu1, hat1⟩ := at_fix hr (by omega) 1 (by omega)
    have AT0 := Lib.hid hat0
    have AT1 := Lib.hid hat1
    have HLEN := Lib.hid hlen
    clear hr hbig hlen hat0 hat1 hu0 hu1
    go_enter Try.func3, Try.ntmps3
    go_wp2_with fail
    refine (bigW_any _ _ _ _ HLEN.out).mono ?_
    rintro e w' ⟨rfl, rfl⟩
    rw [t0]
    go_wp2_with fail
    clear t0
    refine (drawScale_any HR.out).mono ?_
    rintro e w1 ⟨xs, p, c, hsm, rfl, o1, b1⟩
    have OK := Lib.hid (smallSc_ok hsm)
    obtain ⟨n, hn⟩ : ∃ n, n = xs.length := ⟨_, rfl⟩
    rw [← hn] at o1 ⊢
    have HN := Lib.hid hn
    have hn8 : 1 ≤ n ∧ n ≤ 8 := by rw [hn]; exact hsm.1
    have X1 := Lib.hid (one_alloc (w := w1) (v := .slice p n c) (t := 26))
    have O1 := Lib.hid (own_below o1 (below_alloc1 w1 (.cells #[.slice p n c] 26)))
    have B1 := Lib.hid (b1.alloc b1.size (.cells #[.slice p n c] 26))
    clear hsm o1 b1 HR HLEN hn
    go_upto_region 4 with fail
    obtain ⟨W1, hW⟩ : ∃ W, W = w1.alloc (.cells #[.slice p n c] 26) := ⟨_, rfl⟩
    obtain ⟨m3, hm⟩ : ∃ m, m = w1.heap.size := ⟨_, rfl⟩
    rw [← hW] at X1 O1 B1 ⊢
    rw [← hm] at X1 ⊢
    clear hW hm
    have h0 : Hid (0 < xs.length) := Lib.hid (by have := HN.out; omega)
    obtain ⟨a, ha⟩ : ∃ a, a = u0 % n := ⟨_, rfl⟩
    obtain ⟨b, hb⟩ : ∃ b, b = u1 % n := ⟨_, rfl⟩
    have han : a < n := by rw [ha]; exact Nat.mod_lt _ (by omega)
    have hbn : b < n := by rw [hb]; exact Nat.mod_lt _ (by omega)
    have e1 : (u0 : Int).tmod (n : Int) = (a : Int) := by rw [Int.tmod_eq_emod_of_nonneg (by omega), ha]; rfl
    have e1e : (u0 : Int) % (n : Int) = (a : Int) := by rw [ha]; rfl
    have e2 : (u1 : Int).tmod (n : Int) = (b : Int) := by rw [Int.tmod_eq_emod_of_nonneg (by omega), hb]; rfl
    have e2e : (u1 : Int) % (n : Int) = (b : Int) := by rw [hb]; rfl
    have z1 : ¬ (n : Int) = 0 := by omega
    have z1n : ¬ n = 0 := by omega
    have HAN := Lib.hid han
    have HBN := Lib.hid hbn
    clear ha hb han hbn
    obtain ⟨_, c1, _⟩ := X1.out
    have HL := Lib.hid (show xs.length ≤ 2000000 from by have := HN.out; omega)
    have OX := Lib.hid (off_own (own_eq O1.out (rfl : xs = xs) HN.out))
    go_wp2_with fail
    refine (AT0.out _ B1.out).mono ?_
    rintro e w2 ⟨rfl, rfl⟩
    go_wp2_with fail
    refine (AT1.out _ B1.out).mono ?_
    rintro e w2 ⟨rfl, rfl⟩
    clear e1 e1e AT0 AT1
    go_wp2_with fail
    clear e2 e2e
    refine (MO xs (a : Int) _ rfl _ _ _ HL.out OX.out).mono ?_
    rintro e w3 ⟨vm, rfl, o3, b3⟩
    rw [mod_yes OK.out (show a < xs.length from by rw [← HN.out]; exact HAN.out)] at o3
    obtain ⟨ms, hms⟩ : ∃ l, l = modL xs a := ⟨_, rfl⟩
    rw [← hms] at o3
    have HMS := Lib.hid hms
    have hml : ms.length = n := by rw [hms, modL_len, HN.out]
    have HML := Lib.hid hml.symm
    have MOK : Hid (ScOk ms) := Lib.hid (by rw [hms]; exact scOk_mode OK.out a)
    rw [hml] at o3
    obtain ⟨pm, cm, rfl⟩ := off_slice o3
    have A3 := below_alloc1 w3 (.cells #[.slice pm n cm] 26)
    have B3 := Lib.hid ((B1.out.trans (b3.mono B1.out.size)).trans (A3.mono (Nat.le_trans B1.out.size b3.size)))
    have X3 := Lib.hid (one_keep A3 (one_keep b3 X1.out))
    have Y3 := Lib.hid (one_alloc (w := w3) (v := .slice pm n cm) (t := 26))
    have O3 := Lib.hid (off_below (off_below OX.out b3) A3)
    have P3 := Lib.hid (off_eq (off_below o3 A3) (rfl : ms = ms) HML.out)
    clear hms hml o3 b3 A3 c1 O1 OX X1 B1
    go_upto_region 8 with fail
    obtain ⟨W3, hW⟩ : ∃ W, W = w3.alloc (.cells #[.slice pm n cm] 26) := ⟨_, rfl⟩
    obtain ⟨m7, hm⟩ : ∃ m, m = w3.heap.size := ⟨_, rfl⟩
    rw [← hW] at B3 X3 Y3 O3 P3 ⊢
    rw [← hm] at Y3 ⊢
    clear hW hm
    obtain ⟨_, c3, _⟩ := Y3.out
    have HLM := Lib.hid (show ms.length ≤ 2000000 from by have := HML.out; omega)
    go_wp2_with fail
    refine (MO ms (b : Int) _ rfl _ _ _ HLM.out P3.out).mono ?_
    rintro e w4 ⟨vx, rfl, o4, b4⟩
    rw [mod_yes MOK.out (show b < ms.length from by rw [← HML.out]; exact HBN.out)] at o4
    obtain ⟨qs, hqs⟩ : ∃ l, l = modL ms b := ⟨_, rfl⟩
    rw [← hqs] at o4
    have hq2 : qs = modL xs (a + b) := by rw [hqs, HMS.out, mode_mode h0.out]
    have HQS := Lib.hid hq2
    have hql : qs.length = n := by rw [hq2, modL_len, HN.out]
    have HQL := Lib.hid hql.symm
    rw [hql] at o4
    obtain ⟨px, cx, rfl⟩ := off_slice o4
    have A4 := below_alloc1 w4 (.cells #[.slice px n cx] 26)
    have B4 := Lib.hid ((B3.out.trans (b4.mono B3.out.size)).trans (A4.mono (Nat.le_trans B3.out.size b4.size)))
    have X4 := Lib.hid (one_keep A4 (one_keep b4 X3.out))
    have Y4 := Lib.hid (one_keep A4 (one_keep b4 Y3.out))
    have Z4 := Lib.hid (one_alloc (w := w4) (v := .slice px n cx) (t := 26))
    have O4 := Lib.hid (off_below (off_below O3.out b4) A4)
    have P4 := Lib.hid (off_below (off_below P3.out b4) A4)
    have Q4 := Lib.hid (off_eq (off_below o4 A4) (rfl : qs = qs) HQL.out)
    clear hqs hq2 hql o4 b4 A4 c3 X3 Y3 O3 P3 B3
    go_upto_region 9 with fail
    obtain ⟨W4, hW⟩ : ∃ W, W = w4.alloc (.cells #[.slice px n cx] 26) := ⟨_, rfl⟩
    obtain ⟨m8, hm⟩ : ∃ m, m = w4.heap.size := ⟨_, rfl⟩
    rw [← hW] at B4 X4 Y4 Z4 O4 P4 Q4 ⊢
    rw [← hm] at Z4 ⊢
    clear hW hm
    obtain ⟨_, c4, _⟩ := X4.out
    go_wp2_with fail
    refine (CM xs _ rfl _ _ _ HL.out O4.out).mono ?_
    rintro e w5 ⟨rfl, b5⟩
    obtain ⟨cn, hcn⟩ : ∃ x, x = cmTo xs xs.length := ⟨_, rfl⟩
    have HCN := Lib.hid (show cntF xs = (cn : Int) from by rw [hcn]; exact if_pos OK.out)
    have hcd := cm_divides h0.out
    rw [← hcn, ← HN.out] at hcd
    have hcle := cmTo_le xs xs.length
    rw [← hcn, ← HN.out] at hcle
    rw [HCN.out]
    have K5 := Lib.hid b5
    obtain ⟨_, c5, _⟩ := one_keep b5 X4.out
    clear c4 b5 hcn
    go_wp2_with fail
    refine (BR xs _ rfl _ _ _ HL.out (off_below O4.out K5.out)).mono ?_
    rintro e w6 ⟨rfl, b6⟩
    obtain ⟨gn, hgn⟩ : ∃ x, x = brTo xs xs.length := ⟨_, rfl⟩
    have HGV := Lib.hid (show brF xs = (gn : Int) from by rw [hgn]; exact if_pos OK.out)
    have hgl : gn < n := by
      have h1 := h0.out
      have h2 := brTo_lt xs (xs.length - 1)
      rw [show xs.length - 1 + 1 = xs.length from by omega, ← hgn, ← HN.out] at h2
      have := HN.out
      omega
    have HGT := Lib.hid (show ∀ i, i < n → gtL (modL xs i) (modL xs gn) = false from by rw [hgn, HN.out]; exact fun i hi => br_top xs xs.length i hi)
    rw [HGV.out]
    have K6 := Lib.hid (K5.out.trans (b6.mono K5.out.size))
    obtain ⟨_, c6, _⟩ := one_keep K6.out X4.out
    obtain ⟨_, d6, _⟩ := one_keep K6.out Y4.out
    clear c5 b6 hgn K5
    go_wp2_with fail
    refine (SM xs ms _ rfl _ _ _ _ _ HL.out HLM.out (off_below O4.out K6.out) (off_below P4.out K6.out)).mono ?_
    rintro e w7 ⟨rfl, b7⟩
    obtain ⟨kn, hkn⟩ : ∃ x, x = smF xs ms := ⟨_, rfl⟩
    have hk1 : 0 ≤ kn ∧ kn ≤ a := by
      rw [hkn]
      unfold smF
      rw [if_pos OK.out]
      exact smTo_has _ a (by rw [← HN.out]; exact HAN.out) HMS.out.symm
    rw [← hkn]
    have K7 := Lib.hid (K6.out.trans (b7.mono K6.out.size))
    clear c6 d6 b7 hkn K6
    have r1 : (n : Int).tmod (cn : Int) = 0 := by rw [Int.tmod_eq_emod_of_nonneg (by omega)]; have := hcd.2; omega
    have r2 : (n : Int) % (cn : Int) = 0 := by have := hcd.2; omega
    have r3 : ¬ (cn : Int) = 0 := by have := hcd.1; omega
    have r4 : ¬ cn = 0 := by have := hcd.1; omega
    have r5 : ¬ (cn : Int) < 1 := by have := hcd.1; omega
    have r6 : ¬ (gn : Int) < 0 := by omega
    have r7 : ¬ kn < 0 := by omega
    have r8 : ¬ (a : Int) < kn := by omega
    have B7 := Lib.hid (B4.out.trans (K7.out.mono B4.out.size))
    have BX : Hid (Bx3 m3 m7 m8 (.slice p n c) (.slice pm n cm) (.slice px n cx) w7) := Lib.hid ⟨one_keep K7.out X4.out, one_keep K7.out Y4.out, one_keep K7.out Z4.out⟩
    have O7 := off_below O4.out K7.out
    have P7 := off_below P4.out K7.out
    have Q7 := off_below Q4.out K7.out
    obtain ⟨ab, hab⟩ : ∃ x, x = a + b := ⟨_, rfl⟩
    obtain ⟨l, hl⟩ : ∃ x, x = ab % n := ⟨_, rfl⟩
    have hln : l < n := by rw [hl]; exact Nat.mod_lt _ (by omega)
    have F1 : MdA 15 (.slice px n cx) (.slice p n c) (l : Int) true w7 := mdA_mk MO HL.out O7 Q7 (by rw [mod_yes OK.out (by rw [← HN.out]; exact hln), hl, HN.out, mode_mod xs h0.out, hab]; exact HQS.out)
    obtain ⟨zt, hzt⟩ : ∃ z, z = twoB xs := ⟨_, rfl⟩
    have F2 : TwG (.slice p n c) zt w7 := fun X hX => (TI xs zt hzt X _ _ HL.out (off_below O7 hX)).mono fun _ _ ⟨he, hb⟩ => ⟨he, hX.trans (hb.mono hX.size)⟩
    have F3 : TwG (.slice pm n cm) zt w7 := fun X hX => (TI ms zt (by rw [hzt, HMS.out]; exact (two_mode OK.out a).symm) X _ _ HLM.out (off_below P7 hX)).mono fun _ _ ⟨he, hb⟩ => ⟨he, hX.trans (hb.mono hX.size)⟩
    have F4 : CnG (.slice pm n cm) (cn : Int) w7 := fun X hX => (CM ms (cn : Int) (by show (cn : Int) = cntF ms; rw [HMS.out, cnt_mode OK.out a]; exact HCN.out.symm) X _ _ HLM.out (off_below P7 hX)).mono fun _ _ ⟨he, hb⟩ => ⟨he, hX.trans (hb.mono hX.size)⟩
    obtain ⟨zm, hzm⟩ : ∃ z, z = mirB xs := ⟨_, rfl⟩
    have F5 : MiG (.slice p n c) zm w7 := fun X hX => (MR xs zm hzm X _ _ HL.out (off_below O7 hX)).mono fun _ _ ⟨he, hb⟩ => ⟨he, hX.trans (hb.mono hX.size)⟩
    have F6 : MiG (.slice pm n cm) zm w7 := fun X hX => (MR ms zm (by rw [hzm, HMS.out]; exact (mir_mode OK.out a).symm) X _ _ HLM.out (off_below P7 hX)).mono fun _ _ ⟨he, hb⟩ => ⟨he, hX.trans (hb.mono hX.size)⟩
    have F7 : RvA 15 (.slice p n c) (.slice p n c) true w7 := rvA_mk RV OK.out HL.out O7
    have F8 : MdB 19 (.slice p n c) (gn : Int) (.slice pm n cm) false w7 := mdB_mk MO HL.out O7 P7 (by rw [mod_yes OK.out (by rw [← HN.out]; exact hgl), modL_len, HMS.out, modL_len]) (by rw [mod_yes OK.out (by rw [← HN.out]; exact hgl), HMS.out]; exact HGT.out a HAN.out)
    have wa : IntKind.i64.wrap ((a : Int) + b) = (ab : Int) := by rw [hab]; exact IntWalk.i64_in _ (by have := HAN.out; have := HBN.out; omega)
    have vt : (ab : Int).tmod (n : Int) = (l : Int) := by rw [Int.tmod_eq_emod_of_nonneg (by omega), hl]; rfl
    have ve : (ab : Int) % (n : Int) = (l : Int) := by rw [hl]; rfl
    have q1 : (zt == zt) = true := by simp
    have q2 : (zm == zm) = true := by simp
    have q3 : ((cn : Int) == (cn : Int)) = true := by simp
    clear hab hl hln hzt hzm O7 P7 Q7 hcd hcle hgl hk1 O4 P4 Q4 X4 Y4 Z4 B4 K7 HGT HAN HBN MO CM BR RV TI SM MR
    go_wp2_with fail
    go_upto_region 14 with fail
    refine wp_region_held_drew (S := (fun w' => w'.cell? ⟨m3, 0, none⟩ = some (.slice p n c) ∧ w'.cell? ⟨m7, 0, none⟩ = some (.slice pm n cm) ∧ w'.cell? ⟨m8, 0, none⟩ = some (.slice px n cx))) (by kernel_rfl) ?_ (fun hHeld => ?_)
    · exact bx3_cells BX.out (Below.refl _ _).drew
    refine takeD (i := 0) (d := (some 61)) (v := (.pointer (some ⟨m8, 0, none⟩))) rfl rfl (by kernel_rfl) (by kernel_rfl) (by kernel_rfl) (fun _ _ _ h => h) (Or.inl ⟨by kernel_rfl, ?_⟩) (by assumption) ?_
    · intro wS hSw
      (try dsimp only at hSw)
      go_simp
      first | done | assumption | (simp only [wa]; done) | (simp only [vt]; done) | (simp only [ve]; done) | (simp; done) | (simp [vt, ve, z1, z1n]; done)
    (try simp only [Act.put]); (try simp only [List.setIfInBounds_toArray]); (try simp only [List.set_cons_succ]); (try simp only [List.set_cons_zero])
    refine takeD (i := 1) (d := (some 62)) (v := (.slice px n cx)) rfl rfl (by kernel_rfl) (by kernel_rfl) (by kernel_rfl) (fun _ _ _ h => h) (Or.inl ⟨by kernel_rfl, ?_⟩) (by assumption) ?_
    · intro wS hSw
      (try dsimp only at hSw)
      go_simp
      first | done | assumption | (simp only [wa]; done) | (simp only [vt]; done) | (simp only [ve]; done) | (simp; done) | (simp [vt, ve, z1, z1n]; done)
    (try simp only [Act.put]); (try simp only [List.setIfInBounds_toArray]); (try simp only [List.set_cons_succ]); (try simp only [List.set_cons_zero])
    refine takeD (i := 2) (d := (some 63)) (v := (cirV (.slice p n c))) rfl rfl (by kernel_rfl) (by kernel_rfl) (by kernel_rfl) (fun _ _ _ h => h) (Or.inl ⟨by kernel_rfl, ?_⟩) (by assumption) ?_
    · intro wS hSw
      (try dsimp only at hSw)
      go_simp
      first | done | assumption | (simp only [wa]; done) | (simp only [vt]; done) | (simp only [ve]; done) | (simp; done) | (simp [vt, ve, z1, z1n]; done)
    (try simp only [Act.put]); (try simp only [List.setIfInBounds_toArray]); (try simp only [List.set_cons_succ]); (try simp only [List.set_cons_zero])
    refine takeD (i := 3) (d := (some 64)) (v := (.int .i64 (a : Int))) rfl rfl (by kernel_rfl) (by kernel_rfl) (by kernel_rfl) (fun _ _ _ h => h) (Or.inl ⟨by kernel_rfl, ?_⟩) (by assumption) ?_
    · intro wS hSw
      (try dsimp only at hSw)
      go_simp
      first | done | assumption | (simp only [wa]; done) | (simp only [vt]; done) | (simp only [ve]; done) | (simp; done) | (simp [vt, ve, z1, z1n]; done)
    (try simp only [Act.put]); (try simp only [List.setIfInBounds_toArray]); (try simp only [List.set_cons_succ]); (try simp only [List.set_cons_zero])
    refine takeD (i := 4) (d := (some 65)) (v := (.int .i64 (b : Int))) rfl rfl (by kernel_rfl) (by kernel_rfl) (by kernel_rfl) (fun _ _ _ h => h) (Or.inl ⟨by kernel_rfl, ?_⟩) (by assumption) ?_
    · intro wS hSw
      (try dsimp only at hSw)
      go_simp
      first | done | assumption | (simp only [wa]; done) | (simp only [vt]; done) | (simp only [ve]; done) | (simp; done) | (simp [vt, ve, z1, z1n]; done)
    (try simp only [Act.put]); (try simp only [List.setIfInBounds_toArray]); (try simp only [List.set_cons_succ]); (try simp only [List.set_cons_zero])
    refine takeD (i := 5) (d := (some 66)) (v := (.int .i64 (ab : Int))) rfl rfl (by kernel_rfl) (by kernel_rfl) (by kernel_rfl) (fun _ _ _ h => h) (Or.inl ⟨by kernel_rfl, ?_⟩) (by assumption) ?_
    · intro wS hSw
      (try dsimp only at hSw)
      go_simp
      first | done | assumption | (simp only [wa]; done) | (simp only [vt]; done) | (simp only [ve]; done) | (simp; done) | (simp [vt, ve, z1, z1n]; done)
    (try simp only [Act.put]); (try simp only [List.setIfInBounds_toArray]); (try simp only [List.set_cons_succ]); (try simp only [List.set_cons_zero])
    refine takeD (i := 6) (d := (some 67)) (v := (.int .i64 (n : Int))) rfl rfl (by kernel_rfl) (by kernel_rfl) (by kernel_rfl) (fun _ _ _ h => h) (Or.inl ⟨by kernel_rfl, ?_⟩) (by assumption) ?_
    · intro wS hSw
      (try dsimp only at hSw)
      go_simp
      first | done | assumption | (simp only [wa]; done) | (simp only [vt]; done) | (simp only [ve]; done) | (simp; done) | (simp [vt, ve, z1, z1n]; done)
    (try simp only [Act.put]); (try simp only [List.setIfInBounds_toArray]); (try simp only [List.set_cons_succ]); (try simp only [List.set_cons_zero])
    refine takeD (i := 7) (d := (some 68)) (v := (.int .i64 (l : Int))) rfl rfl (by kernel_rfl) (by kernel_rfl) (by kernel_rfl) (fun _ _ _ h => h) (Or.inl ⟨by kernel_rfl, ?_⟩) (by assumption) ?_
    · intro wS hSw
      (try dsimp only at hSw)
      go_simp
      first | done | assumption | (simp only [wa]; done) | (simp only [vt]; done) | (simp only [ve]; done) | (simp; done) | (simp [vt, ve, z1, z1n]; done)
    (try simp only [Act.put]); (try simp only [List.setIfInBounds_toArray]); (try simp only [List.set_cons_succ]); (try simp only [List.set_cons_zero])
    refine wpAnyH_ready (rs := [8]) (by kernel_rfl) (by simp) ?_
    refine AllReadyH.cons rfl (fun K hK => ?_) AllReadyH.nil
    go_simp
    refine (MdA_run (W := w7) F1 _ (by with_reducible first | assumption | exact (Below.refl _ _) | exact (Below.refl _ _).drew)).mono ?_
    rintro e1 w1 ⟨u9, rfl, h9, hb⟩
    go_wp2_with fail
    refine hK.out _ _ ?_ (fun hHeld => ?_)
    · exact bx3_cells BX.out hb
    clear hK K
    (try simp only [Act.put]); (try simp only [List.setIfInBounds_toArray]); (try simp only [List.set_cons_succ]); (try simp only [List.set_cons_zero])
    refine takeD (i := 9) (d := (some 70)) (v := u9) rfl rfl (by kernel_rfl) (by kernel_rfl) (by kernel_rfl) (fun _ _ _ h => h) (Or.inl ⟨by kernel_rfl, ?_⟩) (by assumption) ?_
    · intro wS hSw
      (try dsimp only at hSw)
      go_simp
      first | done | (rw [scFld]; done) | (simp [scFld]; done)
    (try simp only [Act.put]); (try simp only [List.setIfInBounds_toArray]); (try simp only [List.set_cons_succ]); (try simp only [List.set_cons_zero])
    refine wpAnyH_ready (rs := [10]) (by kernel_rfl) (by simp) ?_
    refine AllReadyH.cons rfl (fun K hK => ?_) AllReadyH.nil
    go_simp
    refine (fn2_run h9 _ (by with_reducible first | assumption | exact (Below.refl _ _) | exact (Below.refl _ _).drew)).mono ?_
    rintro e1 w1 ⟨rfl, hb⟩
    go_wp2_with fail
    refine hK.out _ _ ?_ (fun hHeld => ?_)
    · exact bx3_cells BX.out hb
    clear hK K
    (try simp only [Act.put]); (try simp only [List.setIfInBounds_toArray]); (try simp only [List.set_cons_succ]); (try simp only [List.set_cons_zero])
    refine takeD (i := 11) (d := (some 72)) (v := (.bool true)) rfl rfl (by kernel_rfl) (by kernel_rfl) (by kernel_rfl) (fun _ _ _ h => h) (Or.inl ⟨by kernel_rfl, ?_⟩) (by assumption) ?_
    · intro wS hSw
      (try dsimp only at hSw)
      go_simp
      first | done | assumption | (simp only [wa]; done) | (simp only [vt]; done) | (simp only [ve]; done) | (simp; done) | (simp [vt, ve, z1, z1n]; done)
    (try simp only [Act.put]); (try simp only [List.setIfInBounds_toArray]); (try simp only [List.set_cons_succ]); (try simp only [List.set_cons_zero])
    refine takeD (i := 12) (d := (some 73)) (v := (cirV (.slice pm n cm))) rfl rfl (by kernel_rfl) (by kernel_rfl) (by kernel_rfl) (fun _ _ _ h => h) (Or.inl ⟨by kernel_rfl, ?_⟩) (by assumption) ?_
    · intro wS hSw
      (try dsimp only at hSw)
      go_simp
      first | done | assumption | (simp only [wa]; done) | (simp only [vt]; done) | (simp only [ve]; done) | (simp; done) | (simp [vt, ve, z1, z1n]; done)
    (try simp only [Act.put]); (try simp only [List.setIfInBounds_toArray]); (try simp only [List.set_cons_succ]); (try simp only [List.set_cons_zero])
    refine takeD (i := 14) (d := (some 75)) (v := (cirV (.slice p n c))) rfl rfl (by kernel_rfl) (by kernel_rfl) (by kernel_rfl) (fun _ _ _ h => h) (Or.inl ⟨by kernel_rfl, ?_⟩) (by assumption) ?_
    · intro wS hSw
      (try dsimp only at hSw)
      go_simp
      first | done | assumption | (simp only [wa]; done) | (simp only [vt]; done) | (simp only [ve]; done) | (simp; done) | (simp [vt, ve, z1, z1n]; done)
    (try simp only [Act.put]); (try simp only [List.setIfInBounds_toArray]); (try simp only [List.set_cons_succ]); (try simp only [List.set_cons_zero])
    refine wpAnyH_ready (rs := [13]) (by kernel_rfl) (by simp) ?_
    refine AllReadyH.cons rfl (fun K hK => ?_) AllReadyH.nil
    go_simp
    refine (TwG_run (W := w7) F3 _ (by with_reducible first | assumption | exact (Below.refl _ _) | exact (Below.refl _ _).drew)).mono ?_
    rintro e1 w1 ⟨rfl, hb⟩
    go_wp2_with fail
    refine hK.out _ _ ?_ (fun hHeld => ?_)
    · exact bx3_cells BX.out hb
    clear hK K
    (try simp only [Act.put]); (try simp only [List.setIfInBounds_toArray]); (try simp only [List.set_cons_succ]); (try simp only [List.set_cons_zero])
    refine wpAnyH_ready (rs := [15]) (by kernel_rfl) (by simp) ?_
    refine AllReadyH.cons rfl (fun K hK => ?_) AllReadyH.nil
    go_simp
    refine (TwG_run (W := w7) F2 _ (by with_reducible first | assumption | exact (Below.refl _ _) | exact (Below.refl _ _).drew)).mono ?_
    rintro e1 w1 ⟨rfl, hb⟩
    go_wp2_with fail
    refine hK.out _ _ ?_ (fun hHeld => ?_)
    · exact bx3_cells BX.out hb
    clear hK K
    (try simp only [Act.put]); (try simp only [List.setIfInBounds_toArray]); (try simp only [List.set_cons_succ]); (try simp only [List.set_cons_zero])
    refine takeD (i := 16) (d := (some 77)) (v := (.bool true)) rfl rfl (by kernel_rfl) (by kernel_rfl) (by kernel_rfl) (fun _ _ _ h => h) (Or.inl ⟨by kernel_rfl, ?_⟩) (by assumption) ?_
    · intro wS hSw
      (try dsimp only at hSw)
      go_simp
      first | done | assumption | (simp only [wa]; done) | (simp only [vt]; done) | (simp only [ve]; done) | (simp; done) | (simp [vt, ve, z1, z1n]; done)
    (try simp only [Act.put]); (try simp only [List.setIfInBounds_toArray]); (try simp only [List.set_cons_succ]); (try simp only [List.set_cons_zero])
    refine takeD (i := 17) (d := (some 78)) (v := (.bool true)) rfl rfl (by kernel_rfl) (by kernel_rfl) (by kernel_rfl) (fun _ _ _ h => h) (Or.inl ⟨by kernel_rfl, ?_⟩) (by assumption) ?_
    · intro wS hSw
      (try dsimp only at hSw)
      go_simp
      first | done | assumption | (simp only [wa]; done) | (simp only [vt]; done) | (simp only [ve]; done) | (simp; done) | (simp [vt, ve, z1, z1n]; done)
    (try simp only [Act.put]); (try simp only [List.setIfInBounds_toArray]); (try simp only [List.set_cons_succ]); (try simp only [List.set_cons_zero])
    refine takeD (i := 18) (d := (some 79)) (v := (.bool true)) rfl rfl (by kernel_rfl) (by kernel_rfl) (by kernel_rfl) (fun _ _ _ h => h) (Or.inl ⟨by kernel_rfl, ?_⟩) (by assumption) ?_
    · intro wS hSw
      (try dsimp only at hSw)
      go_simp
      first | done | assumption | (simp only [wa]; done) | (simp only [vt]; done) | (simp only [ve]; done) | (simp; done) | (simp [vt, ve, z1, z1n]; done)
    (try simp only [Act.put]); (try simp only [List.setIfInBounds_toArray]); (try simp only [List.set_cons_succ]); (try simp only [List.set_cons_zero])
    refine takeD (i := 19) (d := (some 80)) (v := (cirV (.slice pm n cm))) rfl rfl (by kernel_rfl) (by kernel_rfl) (by kernel_rfl) (fun _ _ _ h => h) (Or.inl ⟨by kernel_rfl, ?_⟩) (by assumption) ?_
    · intro wS hSw
      (try dsimp only at hSw)
      go_simp
      first | done | assumption | (simp only [wa]; done) | (simp only [vt]; done) | (simp only [ve]; done) | (simp; done) | (simp [vt, ve, z1, z1n]; done)
    (try simp only [Act.put]); (try simp only [List.setIfInBounds_toArray]); (try simp only [List.set_cons_succ]); (try simp only [List.set_cons_zero])
    refine takeD (i := 21) (d := (some 82)) (v := (.int .i64 (cn : Int))) rfl rfl (by kernel_rfl) (by kernel_rfl) (by kernel_rfl) (fun _ _ _ h => h) (Or.inl ⟨by kernel_rfl, ?_⟩) (by assumption) ?_
    · intro wS hSw
      (try dsimp only at hSw)
      go_simp
      first | done | assumption | (simp only [wa]; done) | (simp only [vt]; done) | (simp only [ve]; done) | (simp; done) | (simp [vt, ve, z1, z1n]; done)
    (try simp only [Act.put]); (try simp only [List.setIfInBounds_toArray]); (try simp only [List.set_cons_succ]); (try simp only [List.set_cons_zero])
    refine wpAnyH_ready (rs := [20]) (by kernel_rfl) (by simp) ?_
    refine AllReadyH.cons rfl (fun K hK => ?_) AllReadyH.nil
    go_simp
    refine (CnG_run (W := w7) F4 _ (by with_reducible first | assumption | exact (Below.refl _ _) | exact (Below.refl _ _).drew)).mono ?_
    rintro e1 w1 ⟨rfl, hb⟩
    go_wp2_with fail
    refine hK.out _ _ ?_ (fun hHeld => ?_)
    · exact bx3_cells BX.out hb
    clear hK K
    (try simp only [Act.put]); (try simp only [List.setIfInBounds_toArray]); (try simp only [List.set_cons_succ]); (try simp only [List.set_cons_zero])
    refine takeD (i := 22) (d := (some 83)) (v := (.bool true)) rfl rfl (by kernel_rfl) (by kernel_rfl) (by kernel_rfl) (fun _ _ _ h => h) (Or.inl ⟨by kernel_rfl, ?_⟩) (by assumption) ?_
    · intro wS hSw
      (try dsimp only at hSw)
      go_simp
      first | done | assumption | (simp only [wa]; done) | (simp only [vt]; done) | (simp only [ve]; done) | (simp; done) | (simp [vt, ve, z1, z1n]; done)
    (try simp only [Act.put]); (try simp only [List.setIfInBounds_toArray]); (try simp only [List.set_cons_succ]); (try simp only [List.set_cons_zero])
    refine takeD (i := 23) (d := (some 84)) (v := (.bool true)) rfl rfl (by kernel_rfl) (by kernel_rfl) (by kernel_rfl) (fun _ _ _ h => h) (Or.inl ⟨by kernel_rfl, ?_⟩) (by assumption) ?_
    · intro wS hSw
      (try dsimp only at hSw)
      go_simp
      first | done | assumption | (simp only [wa]; done) | (simp only [vt]; done) | (simp only [ve]; done) | (simp; done) | (simp [vt, ve, z1, z1n]; done)
    (try simp only [Act.put]); (try simp only [List.setIfInBounds_toArray]); (try simp only [List.set_cons_succ]); (try simp only [List.set_cons_zero])
    refine takeD (i := 24) (d := (some 85)) (v := (.bool true)) rfl rfl (by kernel_rfl) (by kernel_rfl) (by kernel_rfl) (fun _ _ _ h => h) (Or.inl ⟨by kernel_rfl, ?_⟩) (by assumption) ?_
    · intro wS hSw
      (try dsimp only at hSw)
      go_simp
      first | done | assumption | (simp only [wa]; done) | (simp only [vt]; done) | (simp only [ve]; done) | (simp; done) | (simp [vt, ve, z1, z1n]; done)
    (try simp only [Act.put]); (try simp only [List.setIfInBounds_toArray]); (try simp only [List.set_cons_succ]); (try simp only [List.set_cons_zero])
    refine takeD (i := 25) (d := (some 86)) (v := (cirV (.slice pm n cm))) rfl rfl (by kernel_rfl) (by kernel_rfl) (by kernel_rfl) (fun _ _ _ h => h) (Or.inl ⟨by kernel_rfl, ?_⟩) (by assumption) ?_
    · intro wS hSw
      (try dsimp only at hSw)
      go_simp
      first | done | assumption | (simp only [wa]; done) | (simp only [vt]; done) | (simp only [ve]; done) | (simp; done) | (simp [vt, ve, z1, z1n]; done)
    (try simp only [Act.put]); (try simp only [List.setIfInBounds_toArray]); (try simp only [List.set_cons_succ]); (try simp only [List.set_cons_zero])
    refine takeD (i := 27) (d := (some 88)) (v := (cirV (.slice p n c))) rfl rfl (by kernel_rfl) (by kernel_rfl) (by kernel_rfl) (fun _ _ _ h => h) (Or.inl ⟨by kernel_rfl, ?_⟩) (by assumption) ?_
    · intro wS hSw
      (try dsimp only at hSw)
      go_simp
      first | done | assumption | (simp only [wa]; done) | (simp only [vt]; done) | (simp only [ve]; done) | (simp; done) | (simp [vt, ve, z1, z1n]; done)
    (try simp only [Act.put]); (try simp only [List.setIfInBounds_toArray]); (try simp only [List.set_cons_succ]); (try simp only [List.set_cons_zero])
    refine wpAnyH_ready (rs := [26]) (by kernel_rfl) (by simp) ?_
    refine AllReadyH.cons rfl (fun K hK => ?_) AllReadyH.nil
    go_simp
    refine (MiG_run (W := w7) F6 _ (by with_reducible first | assumption | exact (Below.refl _ _) | exact (Below.refl _ _).drew)).mono ?_
    rintro e1 w1 ⟨rfl, hb⟩
    go_wp2_with fail
    refine hK.out _ _ ?_ (fun hHeld => ?_)
    · exact bx3_cells BX.out hb
    clear hK K
    (try simp only [Act.put]); (try simp only [List.setIfInBounds_toArray]); (try simp only [List.set_cons_succ]); (try simp only [List.set_cons_zero])
    refine wpAnyH_ready (rs := [28]) (by kernel_rfl) (by simp) ?_
    refine AllReadyH.cons rfl (fun K hK => ?_) AllReadyH.nil
    go_simp
    refine (MiG_run (W := w7) F5 _ (by with_reducible first | assumption | exact (Below.refl _ _) | exact (Below.refl _ _).drew)).mono ?_
    rintro e1 w1 ⟨rfl, hb⟩
    go_wp2_with fail
    refine hK.out _ _ ?_ (fun hHeld => ?_)
    · exact bx3_cells BX.out hb
    clear hK K
    (try simp only [Act.put]); (try simp only [List.setIfInBounds_toArray]); (try simp only [List.set_cons_succ]); (try simp only [List.set_cons_zero])
    refine takeD (i := 29) (d := (some 90)) (v := (.bool true)) rfl rfl (by kernel_rfl) (by kernel_rfl) (by kernel_rfl) (fun _ _ _ h => h) (Or.inl ⟨by kernel_rfl, ?_⟩) (by assumption) ?_
    · intro wS hSw
      (try dsimp only at hSw)
      go_simp
      first | done | assumption | (simp only [wa]; done) | (simp only [vt]; done) | (simp only [ve]; done) | (simp; done) | (simp [vt, ve, z1, z1n]; done)
    (try simp only [Act.put]); (try simp only [List.setIfInBounds_toArray]); (try simp only [List.set_cons_succ]); (try simp only [List.set_cons_zero])
    refine takeD (i := 30) (d := (some 91)) (v := (.bool true)) rfl rfl (by kernel_rfl) (by kernel_rfl) (by kernel_rfl) (fun _ _ _ h => h) (Or.inl ⟨by kernel_rfl, ?_⟩) (by assumption) ?_
    · intro wS hSw
      (try dsimp only at hSw)
      go_simp
      first | done | assumption | (simp only [wa]; done) | (simp only [vt]; done) | (simp only [ve]; done) | (simp; done) | (simp [vt, ve, z1, z1n]; done)
    (try simp only [Act.put]); (try simp only [List.setIfInBounds_toArray]); (try simp only [List.set_cons_succ]); (try simp only [List.set_cons_zero])
    refine takeD (i := 31) (d := (some 92)) (v := (.bool true)) rfl rfl (by kernel_rfl) (by kernel_rfl) (by kernel_rfl) (fun _ _ _ h => h) (Or.inl ⟨by kernel_rfl, ?_⟩) (by assumption) ?_
    · intro wS hSw
      (try dsimp only at hSw)
      go_simp
      first | done | assumption | (simp only [wa]; done) | (simp only [vt]; done) | (simp only [ve]; done) | (simp; done) | (simp [vt, ve, z1, z1n]; done)
    (try simp only [Act.put]); (try simp only [List.setIfInBounds_toArray]); (try simp only [List.set_cons_succ]); (try simp only [List.set_cons_zero])
    refine takeD (i := 32) (d := (some 93)) (v := (cirV (.slice p n c))) rfl rfl (by kernel_rfl) (by kernel_rfl) (by kernel_rfl) (fun _ _ _ h => h) (Or.inl ⟨by kernel_rfl, ?_⟩) (by assumption) ?_
    · intro wS hSw
      (try dsimp only at hSw)
      go_simp
      first | done | assumption | (simp only [wa]; done) | (simp only [vt]; done) | (simp only [ve]; done) | (simp; done) | (simp [vt, ve, z1, z1n]; done)
    (try simp only [Act.put]); (try simp only [List.setIfInBounds_toArray]); (try simp only [List.set_cons_succ]); (try simp only [List.set_cons_zero])
    refine takeD (i := 36) (d := (some 97)) (v := (.pointer (some ⟨m3, 0, none⟩))) rfl rfl (by kernel_rfl) (by kernel_rfl) (by kernel_rfl) (fun _ _ _ h => h) (Or.inl ⟨by kernel_rfl, ?_⟩) (by assumption) ?_
    · intro wS hSw
      (try dsimp only at hSw)
      go_simp
      first | done | assumption | (simp only [wa]; done) | (simp only [vt]; done) | (simp only [ve]; done) | (simp; done) | (simp [vt, ve, z1, z1n]; done)
    (try simp only [Act.put]); (try simp only [List.setIfInBounds_toArray]); (try simp only [List.set_cons_succ]); (try simp only [List.set_cons_zero])
    refine takeD (i := 37) (d := (some 98)) (v := (.slice p n c)) rfl rfl (by kernel_rfl) (by kernel_rfl) (by kernel_rfl) (fun _ _ _ h => h) (Or.inl ⟨by kernel_rfl, ?_⟩) (by assumption) ?_
    · intro wS hSw
      (try dsimp only at hSw)
      go_simp
      first | done | assumption | (simp only [wa]; done) | (simp only [vt]; done) | (simp only [ve]; done) | (simp; done) | (simp [vt, ve, z1, z1n]; done)
    (try simp only [Act.put]); (try simp only [List.setIfInBounds_toArray]); (try simp only [List.set_cons_succ]); (try simp only [List.set_cons_zero])
    refine wpAnyH_ready (rs := [33]) (by kernel_rfl) (by simp) ?_
    refine AllReadyH.cons rfl (fun K hK => ?_) AllReadyH.nil
    go_simp
    refine (RvA_run (W := w7) F7 _ (by with_reducible first | assumption | exact (Below.refl _ _) | exact (Below.refl _ _).drew)).mono ?_
    rintro e1 w1 ⟨r1, rfl, hr1, hb⟩
    go_wp2_with fail
    refine hK.out _ _ ?_ (fun hHeld => ?_)
    · exact bx3_cells BX.out hb
    clear hK K
    (try simp only [Act.put]); (try simp only [List.setIfInBounds_toArray]); (try simp only [List.set_cons_succ]); (try simp only [List.set_cons_zero])
    refine wpAnyH_ready (rs := [34]) (by kernel_rfl) (by simp) ?_
    refine AllReadyH.cons rfl (fun K hK => ?_) AllReadyH.nil
    go_simp
    refine (RvB_run hr1 _ (by with_reducible first | assumption | exact (Below.refl _ _) | exact (Below.refl _ _).drew)).mono ?_
    rintro e1 w1 ⟨r2, rfl, hr2, hb⟩
    go_wp2_with fail
    refine hK.out _ _ ?_ (fun hHeld => ?_)
    · exact bx3_cells BX.out hb
    clear hK K
    (try simp only [Act.put]); (try simp only [List.setIfInBounds_toArray]); (try simp only [List.set_cons_succ]); (try simp only [List.set_cons_zero])
    refine takeD (i := 35) (d := (some 96)) (v := r2) rfl rfl (by kernel_rfl) (by kernel_rfl) (by kernel_rfl) (fun _ _ _ h => h) (Or.inl ⟨by kernel_rfl, ?_⟩) (by assumption) ?_
    · intro wS hSw
      (try dsimp only at hSw)
      go_simp
      first | done | (rw [scFld]; done) | (simp [scFld]; done)
    (try simp only [Act.put]); (try simp only [List.setIfInBounds_toArray]); (try simp only [List.set_cons_succ]); (try simp only [List.set_cons_zero])
    refine wpAnyH_ready (rs := [38]) (by kernel_rfl) (by simp) ?_
    refine AllReadyH.cons rfl (fun K hK => ?_) AllReadyH.nil
    go_simp
    refine (fn2_run hr2 _ (by with_reducible first | assumption | exact (Below.refl _ _) | exact (Below.refl _ _).drew)).mono ?_
    rintro e1 w1 ⟨rfl, hb⟩
    go_wp2_with fail
    refine hK.out _ _ ?_ (fun hHeld => ?_)
    · exact bx3_cells BX.out hb
    clear hK K
    (try simp only [Act.put]); (try simp only [List.setIfInBounds_toArray]); (try simp only [List.set_cons_succ]); (try simp only [List.set_cons_zero])
    refine takeD (i := 39) (d := (some 100)) (v := (.bool true)) rfl rfl (by kernel_rfl) (by kernel_rfl) (by kernel_rfl) (fun _ _ _ h => h) (Or.inl ⟨by kernel_rfl, ?_⟩) (by assumption) ?_
    · intro wS hSw
      (try dsimp only at hSw)
      go_simp
      first | done | assumption | (simp only [wa]; done) | (simp only [vt]; done) | (simp only [ve]; done) | (simp; done) | (simp [vt, ve, z1, z1n]; done)
    (try simp only [Act.put]); (try simp only [List.setIfInBounds_toArray]); (try simp only [List.set_cons_succ]); (try simp only [List.set_cons_zero])
    refine takeD (i := 40) (d := (some 101)) (v := (.bool true)) rfl rfl (by kernel_rfl) (by kernel_rfl) (by kernel_rfl) (fun _ _ _ h => h) (Or.inl ⟨by kernel_rfl, ?_⟩) (by assumption) ?_
    · intro wS hSw
      (try dsimp only at hSw)
      go_simp
      first | done | assumption | (simp only [wa]; done) | (simp only [vt]; done) | (simp only [ve]; done) | (simp; done) | (simp [vt, ve, z1, z1n]; done)
    (try simp only [Act.put]); (try simp only [List.setIfInBounds_toArray]); (try simp only [List.set_cons_succ]); (try simp only [List.set_cons_zero])
    refine takeD (i := 41) (d := (some 102)) (v := (cirV (.slice p n c))) rfl rfl (by kernel_rfl) (by kernel_rfl) (by kernel_rfl) (fun _ _ _ h => h) (Or.inl ⟨by kernel_rfl, ?_⟩) (by assumption) ?_
    · intro wS hSw
      (try dsimp only at hSw)
      go_simp
      first | done | assumption | (simp only [wa]; done) | (simp only [vt]; done) | (simp only [ve]; done) | (simp; done) | (simp [vt, ve, z1, z1n]; done)
    (try simp only [Act.put]); (try simp only [List.setIfInBounds_toArray]); (try simp only [List.set_cons_succ]); (try simp only [List.set_cons_zero])
    refine takeD (i := 42) (d := (some 103)) (v := (.int .i64 (gn : Int))) rfl rfl (by kernel_rfl) (by kernel_rfl) (by kernel_rfl) (fun _ _ _ h => h) (Or.inl ⟨by kernel_rfl, ?_⟩) (by assumption) ?_
    · intro wS hSw
      (try dsimp only at hSw)
      go_simp
      first | done | assumption | (simp only [wa]; done) | (simp only [vt]; done) | (simp only [ve]; done) | (simp; done) | (simp [vt, ve, z1, z1n]; done)
    (try simp only [Act.put]); (try simp only [List.setIfInBounds_toArray]); (try simp only [List.set_cons_succ]); (try simp only [List.set_cons_zero])
    refine takeD (i := 45) (d := (some 106)) (v := (.pointer (some ⟨m7, 0, none⟩))) rfl rfl (by kernel_rfl) (by kernel_rfl) (by kernel_rfl) (fun _ _ _ h => h) (Or.inl ⟨by kernel_rfl, ?_⟩) (by assumption) ?_
    · intro wS hSw
      (try dsimp only at hSw)
      go_simp
      first | done | assumption | (simp only [wa]; done) | (simp only [vt]; done) | (simp only [ve]; done) | (simp; done) | (simp [vt, ve, z1, z1n]; done)
    (try simp only [Act.put]); (try simp only [List.setIfInBounds_toArray]); (try simp only [List.set_cons_succ]); (try simp only [List.set_cons_zero])
    refine takeD (i := 46) (d := (some 107)) (v := (.slice pm n cm)) rfl rfl (by kernel_rfl) (by kernel_rfl) (by kernel_rfl) (fun _ _ _ h => h) (Or.inl ⟨by kernel_rfl, ?_⟩) (by assumption) ?_
    · intro wS hSw
      (try dsimp only at hSw)
      go_simp
      first | done | assumption | (simp only [wa]; done) | (simp only [vt]; done) | (simp only [ve]; done) | (simp; done) | (simp [vt, ve, z1, z1n]; done)
    (try simp only [Act.put]); (try simp only [List.setIfInBounds_toArray]); (try simp only [List.set_cons_succ]); (try simp only [List.set_cons_zero])
    refine wpAnyH_ready (rs := [43]) (by kernel_rfl) (by simp) ?_
    refine AllReadyH.cons rfl (fun K hK => ?_) AllReadyH.nil
    go_simp
    refine (MdB_run (W := w7) F8 _ (by with_reducible first | assumption | exact (Below.refl _ _) | exact (Below.refl _ _).drew)).mono ?_
    rintro e1 w1 ⟨u10, rfl, h10, hb⟩
    go_wp2_with fail
    refine hK.out _ _ ?_ (fun hHeld => ?_)
    · exact bx3_cells BX.out hb
    clear hK K
    (try simp only [Act.put]); (try simp only [List.setIfInBounds_toArray]); (try simp only [List.set_cons_succ]); (try simp only [List.set_cons_zero])
    refine takeD (i := 44) (d := (some 105)) (v := u10) rfl rfl (by kernel_rfl) (by kernel_rfl) (by kernel_rfl) (fun _ _ _ h => h) (Or.inl ⟨by kernel_rfl, ?_⟩) (by assumption) ?_
    · intro wS hSw
      (try dsimp only at hSw)
      go_simp
      first | done | (rw [scFld]; done) | (simp [scFld]; done)
    (try simp only [Act.put]); (try simp only [List.setIfInBounds_toArray]); (try simp only [List.set_cons_succ]); (try simp only [List.set_cons_zero])
    refine wpAnyH_ready (rs := [47]) (by kernel_rfl) (by simp) ?_
    refine AllReadyH.cons rfl (fun K hK => ?_) AllReadyH.nil
    go_simp
    refine (fn2_run h10 _ (by with_reducible first | assumption | exact (Below.refl _ _) | exact (Below.refl _ _).drew)).mono ?_
    rintro e1 w1 ⟨rfl, hb⟩
    go_wp2_with fail
    refine hK.out _ _ ?_ (fun hHeld => ?_)
    · exact bx3_cells BX.out hb
    clear hK K
    (try simp only [Act.put]); (try simp only [List.setIfInBounds_toArray]); (try simp only [List.set_cons_succ]); (try simp only [List.set_cons_zero])
    refine takeD (i := 48) (d := (some 109)) (v := (.bool true)) rfl rfl (by kernel_rfl) (by kernel_rfl) (by kernel_rfl) (fun _ _ _ h => h) (Or.inl ⟨by kernel_rfl, ?_⟩) (by assumption) ?_
    · intro wS hSw
      (try dsimp only at hSw)
      go_simp
      first | done | assumption | (simp only [wa]; done) | (simp only [vt]; done) | (simp only [ve]; done) | (simp; done) | (simp [vt, ve, z1, z1n]; done)
    (try simp only [Act.put]); (try simp only [List.setIfInBounds_toArray]); (try simp only [List.set_cons_succ]); (try simp only [List.set_cons_zero])
    refine takeD (i := 49) (d := (some 110)) (v := (.bool true)) rfl rfl (by kernel_rfl) (by kernel_rfl) (by kernel_rfl) (fun _ _ _ h => h) (Or.inl ⟨by kernel_rfl, ?_⟩) (by assumption) ?_
    · intro wS hSw
      (try dsimp only at hSw)
      go_simp
      first | done | assumption | (simp only [wa]; done) | (simp only [vt]; done) | (simp only [ve]; done) | (simp; done) | (simp [vt, ve, z1, z1n]; done)
    (try simp only [Act.put]); (try simp only [List.setIfInBounds_toArray]); (try simp only [List.set_cons_succ]); (try simp only [List.set_cons_zero])
    refine takeD (i := 50) (d := (some 2)) (v := (.bool true)) rfl rfl (by kernel_rfl) (by kernel_rfl) (by kernel_rfl) (fun _ _ _ h => h) (Or.inl ⟨by kernel_rfl, ?_⟩) (by assumption) ?_
    · intro wS hSw
      (try dsimp only at hSw)
      go_simp
      first | done | assumption | (simp only [wa]; done) | (simp only [vt]; done) | (simp only [ve]; done) | (simp; done) | (simp [vt, ve, z1, z1n]; done)
    (try simp only [Act.put]); (try simp only [List.setIfInBounds_toArray]); (try simp only [List.set_cons_succ]); (try simp only [List.set_cons_zero])
    refine wpAnyH_done (by kernel_rfl) ?_ _
    have B9 := Lib.hid (B7.out.trans (hb.mono B7.out.size))
    go_wp2_with fail
    go_ret
    exact ⟨rfl, B9.out⟩
end Go.Proofs.Ytneblpplkidkfaa
