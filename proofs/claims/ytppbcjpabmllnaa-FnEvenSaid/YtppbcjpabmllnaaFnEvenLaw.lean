/- The walk of laws.FnEven over the program's contracts. Written by evn.py. -/
import Derived.Test.YtppbcjpabmllnaaEvenImpl
import Derived.Test.YtppbcjpabmllnaaSEvenSc
import Derived.Test.YtppbcjpabmllnaaScImpl
import Derived.Test.YtppbcjpabmllnaaSmImpl
import Derived.Test.YtppbcjpabmllnaaDrawSc
import Derived.Test.YtppbcjpabmllnaaAtWalks
import Derived.Test.YtppbcjpabmllnaaTakeD
import Derived.Deep.RegionHeld3
import Derived.Deep.DeepCutAuto
namespace Go.Proofs.Ytppbcjpabmllnaa
open Go.RowKit Go.Joins
set_option linter.unusedVariables false
theorem sum_ge {xs : List Int} {n : Nat} (h : ∀ j, j < n → 1 ≤ xs.getD j 0 ∧ xs.getD j 0 ≤ 20) : ∀ k, k ≤ n → (k : Int) ≤ sumTo xs k
  | 0, _ => by simp [sumTo]
  | k + 1, hk => by
    have e := sum_ge h k (by omega)
    have f := h k (by omega)
    unfold sumTo
    omega
/-- The even scale of a scale's size and sum. -/
theorem even_of {xs : List Int} (hs : ScOk xs) : ∃ S : Nat, sumTo xs xs.length = (S : Int) ∧ EsAt (xs.length : Int) (S : Int) (dfL xs.length S) ∧ EvenS (dfL xs.length S) := by
  have a := sum_ge hs.2.1 xs.length (Nat.le_refl _)
  have b := sum_bd20 hs.2.1 xs.length (Nat.le_refl _)
  have c := hs.2.2
  have d := hs.1
  obtain ⟨S, hS⟩ : ∃ S : Nat, sumTo xs xs.length = (S : Int) := ⟨(sumTo xs xs.length).toNat, by omega⟩
  rw [hS] at a b c
  have ok : ScOk (dfL xs.length S) := dfL_ok d (by omega) (by omega) (by omega)
  refine ⟨S, hS, ?_, dfL_even ok⟩
  show dfL xs.length S = esF (xs.length : Int) (S : Int)
  unfold esF
  rw [if_pos ⟨⟨by omega, by omega⟩, by rw [Int.toNat_natCast, Int.toNat_natCast]; exact ok⟩, Int.toNat_natCast, Int.toNat_natCast]
def EvG (v : Value) (z : Bool) (W : World) : Prop := ∀ X, Below W.heap.size W X → Calls Try.prog 12 #[cirV v] X fun e w' => e = .returned (.bool z) ∧ Below W.heap.size W w'
theorem EvG_run {v : Value} {z : Bool} {W : World} (h : EvG v z W) (X : World) (hX : Below W.heap.size W X) : Calls Try.prog 12 #[cirV v] X fun e w' => e = .returned (.bool z) ∧ Below W.heap.size W w' := h X hX
def TwE (v : Value) (z : Bool) (W : World) : Prop := ∀ X, Below W.heap.size W X → Calls Try.prog 15 #[cirV v] X fun e w' => e = .returned (.bool z) ∧ Below W.heap.size W w'
theorem TwE_run {v : Value} {z : Bool} {W : World} (h : TwE v z W) (X : World) (hX : Below W.heap.size W X) : Calls Try.prog 15 #[cirV v] X fun e w' => e = .returned (.bool z) ∧ Below W.heap.size W w' := h X hX
def UnG (v : Value) (y : Int) (W : World) : Prop := ∀ X, Below W.heap.size W X → Calls Try.prog 13 #[cirV v] X fun e w' => e = .returned (.int .i64 y) ∧ Below W.heap.size W w'
theorem UnG_run {v : Value} {y : Int} {W : World} (h : UnG v y W) (X : World) (hX : Below W.heap.size W X) : Calls Try.prog 13 #[cirV v] X fun e w' => e = .returned (.int .i64 y) ∧ Below W.heap.size W w' := h X hX
def SuE (v : Value) (y : Int) (W : World) : Prop := ∀ X, Below W.heap.size W X → Calls Try.prog 11 #[cirV v] X fun e w' => e = .returned (.int .i64 y) ∧ Below W.heap.size W w'
theorem SuE_run {v : Value} {y : Int} {W : World} (h : SuE v y W) (X : World) (hX : Below W.heap.size W X) : Calls Try.prog 11 #[cirV v] X fun e w' => e = .returned (.int .i64 y) ∧ Below W.heap.size W w' := h X hX
def SmE (v : Value) (u : Value) (y : Int) (W : World) : Prop := ∀ X, Below W.heap.size W X → Calls Try.prog 14 #[cirV v, cirV u] X fun e w' => e = .returned (.int .i64 y) ∧ Below W.heap.size W w'
theorem SmE_run {v : Value} {u : Value} {y : Int} {W : World} (h : SmE v u y W) (X : World) (hX : Below W.heap.size W X) : Calls Try.prog 14 #[cirV v, cirV u] X fun e w' => e = .returned (.int .i64 y) ∧ Below W.heap.size W w' := h X hX
theorem one_e {w : World} {m : Nat} {v : Value} (h : One m v w) : w.cell? ⟨m, 0, none⟩ = some v := h.2.1
/-- Two boxes. -/
def Bx2 (m3 m5 : Nat) (v3 v5 : Value) (W : World) : Prop := One m3 v3 W ∧ One m5 v5 W
theorem bx2_cells {m3 m5 : Nat} {v3 v5 : Value} {W X : World} (h : Bx2 m3 m5 v3 v5 W) (hb : Below W.heap.size W X) : X.cell? ⟨m3, 0, none⟩ = some v3 ∧ X.cell? ⟨m5, 0, none⟩ = some v5 :=
  ⟨one_e (one_keep hb h.1), one_e (one_keep hb h.2)⟩
theorem bx2_keep {m3 m5 : Nat} {v3 v5 : Value} {W X : World} (h : Bx2 m3 m5 v3 v5 W) (hb : Below W.heap.size W X) : Bx2 m3 m5 v3 v5 X := ⟨one_keep hb h.1, one_keep hb h.2⟩
set_option maxRecDepth 100000 in
set_option maxHeartbeats 16000000 in
theorem walk_FnEvenBy (IE : IsEvenImpl) (UN : UnevenImpl) (ES : EvScImpl) (SU : ScSumImpl) (TI : TwoImpl) (SM : SmImpl) (a0 : Option Addr) (len0 cap0 : Nat) (z0 : List Int) (w : World) (hr : IsRow .u8 w a0 len0 cap0 z0) :
    Calls Try.prog 3 #[.slice a0 len0 cap0] w fun e w' => e = .returned (.bool true) ∧ Below w.heap.size w w' := by
  have hlen := (row_len hr).2
  by_cases hbig : 1048576 < len0
  · have t0 : decide (1048576 < (len0 : Int)) = true := by simp; omega
    go_enter Try.func3, Try.ntmps3
    go_wp2_with fail
    refine (bigW_any _ _ _ _ hlen).mono ?_
    rintro e w' ⟨rfl, rfl⟩
    go_wp2_with fail
    go_ret
    exact ⟨rfl, Below.refl _ _⟩
  · have t0 : decide (1048576 < (len0 : Int)) = false := by simp; omega
    have HR := Lib.hid hr
    have HLEN := Lib.hid hlen
    clear hr hbig hlen
    go_enter Try.func3, Try.ntmps3
    go_wp2_with fail
    refine (bigW_any _ _ _ _ HLEN.out).mono ?_
    rintro e w' ⟨rfl, rfl⟩
    rw [t0]
    go_wp2_with fail
    clear t0
    refine (drawScale_any HR.out).mono ?_
    rintro e w1 ⟨xs, p, c, hsm, rfl, o1, b1⟩
    have OK := Lib.hid (smallSc_ok hsm)
    obtain ⟨n, hn⟩ : ∃ n, n = xs.length := ⟨_, rfl⟩
    rw [← hn] at o1 ⊢
    have HN := Lib.hid hn
    have hn8 : 1 ≤ n ∧ n ≤ 8 := by rw [hn]; exact hsm.1
    have X1 := Lib.hid (one_alloc (w := w1) (v := .slice p n c) (t := 26))
    have O1 := Lib.hid (own_below o1 (below_alloc1 w1 (.cells #[.slice p n c] 26)))
    have B1 := Lib.hid (b1.alloc b1.size (.cells #[.slice p n c] 26))
    clear hsm o1 b1 HR HLEN hn
    go_upto_region 4 with fail
    obtain ⟨W1, hW⟩ : ∃ W, W = w1.alloc (.cells #[.slice p n c] 26) := ⟨_, rfl⟩
    obtain ⟨m3, hm⟩ : ∃ m, m = w1.heap.size := ⟨_, rfl⟩
    rw [← hW] at X1 O1 B1 ⊢
    rw [← hm] at X1 ⊢
    clear hW hm
    obtain ⟨S, hS, hes, hev⟩ := even_of OK.out
    obtain ⟨es, hesd⟩ : ∃ l, l = dfL xs.length S := ⟨_, rfl⟩
    rw [← hesd] at hes hev
    have HESD := Lib.hid hesd
    have HSS := Lib.hid hS
    have HES := Lib.hid (show EsAt (n : Int) (S : Int) es from by rw [HN.out]; exact hes)
    have HEV := Lib.hid hev
    have hel : es.length = n := by rw [hesd, dfL_len, HN.out]
    have HEL := Lib.hid hel.symm
    have HSE := Lib.hid (show sumTo es es.length = (S : Int) from by rw [hel, hesd, HN.out]; exact dfL_all OK.out.1.1)
    have HL := Lib.hid (show xs.length ≤ 2000000 from by have := HN.out; omega)
    have HLE := Lib.hid (show es.length ≤ 2000000 from by have := HEL.out; omega)
    have OX := Lib.hid (own_eq O1.out (rfl : xs = xs) HN.out)
    have HSF := Lib.hid (show SumAt21 xs (S : Int) from by show (S : Int) = sumF xs; unfold sumF; rw [if_pos OK.out]; exact HSS.out.symm)
    obtain ⟨_, c1, _⟩ := X1.out
    clear hS hes hev hesd hel O1
    go_wp2_with fail
    refine (SU xs _ HSF.out _ _ _ _ HL.out OX.out).mono ?_
    rintro e w2 ⟨rfl, b2⟩
    go_wp2_with fail
    refine (ES (n : Int) (S : Int) es HES.out _).mono ?_
    rintro e w3 ⟨ve, rfl, o3, b3⟩
    rw [← HEL.out] at o3
    obtain ⟨pe, ce, rfl⟩ := own_slice o3
    have A3 := below_alloc1 w3 (.cells #[.slice pe n ce] 26)
    have K3 := Lib.hid ((b2.trans (b3.mono b2.size)).trans (A3.mono (Nat.le_trans b2.size b3.size)))
    have Y3 := Lib.hid (one_alloc (w := w3) (v := .slice pe n ce) (t := 26))
    have P3 := Lib.hid (own_eq (own_below o3 A3) (rfl : es = es) HEL.out)
    clear o3 b2 b3 A3 c1
    go_upto_region 6 with fail
    obtain ⟨W3, hW⟩ : ∃ W, W = w3.alloc (.cells #[.slice pe n ce] 26) := ⟨_, rfl⟩
    obtain ⟨m5, hm⟩ : ∃ m, m = w3.heap.size := ⟨_, rfl⟩
    rw [← hW] at K3 Y3 P3 ⊢
    rw [← hm] at Y3 ⊢
    clear hW hm
    have B3 := Lib.hid (B1.out.trans (K3.out.mono B1.out.size))
    have BX : Hid (Bx2 m3 m5 (.slice p n c) (.slice pe n ce) W3) := Lib.hid ⟨one_keep K3.out X1.out, Y3.out⟩
    have O3 := own_below OX.out K3.out
    have P3' := P3.out
    have F1 : EvG (.slice pe n ce) true W3 := fun X hX => (IE es true (decide_eq_true HEV.out).symm X _ _ _ HLE.out (own_below P3' hX)).mono fun _ _ ⟨he, hb⟩ => ⟨he, hX.trans (hb.mono hX.size)⟩
    have F2 : SuE (.slice pe n ce) (S : Int) W3 := fun X hX => (SU es (S : Int) (by show (S : Int) = sumF es; unfold sumF; rw [if_pos HEV.out.1]; exact HSE.out.symm) X _ _ _ HLE.out (own_below P3' hX)).mono fun _ _ ⟨he, hb⟩ => ⟨he, hX.trans (hb.mono hX.size)⟩
    have F3 : SuE (.slice p n c) (S : Int) W3 := fun X hX => (SU xs (S : Int) HSF.out X _ _ _ HL.out (own_below O3 hX)).mono fun _ _ ⟨he, hb⟩ => ⟨he, hX.trans (hb.mono hX.size)⟩
    obtain ⟨ux, hux⟩ : ∃ x, x = unF xs := ⟨_, rfl⟩
    obtain ⟨ue, hue⟩ : ∃ x, x = unF es := ⟨_, rfl⟩
    have F4 : UnG (.slice p n c) ux W3 := fun X hX => (UN xs ux hux X _ _ _ HL.out (own_below O3 hX)).mono fun _ _ ⟨he, hb⟩ => ⟨he, hX.trans (hb.mono hX.size)⟩
    have F5 : UnG (.slice pe n ce) ue W3 := fun X hX => (UN es ue hue X _ _ _ HLE.out (own_below P3' hX)).mono fun _ _ ⟨he, hb⟩ => ⟨he, hX.trans (hb.mono hX.size)⟩
    have eux : ux = unTo xs xs.length := by rw [hux]; exact if_pos OK.out
    have eue : ue = baseU xs.length (sumTo xs xs.length) xs.length := by
      have k := un_even HEV.out es.length (Nat.le_refl _)
      rw [hue, show unF es = unTo es es.length from if_pos HEV.out.1, k, HSE.out, HSS.out, ← HEL.out, HN.out]
    have hge : ¬ ux < ue := by
      have := un_ge OK.out.1.1 xs.length
      rw [eux, eue]
      omega
    have hiff : EvenS xs ↔ ux = ue := by rw [eux, eue]; exact even_iff OK.out
    obtain ⟨z, hz⟩ : ∃ z, z = decide (EvenS xs) := ⟨_, rfl⟩
    have F6 : EvG (.slice p n c) z W3 := fun X hX => (IE xs z hz X _ _ _ HL.out (own_below O3 hX)).mono fun _ _ ⟨he, hb⟩ => ⟨he, hX.trans (hb.mono hX.size)⟩
    have hzeq : (ux == ue) = z := by
      rw [hz]
      by_cases q : EvenS xs
      · rw [decide_eq_true q, hiff.1 q]; simp
      · rw [decide_eq_false q]; simp; exact fun u => q (hiff.2 u)
    have FZ : Hid (z = true → ∃ k, 0 ≤ k ∧ SmE (.slice p n c) (.slice pe n ce) k W3 ∧ TwE (.slice p n c) true W3) := Lib.hid (fun q => by
      have ev : EvenS xs := of_decide_eq_true (hz.symm.trans q)
      refine ⟨smF xs es, (sm_iff OK.out).2 (by rw [HESD.out]; exact even_mode ev HSS.out), fun X hX => ?_, fun X hX => ?_⟩
      · exact (SM xs es _ rfl X _ _ _ _ _ _ HL.out HLE.out (own_below O3 hX) (own_below P3' hX)).mono fun _ _ ⟨he, hb⟩ => ⟨he, hX.trans (hb.mono hX.size)⟩
      · exact (TI xs true (decide_eq_true (even_two ev)).symm X _ _ _ HL.out (own_below O3 hX)).mono fun _ _ ⟨he, hb⟩ => ⟨he, hX.trans (hb.mono hX.size)⟩)
    have q1 : ((n : Int) != (n : Int)) = false := by simp
    have q2 : ((S : Int) != (S : Int)) = false := by simp
    have q3 : (z == z) = true := by simp
    clear hux hue eux eue hiff hz O3 P3' IE UN ES SU TI SM P3 K3 X1 Y3 OX B1
    go_cut [33] (fun s wx => s = .bool false ∧ Below W3.heap.size W3 wx)
    case first =>
      refine wp_region_held_drew (S := (fun w' => w'.cell? ⟨m3, 0, none⟩ = some (.slice p n c) ∧ w'.cell? ⟨m5, 0, none⟩ = some (.slice pe n ce))) (by kernel_rfl) ?_ (fun hHeld => ?_)
      · exact bx2_cells BX.out (Below.refl _ _).drew
      refine takeD (i := 0) (d := (some 17)) (v := (cirV (.slice pe n ce))) rfl rfl (by kernel_rfl) (by kernel_rfl) (by kernel_rfl) (fun _ _ _ h => h) (Or.inl ⟨by kernel_rfl, ?_⟩) (by assumption) ?_
      · intro wS hSw
        (try dsimp only at hSw)
        go_simp
        first | done | assumption | (simp; done) | (simp; omega)
      (try simp only [Act.put]); (try simp only [List.setIfInBounds_toArray]); (try simp only [List.set_cons_succ]); (try simp only [List.set_cons_zero])
      refine wpAnyH_ready (rs := [1]) (by kernel_rfl) (by simp) ?_
      refine AllReadyH.cons rfl (fun K hK => ?_) AllReadyH.nil
      go_simp
      refine (EvG_run (W := W3) F1 _ (by with_reducible first | assumption | exact (Below.refl _ _) | exact (Below.refl _ _).drew)).mono ?_
      rintro e1 w1 ⟨rfl, hb⟩
      go_wp2_with fail
      refine hK.out _ _ ?_ (fun hHeld => ?_)
      · exact bx2_cells BX.out hb
      clear hK K
      (try simp only [Act.put]); (try simp only [List.setIfInBounds_toArray]); (try simp only [List.set_cons_succ]); (try simp only [List.set_cons_zero])
      refine takeD (i := 2) (d := (some 19)) (v := (.bool false)) rfl rfl (by kernel_rfl) (by kernel_rfl) (by kernel_rfl) (fun _ _ _ h => h) (Or.inl ⟨by kernel_rfl, ?_⟩) (by assumption) ?_
      · intro wS hSw
        (try dsimp only at hSw)
        go_simp
        first | done | assumption | (simp; done) | (simp; omega)
      (try simp only [Act.put]); (try simp only [List.setIfInBounds_toArray]); (try simp only [List.set_cons_succ]); (try simp only [List.set_cons_zero])
      refine takeD (i := 3) (d := (some 20)) (v := (.bool false)) rfl rfl (by kernel_rfl) (by kernel_rfl) (by kernel_rfl) (fun _ _ _ h => h) (Or.inl ⟨by kernel_rfl, ?_⟩) (by assumption) ?_
      · intro wS hSw
        (try dsimp only at hSw)
        go_simp
        first | done | assumption | (simp; done) | (simp; omega)
      (try simp only [Act.put]); (try simp only [List.setIfInBounds_toArray]); (try simp only [List.set_cons_succ]); (try simp only [List.set_cons_zero])
      refine takeD (i := 4) (d := (some 21)) (v := (.pointer (some ⟨m5, 0, none⟩))) rfl rfl (by kernel_rfl) (by kernel_rfl) (by kernel_rfl) (fun _ _ _ h => h) (Or.inl ⟨by kernel_rfl, ?_⟩) (by assumption) ?_
      · intro wS hSw
        (try dsimp only at hSw)
        go_simp
        first | done | assumption | (simp; done) | (simp; omega)
      (try simp only [Act.put]); (try simp only [List.setIfInBounds_toArray]); (try simp only [List.set_cons_succ]); (try simp only [List.set_cons_zero])
      refine takeD (i := 5) (d := (some 22)) (v := (.slice pe n ce)) rfl rfl (by kernel_rfl) (by kernel_rfl) (by kernel_rfl) (fun _ _ _ h => h) (Or.inl ⟨by kernel_rfl, ?_⟩) (by assumption) ?_
      · intro wS hSw
        (try dsimp only at hSw)
        go_simp
        first | done | assumption | (simp; done) | (simp; omega)
      (try simp only [Act.put]); (try simp only [List.setIfInBounds_toArray]); (try simp only [List.set_cons_succ]); (try simp only [List.set_cons_zero])
      refine takeD (i := 6) (d := (some 23)) (v := (.int .i64 (n : Int))) rfl rfl (by kernel_rfl) (by kernel_rfl) (by kernel_rfl) (fun _ _ _ h => h) (Or.inl ⟨by kernel_rfl, ?_⟩) (by assumption) ?_
      · intro wS hSw
        (try dsimp only at hSw)
        go_simp
        first | done | assumption | (simp; done) | (simp; omega)
      (try simp only [Act.put]); (try simp only [List.setIfInBounds_toArray]); (try simp only [List.set_cons_succ]); (try simp only [List.set_cons_zero])
      refine takeD (i := 7) (d := (some 24)) (v := (.int .i64 (n : Int))) rfl rfl (by kernel_rfl) (by kernel_rfl) (by kernel_rfl) (fun _ _ _ h => h) (Or.inl ⟨by kernel_rfl, ?_⟩) (by assumption) ?_
      · intro wS hSw
        (try dsimp only at hSw)
        go_simp
        first | done | assumption | (simp; done) | (simp; omega)
      (try simp only [Act.put]); (try simp only [List.setIfInBounds_toArray]); (try simp only [List.set_cons_succ]); (try simp only [List.set_cons_zero])
      refine takeD (i := 8) (d := (some 25)) (v := (.bool false)) rfl rfl (by kernel_rfl) (by kernel_rfl) (by kernel_rfl) (fun _ _ _ h => h) (Or.inl ⟨by kernel_rfl, ?_⟩) (by assumption) ?_
      · intro wS hSw
        (try dsimp only at hSw)
        go_simp
        first | done | assumption | (simp; done) | (simp; omega)
      (try simp only [Act.put]); (try simp only [List.setIfInBounds_toArray]); (try simp only [List.set_cons_succ]); (try simp only [List.set_cons_zero])
      refine takeD (i := 9) (d := (some 26)) (v := (.bool false)) rfl rfl (by kernel_rfl) (by kernel_rfl) (by kernel_rfl) (fun _ _ _ h => h) (Or.inl ⟨by kernel_rfl, ?_⟩) (by assumption) ?_
      · intro wS hSw
        (try dsimp only at hSw)
        go_simp
        first | done | assumption | (simp; done) | (simp; omega)
      (try simp only [Act.put]); (try simp only [List.setIfInBounds_toArray]); (try simp only [List.set_cons_succ]); (try simp only [List.set_cons_zero])
      refine takeD (i := 10) (d := (some 27)) (v := (.bool false)) rfl rfl (by kernel_rfl) (by kernel_rfl) (by kernel_rfl) (fun _ _ _ h => h) (Or.inl ⟨by kernel_rfl, ?_⟩) (by assumption) ?_
      · intro wS hSw
        (try dsimp only at hSw)
        go_simp
        first | done | assumption | (simp; done) | (simp; omega)
      (try simp only [Act.put]); (try simp only [List.setIfInBounds_toArray]); (try simp only [List.set_cons_succ]); (try simp only [List.set_cons_zero])
      refine takeD (i := 11) (d := (some 28)) (v := (cirV (.slice pe n ce))) rfl rfl (by kernel_rfl) (by kernel_rfl) (by kernel_rfl) (fun _ _ _ h => h) (Or.inl ⟨by kernel_rfl, ?_⟩) (by assumption) ?_
      · intro wS hSw
        (try dsimp only at hSw)
        go_simp
        first | done | assumption | (simp; done) | (simp; omega)
      (try simp only [Act.put]); (try simp only [List.setIfInBounds_toArray]); (try simp only [List.set_cons_succ]); (try simp only [List.set_cons_zero])
      refine takeD (i := 13) (d := (some 30)) (v := (cirV (.slice p n c))) rfl rfl (by kernel_rfl) (by kernel_rfl) (by kernel_rfl) (fun _ _ _ h => h) (Or.inl ⟨by kernel_rfl, ?_⟩) (by assumption) ?_
      · intro wS hSw
        (try dsimp only at hSw)
        go_simp
        first | done | assumption | (simp; done) | (simp; omega)
      (try simp only [Act.put]); (try simp only [List.setIfInBounds_toArray]); (try simp only [List.set_cons_succ]); (try simp only [List.set_cons_zero])
      refine wpAnyH_ready (rs := [12]) (by kernel_rfl) (by simp) ?_
      refine AllReadyH.cons rfl (fun K hK => ?_) AllReadyH.nil
      go_simp
      refine (SuE_run (W := W3) F2 _ (by with_reducible first | assumption | exact (Below.refl _ _) | exact (Below.refl _ _).drew)).mono ?_
      rintro e1 w1 ⟨rfl, hb⟩
      go_wp2_with fail
      refine hK.out _ _ ?_ (fun hHeld => ?_)
      · exact bx2_cells BX.out hb
      clear hK K
      (try simp only [Act.put]); (try simp only [List.setIfInBounds_toArray]); (try simp only [List.set_cons_succ]); (try simp only [List.set_cons_zero])
      refine wpAnyH_ready (rs := [14]) (by kernel_rfl) (by simp) ?_
      refine AllReadyH.cons rfl (fun K hK => ?_) AllReadyH.nil
      go_simp
      refine (SuE_run (W := W3) F3 _ (by with_reducible first | assumption | exact (Below.refl _ _) | exact (Below.refl _ _).drew)).mono ?_
      rintro e1 w1 ⟨rfl, hb⟩
      go_wp2_with fail
      refine hK.out _ _ ?_ (fun hHeld => ?_)
      · exact bx2_cells BX.out hb
      clear hK K
      (try simp only [Act.put]); (try simp only [List.setIfInBounds_toArray]); (try simp only [List.set_cons_succ]); (try simp only [List.set_cons_zero])
      refine takeD (i := 15) (d := (some 32)) (v := (.bool false)) rfl rfl (by kernel_rfl) (by kernel_rfl) (by kernel_rfl) (fun _ _ _ h => h) (Or.inl ⟨by kernel_rfl, ?_⟩) (by assumption) ?_
      · intro wS hSw
        (try dsimp only at hSw)
        go_simp
        first | done | assumption | (simp; done) | (simp; omega)
      (try simp only [Act.put]); (try simp only [List.setIfInBounds_toArray]); (try simp only [List.set_cons_succ]); (try simp only [List.set_cons_zero])
      refine takeD (i := 16) (d := (some 33)) (v := (.bool false)) rfl rfl (by kernel_rfl) (by kernel_rfl) (by kernel_rfl) (fun _ _ _ h => h) (Or.inl ⟨by kernel_rfl, ?_⟩) (by assumption) ?_
      · intro wS hSw
        (try dsimp only at hSw)
        go_simp
        first | done | assumption | (simp; done) | (simp; omega)
      (try simp only [Act.put]); (try simp only [List.setIfInBounds_toArray]); (try simp only [List.set_cons_succ]); (try simp only [List.set_cons_zero])
      refine wpAnyH_done (by kernel_rfl) ?_ _
      go_wp2_with fail
      go_meet
      exact ⟨rfl, hb⟩
    case rest =>
      obtain ⟨rfl, hb1⟩ := hcut
      obtain ⟨W6, hW⟩ : ∃ W, W = wc := ⟨_, rfl⟩
      rw [← hW] at hb1 ⊢
      clear hW
      have BX6 := Lib.hid (bx2_keep BX.out hb1)
      have HB6 := Lib.hid hb1
      go_upto_region 8 with fail
      cases z
      · clear FZ q3
        have q3 : (false == false) = true := by simp
        refine wp_region_held_drew (S := (fun w' => w'.cell? ⟨m3, 0, none⟩ = some (.slice p n c) ∧ w'.cell? ⟨m5, 0, none⟩ = some (.slice pe n ce))) (by kernel_rfl) ?_ (fun hHeld => ?_)
        · exact bx2_cells BX6.out (Below.refl _ _).drew
        refine takeD (i := 0) (d := (some 34)) (v := (cirV (.slice p n c))) rfl rfl (by kernel_rfl) (by kernel_rfl) (by kernel_rfl) (fun _ _ _ h => h) (Or.inl ⟨by kernel_rfl, ?_⟩) (by assumption) ?_
        · intro wS hSw
          (try dsimp only at hSw)
          go_simp
          first | done | assumption | (simp; done) | (simp; omega)
        (try simp only [Act.put]); (try simp only [List.setIfInBounds_toArray]); (try simp only [List.set_cons_succ]); (try simp only [List.set_cons_zero])
        refine takeD (i := 2) (d := (some 36)) (v := (cirV (.slice pe n ce))) rfl rfl (by kernel_rfl) (by kernel_rfl) (by kernel_rfl) (fun _ _ _ h => h) (Or.inl ⟨by kernel_rfl, ?_⟩) (by assumption) ?_
        · intro wS hSw
          (try dsimp only at hSw)
          go_simp
          first | done | assumption | (simp; done) | (simp; omega)
        (try simp only [Act.put]); (try simp only [List.setIfInBounds_toArray]); (try simp only [List.set_cons_succ]); (try simp only [List.set_cons_zero])
        refine wpAnyH_ready (rs := [1]) (by kernel_rfl) (by simp) ?_
        refine AllReadyH.cons rfl (fun K hK => ?_) AllReadyH.nil
        go_simp
        refine (UnG_run (W := W3) F4 _ (by with_reducible first | assumption | exact hb1.drew | exact hb1)).mono ?_
        rintro e1 w1 ⟨rfl, hb⟩
        go_wp2_with fail
        refine hK.out _ _ ?_ (fun hHeld => ?_)
        · exact bx2_cells BX.out hb
        clear hK K
        (try simp only [Act.put]); (try simp only [List.setIfInBounds_toArray]); (try simp only [List.set_cons_succ]); (try simp only [List.set_cons_zero])
        refine wpAnyH_ready (rs := [3]) (by kernel_rfl) (by simp) ?_
        refine AllReadyH.cons rfl (fun K hK => ?_) AllReadyH.nil
        go_simp
        refine (UnG_run (W := W3) F5 _ (by with_reducible first | assumption | exact hb1.drew | exact hb1)).mono ?_
        rintro e1 w1 ⟨rfl, hb⟩
        go_wp2_with fail
        refine hK.out _ _ ?_ (fun hHeld => ?_)
        · exact bx2_cells BX.out hb
        clear hK K
        (try simp only [Act.put]); (try simp only [List.setIfInBounds_toArray]); (try simp only [List.set_cons_succ]); (try simp only [List.set_cons_zero])
        refine takeD (i := 4) (d := (some 38)) (v := (.bool true)) rfl rfl (by kernel_rfl) (by kernel_rfl) (by kernel_rfl) (fun _ _ _ h => h) (Or.inl ⟨by kernel_rfl, ?_⟩) (by assumption) ?_
        · intro wS hSw
          (try dsimp only at hSw)
          go_simp
          first | done | assumption | (simp; done) | (simp; omega)
        (try simp only [Act.put]); (try simp only [List.setIfInBounds_toArray]); (try simp only [List.set_cons_succ]); (try simp only [List.set_cons_zero])
        refine takeD (i := 5) (d := (some 39)) (v := (.bool true)) rfl rfl (by kernel_rfl) (by kernel_rfl) (by kernel_rfl) (fun _ _ _ h => h) (Or.inl ⟨by kernel_rfl, ?_⟩) (by assumption) ?_
        · intro wS hSw
          (try dsimp only at hSw)
          go_simp
          first | done | assumption | (simp; done) | (simp; omega)
        (try simp only [Act.put]); (try simp only [List.setIfInBounds_toArray]); (try simp only [List.set_cons_succ]); (try simp only [List.set_cons_zero])
        refine takeD (i := 6) (d := (some 40)) (v := (cirV (.slice p n c))) rfl rfl (by kernel_rfl) (by kernel_rfl) (by kernel_rfl) (fun _ _ _ h => h) (Or.inl ⟨by kernel_rfl, ?_⟩) (by assumption) ?_
        · intro wS hSw
          (try dsimp only at hSw)
          go_simp
          first | done | assumption | (simp; done) | (simp; omega)
        (try simp only [Act.put]); (try simp only [List.setIfInBounds_toArray]); (try simp only [List.set_cons_succ]); (try simp only [List.set_cons_zero])
        refine takeD (i := 8) (d := (some 42)) (v := (cirV (.slice p n c))) rfl rfl (by kernel_rfl) (by kernel_rfl) (by kernel_rfl) (fun _ _ _ h => h) (Or.inl ⟨by kernel_rfl, ?_⟩) (by assumption) ?_
        · intro wS hSw
          (try dsimp only at hSw)
          go_simp
          first | done | assumption | (simp; done) | (simp; omega)
        (try simp only [Act.put]); (try simp only [List.setIfInBounds_toArray]); (try simp only [List.set_cons_succ]); (try simp only [List.set_cons_zero])
        refine takeD (i := 10) (d := (some 44)) (v := (cirV (.slice pe n ce))) rfl rfl (by kernel_rfl) (by kernel_rfl) (by kernel_rfl) (fun _ _ _ h => h) (Or.inl ⟨by kernel_rfl, ?_⟩) (by assumption) ?_
        · intro wS hSw
          (try dsimp only at hSw)
          go_simp
          first | done | assumption | (simp; done) | (simp; omega)
        (try simp only [Act.put]); (try simp only [List.setIfInBounds_toArray]); (try simp only [List.set_cons_succ]); (try simp only [List.set_cons_zero])
        refine wpAnyH_ready (rs := [7]) (by kernel_rfl) (by simp) ?_
        refine AllReadyH.cons rfl (fun K hK => ?_) AllReadyH.nil
        go_simp
        refine (EvG_run (W := W3) F6 _ (by with_reducible first | assumption | exact hb1.drew | exact hb1)).mono ?_
        rintro e1 w1 ⟨rfl, hb⟩
        go_wp2_with fail
        refine hK.out _ _ ?_ (fun hHeld => ?_)
        · exact bx2_cells BX.out hb
        clear hK K
        (try simp only [Act.put]); (try simp only [List.setIfInBounds_toArray]); (try simp only [List.set_cons_succ]); (try simp only [List.set_cons_zero])
        refine wpAnyH_ready (rs := [9]) (by kernel_rfl) (by simp) ?_
        refine AllReadyH.cons rfl (fun K hK => ?_) AllReadyH.nil
        go_simp
        refine (UnG_run (W := W3) F4 _ (by with_reducible first | assumption | exact hb1.drew | exact hb1)).mono ?_
        rintro e1 w1 ⟨rfl, hb⟩
        go_wp2_with fail
        refine hK.out _ _ ?_ (fun hHeld => ?_)
        · exact bx2_cells BX.out hb
        clear hK K
        (try simp only [Act.put]); (try simp only [List.setIfInBounds_toArray]); (try simp only [List.set_cons_succ]); (try simp only [List.set_cons_zero])
        refine wpAnyH_ready (rs := [11]) (by kernel_rfl) (by simp) ?_
        refine AllReadyH.cons rfl (fun K hK => ?_) AllReadyH.nil
        go_simp
        refine (UnG_run (W := W3) F5 _ (by with_reducible first | assumption | exact hb1.drew | exact hb1)).mono ?_
        rintro e1 w1 ⟨rfl, hb⟩
        go_wp2_with fail
        refine hK.out _ _ ?_ (fun hHeld => ?_)
        · exact bx2_cells BX.out hb
        clear hK K
        (try simp only [Act.put]); (try simp only [List.setIfInBounds_toArray]); (try simp only [List.set_cons_succ]); (try simp only [List.set_cons_zero])
        refine takeD (i := 12) (d := (some 46)) (v := (.bool false)) rfl rfl (by kernel_rfl) (by kernel_rfl) (by kernel_rfl) (fun _ _ _ h => h) (Or.inl ⟨by kernel_rfl, ?_⟩) (by assumption) ?_
        · intro wS hSw
          (try dsimp only at hSw)
          go_simp
          first | done | assumption | (simp; done) | (simp; omega)
        (try simp only [Act.put]); (try simp only [List.setIfInBounds_toArray]); (try simp only [List.set_cons_succ]); (try simp only [List.set_cons_zero])
        refine takeD (i := 13) (d := (some 47)) (v := (.bool true)) rfl rfl (by kernel_rfl) (by kernel_rfl) (by kernel_rfl) (fun _ _ _ h => h) (Or.inl ⟨by kernel_rfl, ?_⟩) (by assumption) ?_
        · intro wS hSw
          (try dsimp only at hSw)
          go_simp
          first | done | assumption | (simp; done) | (simp; omega)
        (try simp only [Act.put]); (try simp only [List.setIfInBounds_toArray]); (try simp only [List.set_cons_succ]); (try simp only [List.set_cons_zero])
        refine takeD (i := 14) (d := (some 48)) (v := (.bool true)) rfl rfl (by kernel_rfl) (by kernel_rfl) (by kernel_rfl) (fun _ _ _ h => h) (Or.inl ⟨by kernel_rfl, ?_⟩) (by assumption) ?_
        · intro wS hSw
          (try dsimp only at hSw)
          go_simp
          first | done | assumption | (simp; done) | (simp; omega)
        (try simp only [Act.put]); (try simp only [List.setIfInBounds_toArray]); (try simp only [List.set_cons_succ]); (try simp only [List.set_cons_zero])
        refine takeD (i := 15) (d := (some 49)) (v := (.bool true)) rfl rfl (by kernel_rfl) (by kernel_rfl) (by kernel_rfl) (fun _ _ _ h => h) (Or.inl ⟨by kernel_rfl, ?_⟩) (by assumption) ?_
        · intro wS hSw
          (try dsimp only at hSw)
          go_simp
          first | done | assumption | (simp; done) | (simp; omega)
        (try simp only [Act.put]); (try simp only [List.setIfInBounds_toArray]); (try simp only [List.set_cons_succ]); (try simp only [List.set_cons_zero])
        refine takeD (i := 16) (d := (some 50)) (v := (cirV (.slice p n c))) rfl rfl (by kernel_rfl) (by kernel_rfl) (by kernel_rfl) (fun _ _ _ h => h) (Or.inl ⟨by kernel_rfl, ?_⟩) (by assumption) ?_
        · intro wS hSw
          (try dsimp only at hSw)
          go_simp
          first | done | assumption | (simp; done) | (simp; omega)
        (try simp only [Act.put]); (try simp only [List.setIfInBounds_toArray]); (try simp only [List.set_cons_succ]); (try simp only [List.set_cons_zero])
        refine wpAnyH_ready (rs := [17]) (by kernel_rfl) (by simp) ?_
        refine AllReadyH.cons rfl (fun K hK => ?_) AllReadyH.nil
        go_simp
        refine (EvG_run (W := W3) F6 _ (by with_reducible first | assumption | exact hb1.drew | exact hb1)).mono ?_
        rintro e1 w1 ⟨rfl, hb⟩
        go_wp2_with fail
        refine hK.out _ _ ?_ (fun hHeld => ?_)
        · exact bx2_cells BX.out hb
        clear hK K
        (try simp only [Act.put]); (try simp only [List.setIfInBounds_toArray]); (try simp only [List.set_cons_succ]); (try simp only [List.set_cons_zero])
        refine takeD (i := 18) (d := (some 52)) (v := (.bool true)) rfl rfl (by kernel_rfl) (by kernel_rfl) (by kernel_rfl) (fun _ _ _ h => h) (Or.inl ⟨by kernel_rfl, ?_⟩) (by assumption) ?_
        · intro wS hSw
          (try dsimp only at hSw)
          go_simp
          first | done | assumption | (simp; done) | (simp; omega)
        (try simp only [Act.put]); (try simp only [List.setIfInBounds_toArray]); (try simp only [List.set_cons_succ]); (try simp only [List.set_cons_zero])
        refine takeD (i := 19) (d := (some 53)) (v := (.bool true)) rfl rfl (by kernel_rfl) (by kernel_rfl) (by kernel_rfl) (fun _ _ _ h => h) (Or.inl ⟨by kernel_rfl, ?_⟩) (by assumption) ?_
        · intro wS hSw
          (try dsimp only at hSw)
          go_simp
          first | done | assumption | (simp; done) | (simp; omega)
        (try simp only [Act.put]); (try simp only [List.setIfInBounds_toArray]); (try simp only [List.set_cons_succ]); (try simp only [List.set_cons_zero])
        refine takeD (i := 20) (d := (some 54)) (v := undef) rfl rfl (by kernel_rfl) (by kernel_rfl) (by kernel_rfl) (fun _ _ _ h => h) (Or.inr ⟨by kernel_rfl, rfl⟩) (by assumption) ?_
        (try simp only [Act.put]); (try simp only [List.setIfInBounds_toArray]); (try simp only [List.set_cons_succ]); (try simp only [List.set_cons_zero])
        refine takeD (i := 21) (d := (some 55)) (v := undef) rfl rfl (by kernel_rfl) (by kernel_rfl) (by kernel_rfl) (fun _ _ _ h => h) (Or.inr ⟨by kernel_rfl, rfl⟩) (by assumption) ?_
        (try simp only [Act.put]); (try simp only [List.setIfInBounds_toArray]); (try simp only [List.set_cons_succ]); (try simp only [List.set_cons_zero])
        refine takeD (i := 22) (d := (some 56)) (v := undef) rfl rfl (by kernel_rfl) (by kernel_rfl) (by kernel_rfl) (fun _ _ _ h => h) (Or.inr ⟨by kernel_rfl, rfl⟩) (by assumption) ?_
        (try simp only [Act.put]); (try simp only [List.setIfInBounds_toArray]); (try simp only [List.set_cons_succ]); (try simp only [List.set_cons_zero])
        refine takeD (i := 23) (d := (some 57)) (v := undef) rfl rfl (by kernel_rfl) (by kernel_rfl) (by kernel_rfl) (fun _ _ _ h => h) (Or.inr ⟨by kernel_rfl, rfl⟩) (by assumption) ?_
        (try simp only [Act.put]); (try simp only [List.setIfInBounds_toArray]); (try simp only [List.set_cons_succ]); (try simp only [List.set_cons_zero])
        refine takeD (i := 24) (d := (some 58)) (v := undef) rfl rfl (by kernel_rfl) (by kernel_rfl) (by kernel_rfl) (fun _ _ _ h => h) (Or.inr ⟨by kernel_rfl, rfl⟩) (by assumption) ?_
        (try simp only [Act.put]); (try simp only [List.setIfInBounds_toArray]); (try simp only [List.set_cons_succ]); (try simp only [List.set_cons_zero])
        refine takeD (i := 25) (d := (some 59)) (v := undef) rfl rfl (by kernel_rfl) (by kernel_rfl) (by kernel_rfl) (fun _ _ _ h => h) (Or.inr ⟨by kernel_rfl, rfl⟩) (by assumption) ?_
        (try simp only [Act.put]); (try simp only [List.setIfInBounds_toArray]); (try simp only [List.set_cons_succ]); (try simp only [List.set_cons_zero])
        refine takeD (i := 26) (d := (some 60)) (v := undef) rfl rfl (by kernel_rfl) (by kernel_rfl) (by kernel_rfl) (fun _ _ _ h => h) (Or.inr ⟨by kernel_rfl, rfl⟩) (by assumption) ?_
        (try simp only [Act.put]); (try simp only [List.setIfInBounds_toArray]); (try simp only [List.set_cons_succ]); (try simp only [List.set_cons_zero])
        refine takeD (i := 27) (d := (some 61)) (v := undef) rfl rfl (by kernel_rfl) (by kernel_rfl) (by kernel_rfl) (fun _ _ _ h => h) (Or.inr ⟨by kernel_rfl, rfl⟩) (by assumption) ?_
        (try simp only [Act.put]); (try simp only [List.setIfInBounds_toArray]); (try simp only [List.set_cons_succ]); (try simp only [List.set_cons_zero])
        refine takeD (i := 28) (d := (some 62)) (v := (.bool true)) rfl rfl (by kernel_rfl) (by kernel_rfl) (by kernel_rfl) (fun _ _ _ h => h) (Or.inl ⟨by kernel_rfl, ?_⟩) (by assumption) ?_
        · intro wS hSw
          (try dsimp only at hSw)
          go_simp
          first | done | assumption | (simp; done) | (simp; omega)
        (try simp only [Act.put]); (try simp only [List.setIfInBounds_toArray]); (try simp only [List.set_cons_succ]); (try simp only [List.set_cons_zero])
        refine takeD (i := 29) (d := (some 63)) (v := (.bool true)) rfl rfl (by kernel_rfl) (by kernel_rfl) (by kernel_rfl) (fun _ _ _ h => h) (Or.inl ⟨by kernel_rfl, ?_⟩) (by assumption) ?_
        · intro wS hSw
          (try dsimp only at hSw)
          go_simp
          first | done | assumption | (simp; done) | (simp; omega)
        (try simp only [Act.put]); (try simp only [List.setIfInBounds_toArray]); (try simp only [List.set_cons_succ]); (try simp only [List.set_cons_zero])
        refine takeD (i := 30) (d := (some 2)) (v := (.bool true)) rfl rfl (by kernel_rfl) (by kernel_rfl) (by kernel_rfl) (fun _ _ _ h => h) (Or.inl ⟨by kernel_rfl, ?_⟩) (by assumption) ?_
        · intro wS hSw
          (try dsimp only at hSw)
          go_simp
          first | done | assumption | (simp; done) | (simp; omega)
        (try simp only [Act.put]); (try simp only [List.setIfInBounds_toArray]); (try simp only [List.set_cons_succ]); (try simp only [List.set_cons_zero])
        refine wpAnyH_done (by kernel_rfl) ?_ _
        have B9 := Lib.hid (B3.out.trans (hb.mono B3.out.size))
        go_wp2_with fail
        go_ret
        exact ⟨rfl, B9.out⟩
      · obtain ⟨k, hk0, FS1, FT1⟩ := FZ.out rfl
        have hk1 : ¬ k < 0 := by omega
        clear FZ q3
        have q3 : (true == true) = true := by simp
        refine wp_region_held_drew (S := (fun w' => w'.cell? ⟨m3, 0, none⟩ = some (.slice p n c) ∧ w'.cell? ⟨m5, 0, none⟩ = some (.slice pe n ce))) (by kernel_rfl) ?_ (fun hHeld => ?_)
        · exact bx2_cells BX6.out (Below.refl _ _).drew
        refine takeD (i := 0) (d := (some 34)) (v := (cirV (.slice p n c))) rfl rfl (by kernel_rfl) (by kernel_rfl) (by kernel_rfl) (fun _ _ _ h => h) (Or.inl ⟨by kernel_rfl, ?_⟩) (by assumption) ?_
        · intro wS hSw
          (try dsimp only at hSw)
          go_simp
          first | done | assumption | (simp; done) | (simp; omega)
        (try simp only [Act.put]); (try simp only [List.setIfInBounds_toArray]); (try simp only [List.set_cons_succ]); (try simp only [List.set_cons_zero])
        refine takeD (i := 2) (d := (some 36)) (v := (cirV (.slice pe n ce))) rfl rfl (by kernel_rfl) (by kernel_rfl) (by kernel_rfl) (fun _ _ _ h => h) (Or.inl ⟨by kernel_rfl, ?_⟩) (by assumption) ?_
        · intro wS hSw
          (try dsimp only at hSw)
          go_simp
          first | done | assumption | (simp; done) | (simp; omega)
        (try simp only [Act.put]); (try simp only [List.setIfInBounds_toArray]); (try simp only [List.set_cons_succ]); (try simp only [List.set_cons_zero])
        refine wpAnyH_ready (rs := [1]) (by kernel_rfl) (by simp) ?_
        refine AllReadyH.cons rfl (fun K hK => ?_) AllReadyH.nil
        go_simp
        refine (UnG_run (W := W3) F4 _ (by with_reducible first | assumption | exact hb1.drew | exact hb1)).mono ?_
        rintro e1 w1 ⟨rfl, hb⟩
        go_wp2_with fail
        refine hK.out _ _ ?_ (fun hHeld => ?_)
        · exact bx2_cells BX.out hb
        clear hK K
        (try simp only [Act.put]); (try simp only [List.setIfInBounds_toArray]); (try simp only [List.set_cons_succ]); (try simp only [List.set_cons_zero])
        refine wpAnyH_ready (rs := [3]) (by kernel_rfl) (by simp) ?_
        refine AllReadyH.cons rfl (fun K hK => ?_) AllReadyH.nil
        go_simp
        refine (UnG_run (W := W3) F5 _ (by with_reducible first | assumption | exact hb1.drew | exact hb1)).mono ?_
        rintro e1 w1 ⟨rfl, hb⟩
        go_wp2_with fail
        refine hK.out _ _ ?_ (fun hHeld => ?_)
        · exact bx2_cells BX.out hb
        clear hK K
        (try simp only [Act.put]); (try simp only [List.setIfInBounds_toArray]); (try simp only [List.set_cons_succ]); (try simp only [List.set_cons_zero])
        refine takeD (i := 4) (d := (some 38)) (v := (.bool true)) rfl rfl (by kernel_rfl) (by kernel_rfl) (by kernel_rfl) (fun _ _ _ h => h) (Or.inl ⟨by kernel_rfl, ?_⟩) (by assumption) ?_
        · intro wS hSw
          (try dsimp only at hSw)
          go_simp
          first | done | assumption | (simp; done) | (simp; omega)
        (try simp only [Act.put]); (try simp only [List.setIfInBounds_toArray]); (try simp only [List.set_cons_succ]); (try simp only [List.set_cons_zero])
        refine takeD (i := 5) (d := (some 39)) (v := (.bool true)) rfl rfl (by kernel_rfl) (by kernel_rfl) (by kernel_rfl) (fun _ _ _ h => h) (Or.inl ⟨by kernel_rfl, ?_⟩) (by assumption) ?_
        · intro wS hSw
          (try dsimp only at hSw)
          go_simp
          first | done | assumption | (simp; done) | (simp; omega)
        (try simp only [Act.put]); (try simp only [List.setIfInBounds_toArray]); (try simp only [List.set_cons_succ]); (try simp only [List.set_cons_zero])
        refine takeD (i := 6) (d := (some 40)) (v := (cirV (.slice p n c))) rfl rfl (by kernel_rfl) (by kernel_rfl) (by kernel_rfl) (fun _ _ _ h => h) (Or.inl ⟨by kernel_rfl, ?_⟩) (by assumption) ?_
        · intro wS hSw
          (try dsimp only at hSw)
          go_simp
          first | done | assumption | (simp; done) | (simp; omega)
        (try simp only [Act.put]); (try simp only [List.setIfInBounds_toArray]); (try simp only [List.set_cons_succ]); (try simp only [List.set_cons_zero])
        refine takeD (i := 8) (d := (some 42)) (v := (cirV (.slice p n c))) rfl rfl (by kernel_rfl) (by kernel_rfl) (by kernel_rfl) (fun _ _ _ h => h) (Or.inl ⟨by kernel_rfl, ?_⟩) (by assumption) ?_
        · intro wS hSw
          (try dsimp only at hSw)
          go_simp
          first | done | assumption | (simp; done) | (simp; omega)
        (try simp only [Act.put]); (try simp only [List.setIfInBounds_toArray]); (try simp only [List.set_cons_succ]); (try simp only [List.set_cons_zero])
        refine takeD (i := 10) (d := (some 44)) (v := (cirV (.slice pe n ce))) rfl rfl (by kernel_rfl) (by kernel_rfl) (by kernel_rfl) (fun _ _ _ h => h) (Or.inl ⟨by kernel_rfl, ?_⟩) (by assumption) ?_
        · intro wS hSw
          (try dsimp only at hSw)
          go_simp
          first | done | assumption | (simp; done) | (simp; omega)
        (try simp only [Act.put]); (try simp only [List.setIfInBounds_toArray]); (try simp only [List.set_cons_succ]); (try simp only [List.set_cons_zero])
        refine wpAnyH_ready (rs := [7]) (by kernel_rfl) (by simp) ?_
        refine AllReadyH.cons rfl (fun K hK => ?_) AllReadyH.nil
        go_simp
        refine (EvG_run (W := W3) F6 _ (by with_reducible first | assumption | exact hb1.drew | exact hb1)).mono ?_
        rintro e1 w1 ⟨rfl, hb⟩
        go_wp2_with fail
        refine hK.out _ _ ?_ (fun hHeld => ?_)
        · exact bx2_cells BX.out hb
        clear hK K
        (try simp only [Act.put]); (try simp only [List.setIfInBounds_toArray]); (try simp only [List.set_cons_succ]); (try simp only [List.set_cons_zero])
        refine wpAnyH_ready (rs := [9]) (by kernel_rfl) (by simp) ?_
        refine AllReadyH.cons rfl (fun K hK => ?_) AllReadyH.nil
        go_simp
        refine (UnG_run (W := W3) F4 _ (by with_reducible first | assumption | exact hb1.drew | exact hb1)).mono ?_
        rintro e1 w1 ⟨rfl, hb⟩
        go_wp2_with fail
        refine hK.out _ _ ?_ (fun hHeld => ?_)
        · exact bx2_cells BX.out hb
        clear hK K
        (try simp only [Act.put]); (try simp only [List.setIfInBounds_toArray]); (try simp only [List.set_cons_succ]); (try simp only [List.set_cons_zero])
        refine wpAnyH_ready (rs := [11]) (by kernel_rfl) (by simp) ?_
        refine AllReadyH.cons rfl (fun K hK => ?_) AllReadyH.nil
        go_simp
        refine (UnG_run (W := W3) F5 _ (by with_reducible first | assumption | exact hb1.drew | exact hb1)).mono ?_
        rintro e1 w1 ⟨rfl, hb⟩
        go_wp2_with fail
        refine hK.out _ _ ?_ (fun hHeld => ?_)
        · exact bx2_cells BX.out hb
        clear hK K
        (try simp only [Act.put]); (try simp only [List.setIfInBounds_toArray]); (try simp only [List.set_cons_succ]); (try simp only [List.set_cons_zero])
        refine takeD (i := 12) (d := (some 46)) (v := (.bool true)) rfl rfl (by kernel_rfl) (by kernel_rfl) (by kernel_rfl) (fun _ _ _ h => h) (Or.inl ⟨by kernel_rfl, ?_⟩) (by assumption) ?_
        · intro wS hSw
          (try dsimp only at hSw)
          go_simp
          first | done | assumption | (simp; done) | (simp; omega)
        (try simp only [Act.put]); (try simp only [List.setIfInBounds_toArray]); (try simp only [List.set_cons_succ]); (try simp only [List.set_cons_zero])
        refine takeD (i := 13) (d := (some 47)) (v := (.bool true)) rfl rfl (by kernel_rfl) (by kernel_rfl) (by kernel_rfl) (fun _ _ _ h => h) (Or.inl ⟨by kernel_rfl, ?_⟩) (by assumption) ?_
        · intro wS hSw
          (try dsimp only at hSw)
          go_simp
          first | done | assumption | (simp; done) | (simp; omega)
        (try simp only [Act.put]); (try simp only [List.setIfInBounds_toArray]); (try simp only [List.set_cons_succ]); (try simp only [List.set_cons_zero])
        refine takeD (i := 14) (d := (some 48)) (v := (.bool true)) rfl rfl (by kernel_rfl) (by kernel_rfl) (by kernel_rfl) (fun _ _ _ h => h) (Or.inl ⟨by kernel_rfl, ?_⟩) (by assumption) ?_
        · intro wS hSw
          (try dsimp only at hSw)
          go_simp
          first | done | assumption | (simp; done) | (simp; omega)
        (try simp only [Act.put]); (try simp only [List.setIfInBounds_toArray]); (try simp only [List.set_cons_succ]); (try simp only [List.set_cons_zero])
        refine takeD (i := 15) (d := (some 49)) (v := (.bool true)) rfl rfl (by kernel_rfl) (by kernel_rfl) (by kernel_rfl) (fun _ _ _ h => h) (Or.inl ⟨by kernel_rfl, ?_⟩) (by assumption) ?_
        · intro wS hSw
          (try dsimp only at hSw)
          go_simp
          first | done | assumption | (simp; done) | (simp; omega)
        (try simp only [Act.put]); (try simp only [List.setIfInBounds_toArray]); (try simp only [List.set_cons_succ]); (try simp only [List.set_cons_zero])
        refine takeD (i := 16) (d := (some 50)) (v := (cirV (.slice p n c))) rfl rfl (by kernel_rfl) (by kernel_rfl) (by kernel_rfl) (fun _ _ _ h => h) (Or.inl ⟨by kernel_rfl, ?_⟩) (by assumption) ?_
        · intro wS hSw
          (try dsimp only at hSw)
          go_simp
          first | done | assumption | (simp; done) | (simp; omega)
        (try simp only [Act.put]); (try simp only [List.setIfInBounds_toArray]); (try simp only [List.set_cons_succ]); (try simp only [List.set_cons_zero])
        refine wpAnyH_ready (rs := [17]) (by kernel_rfl) (by simp) ?_
        refine AllReadyH.cons rfl (fun K hK => ?_) AllReadyH.nil
        go_simp
        refine (EvG_run (W := W3) F6 _ (by with_reducible first | assumption | exact hb1.drew | exact hb1)).mono ?_
        rintro e1 w1 ⟨rfl, hb⟩
        go_wp2_with fail
        refine hK.out _ _ ?_ (fun hHeld => ?_)
        · exact bx2_cells BX.out hb
        clear hK K
        (try simp only [Act.put]); (try simp only [List.setIfInBounds_toArray]); (try simp only [List.set_cons_succ]); (try simp only [List.set_cons_zero])
        refine takeD (i := 18) (d := (some 52)) (v := (.bool false)) rfl rfl (by kernel_rfl) (by kernel_rfl) (by kernel_rfl) (fun _ _ _ h => h) (Or.inl ⟨by kernel_rfl, ?_⟩) (by assumption) ?_
        · intro wS hSw
          (try dsimp only at hSw)
          go_simp
          first | done | assumption | (simp; done) | (simp; omega)
        (try simp only [Act.put]); (try simp only [List.setIfInBounds_toArray]); (try simp only [List.set_cons_succ]); (try simp only [List.set_cons_zero])
        refine takeD (i := 19) (d := (some 53)) (v := (.bool false)) rfl rfl (by kernel_rfl) (by kernel_rfl) (by kernel_rfl) (fun _ _ _ h => h) (Or.inl ⟨by kernel_rfl, ?_⟩) (by assumption) ?_
        · intro wS hSw
          (try dsimp only at hSw)
          go_simp
          first | done | assumption | (simp; done) | (simp; omega)
        (try simp only [Act.put]); (try simp only [List.setIfInBounds_toArray]); (try simp only [List.set_cons_succ]); (try simp only [List.set_cons_zero])
        refine takeD (i := 20) (d := (some 54)) (v := (cirV (.slice p n c))) rfl rfl (by kernel_rfl) (by kernel_rfl) (by kernel_rfl) (fun _ _ _ h => h) (Or.inl ⟨by kernel_rfl, ?_⟩) (by assumption) ?_
        · intro wS hSw
          (try dsimp only at hSw)
          go_simp
          first | done | assumption | (simp; done) | (simp; omega)
        (try simp only [Act.put]); (try simp only [List.setIfInBounds_toArray]); (try simp only [List.set_cons_succ]); (try simp only [List.set_cons_zero])
        refine takeD (i := 21) (d := (some 55)) (v := (cirV (.slice pe n ce))) rfl rfl (by kernel_rfl) (by kernel_rfl) (by kernel_rfl) (fun _ _ _ h => h) (Or.inl ⟨by kernel_rfl, ?_⟩) (by assumption) ?_
        · intro wS hSw
          (try dsimp only at hSw)
          go_simp
          first | done | assumption | (simp; done) | (simp; omega)
        (try simp only [Act.put]); (try simp only [List.setIfInBounds_toArray]); (try simp only [List.set_cons_succ]); (try simp only [List.set_cons_zero])
        refine wpAnyH_ready (rs := [22]) (by kernel_rfl) (by simp) ?_
        refine AllReadyH.cons rfl (fun K hK => ?_) AllReadyH.nil
        go_simp
        refine (SmE_run (W := W3) FS1 _ (by with_reducible first | assumption | exact hb1.drew | exact hb1)).mono ?_
        rintro e1 w1 ⟨rfl, hb⟩
        go_wp2_with fail
        refine hK.out _ _ ?_ (fun hHeld => ?_)
        · exact bx2_cells BX.out hb
        clear hK K
        (try simp only [Act.put]); (try simp only [List.setIfInBounds_toArray]); (try simp only [List.set_cons_succ]); (try simp only [List.set_cons_zero])
        refine takeD (i := 23) (d := (some 57)) (v := (.bool true)) rfl rfl (by kernel_rfl) (by kernel_rfl) (by kernel_rfl) (fun _ _ _ h => h) (Or.inl ⟨by kernel_rfl, ?_⟩) (by assumption) ?_
        · intro wS hSw
          (try dsimp only at hSw)
          go_simp
          first | done | assumption | (simp; done) | (simp; omega)
        (try simp only [Act.put]); (try simp only [List.setIfInBounds_toArray]); (try simp only [List.set_cons_succ]); (try simp only [List.set_cons_zero])
        refine takeD (i := 24) (d := (some 58)) (v := (.bool true)) rfl rfl (by kernel_rfl) (by kernel_rfl) (by kernel_rfl) (fun _ _ _ h => h) (Or.inl ⟨by kernel_rfl, ?_⟩) (by assumption) ?_
        · intro wS hSw
          (try dsimp only at hSw)
          go_simp
          first | done | assumption | (simp; done) | (simp; omega)
        (try simp only [Act.put]); (try simp only [List.setIfInBounds_toArray]); (try simp only [List.set_cons_succ]); (try simp only [List.set_cons_zero])
        refine takeD (i := 25) (d := (some 59)) (v := (cirV (.slice p n c))) rfl rfl (by kernel_rfl) (by kernel_rfl) (by kernel_rfl) (fun _ _ _ h => h) (Or.inl ⟨by kernel_rfl, ?_⟩) (by assumption) ?_
        · intro wS hSw
          (try dsimp only at hSw)
          go_simp
          first | done | assumption | (simp; done) | (simp; omega)
        (try simp only [Act.put]); (try simp only [List.setIfInBounds_toArray]); (try simp only [List.set_cons_succ]); (try simp only [List.set_cons_zero])
        refine wpAnyH_ready (rs := [26]) (by kernel_rfl) (by simp) ?_
        refine AllReadyH.cons rfl (fun K hK => ?_) AllReadyH.nil
        go_simp
        refine (TwE_run (W := W3) FT1 _ (by with_reducible first | assumption | exact hb1.drew | exact hb1)).mono ?_
        rintro e1 w1 ⟨rfl, hb⟩
        go_wp2_with fail
        refine hK.out _ _ ?_ (fun hHeld => ?_)
        · exact bx2_cells BX.out hb
        clear hK K
        (try simp only [Act.put]); (try simp only [List.setIfInBounds_toArray]); (try simp only [List.set_cons_succ]); (try simp only [List.set_cons_zero])
        refine takeD (i := 27) (d := (some 61)) (v := (.bool true)) rfl rfl (by kernel_rfl) (by kernel_rfl) (by kernel_rfl) (fun _ _ _ h => h) (Or.inl ⟨by kernel_rfl, ?_⟩) (by assumption) ?_
        · intro wS hSw
          (try dsimp only at hSw)
          go_simp
          first | done | assumption | (simp; done) | (simp; omega)
        (try simp only [Act.put]); (try simp only [List.setIfInBounds_toArray]); (try simp only [List.set_cons_succ]); (try simp only [List.set_cons_zero])
        refine takeD (i := 28) (d := (some 62)) (v := (.bool true)) rfl rfl (by kernel_rfl) (by kernel_rfl) (by kernel_rfl) (fun _ _ _ h => h) (Or.inl ⟨by kernel_rfl, ?_⟩) (by assumption) ?_
        · intro wS hSw
          (try dsimp only at hSw)
          go_simp
          first | done | assumption | (simp; done) | (simp; omega)
        (try simp only [Act.put]); (try simp only [List.setIfInBounds_toArray]); (try simp only [List.set_cons_succ]); (try simp only [List.set_cons_zero])
        refine takeD (i := 29) (d := (some 63)) (v := (.bool true)) rfl rfl (by kernel_rfl) (by kernel_rfl) (by kernel_rfl) (fun _ _ _ h => h) (Or.inl ⟨by kernel_rfl, ?_⟩) (by assumption) ?_
        · intro wS hSw
          (try dsimp only at hSw)
          go_simp
          first | done | assumption | (simp; done) | (simp; omega)
        (try simp only [Act.put]); (try simp only [List.setIfInBounds_toArray]); (try simp only [List.set_cons_succ]); (try simp only [List.set_cons_zero])
        refine takeD (i := 30) (d := (some 2)) (v := (.bool true)) rfl rfl (by kernel_rfl) (by kernel_rfl) (by kernel_rfl) (fun _ _ _ h => h) (Or.inl ⟨by kernel_rfl, ?_⟩) (by assumption) ?_
        · intro wS hSw
          (try dsimp only at hSw)
          go_simp
          first | done | assumption | (simp; done) | (simp; omega)
        (try simp only [Act.put]); (try simp only [List.setIfInBounds_toArray]); (try simp only [List.set_cons_succ]); (try simp only [List.set_cons_zero])
        refine wpAnyH_done (by kernel_rfl) ?_ _
        have B9 := Lib.hid (B3.out.trans (hb.mono B3.out.size))
        go_wp2_with fail
        go_ret
        exact ⟨rfl, B9.out⟩
end Go.Proofs.Ytppbcjpabmllnaa
