/- Contracts of impl.TunedPitch, BeatsHeard, IsNarrow and KindText; the walks of the five laws of P18 over the landed program. -/
import Derived.Test.YtbklnlmijkclmaaKindWalks
import Derived.Test.YtbklnlmijkclmaaTunedLaw
namespace Go.Proofs.Ytbklnlmijkclmaa
open Go.RowKit Go.Joins
set_option linter.unusedVariables false
set_option linter.unusedSimpArgs false
theorem fine0 : ¬ FineOk 0 := by decide
theorem tunV_kind {a k b : Int} (h : ¬ (1 ≤ k ∧ k ≤ 4)) : tunV a k b = 0 := tunV_no3 (n := 0) (by unfold tunN; rw [if_neg (by omega), if_neg (by omega), if_neg (by omega), if_neg (by omega)]) fine0
theorem tunV_pure {a k b : Int} (h : 3 ≤ k) (hb : ¬ b = 0) : tunV a k b = 0 := tunV_no3 (n := 0) (by unfold tunN; rw [if_neg (by omega), if_neg (by omega), if_neg (by omega), if_neg (by omega)]) fine0
/-- A quotient of the program: what the model's answer is. -/
def TunAt (a k b r : Int) : Prop := (FineOk r → tunV a k b = r) ∧ (¬ FineOk r → tunV a k b = 0)
theorem tdiv_cases (X d : Int) : (0 ≤ X ∧ X.tdiv d = X / d) ∨ (X < 0 ∧ X.tdiv d = -(-X / d)) := by
  by_cases h : 0 ≤ X
  · exact .inl ⟨h, Int.tdiv_eq_ediv_of_nonneg h⟩
  · have e : X.tdiv d = (- -X).tdiv d := by rw [Int.neg_neg]
    exact .inr ⟨by omega, by rw [e, Int.neg_tdiv, Int.tdiv_eq_ediv_of_nonneg (by omega)]⟩
theorem tun_at1 {a b : Int} (ha : FineOk a) (hb : 0 ≤ b ∧ b ≤ 100000) : TunAt a 1 b ((3 * a - b).tdiv 2) := by
  obtain ⟨u1, u2⟩ := ha
  have e : tunN a 1 b = max 0 (3 * a - b) / 2 := by unfold tunN; rw [if_pos rfl]
  have t := tdiv_cases (3 * a - b) 2
  refine ⟨fun q => tunV_yes ⟨u1, u2⟩ hb ?_ q, fun q => tunV_no3 (n := max 0 (3 * a - b) / 2) e.symm (fun z => q ?_)⟩
  · rw [e]; unfold FineOk at q; omega
  · unfold FineOk at z ⊢; omega
theorem tun_at2 {a b : Int} (ha : FineOk a) (hb : 0 ≤ b ∧ b ≤ 100000) : TunAt a 2 b ((3 * a - b).tdiv 4) := by
  obtain ⟨u1, u2⟩ := ha
  have e : tunN a 2 b = max 0 (3 * a - b) / 4 := by unfold tunN; rw [if_neg (by omega), if_pos rfl]
  have t := tdiv_cases (3 * a - b) 4
  refine ⟨fun q => tunV_yes ⟨u1, u2⟩ hb ?_ q, fun q => tunV_no3 (n := max 0 (3 * a - b) / 4) e.symm (fun z => q ?_)⟩
  · rw [e]; unfold FineOk at q; omega
  · unfold FineOk at z ⊢; omega
theorem tun_at3 {a : Int} (ha : FineOk a) : TunAt a 3 0 (2 * a) := by
  have e : tunN a 3 0 = 2 * a := by simp [tunN]
  exact ⟨fun q => tunV_yes ha ⟨by omega, by omega⟩ e.symm q, fun q => tunV_no3 e.symm q⟩
theorem tun_at4 {a : Int} (ha : FineOk a) : TunAt a 4 0 (a / 2) := by
  have e : tunN a 4 0 = a / 2 := by simp [tunN]
  exact ⟨fun q => tunV_yes ha ⟨by omega, by omega⟩ e.symm q, fun q => tunV_no3 e.symm q⟩
set_option maxHeartbeats 2000000 in
theorem tun_1 (a b : Int) (w : World) : Calls Try.prog 42 #[.int .i64 a, .int .i64 1, .int .i64 b] w fun e w' => e = .returned (.int .i64 (tunV a 1 b)) ∧ Below w.heap.size w w' := by
  by_cases ha : FineOk a
  · have HA := Lib.hid (decide_eq_true ha)
    by_cases b0 : b < 0
    · have R := Lib.hid (show tunV a 1 b = 0 from tunV_no2 (by omega))
      clear ha
      have HK := Lib.hid (fun w => stepKind_at kin_1 w)
      generalize kindS 1 = txt at HK
      go_enter Try.func42, Try.ntmps42
      go_wp2_with fail
      refine (HK.out _).mono ?_
      rintro e w1 ⟨rfl, b1⟩
      have B1 := Lib.hid (b1.alloc b1.size (.cells #[.string txt, .int .i64 100000, .func (.func 66) #[] #[]] 81))
      clear b1
      go_wp2_with fail
      refine (fineI_at HA.out _).mono ?_
      rintro e w2 ⟨rfl, rfl⟩
      go_wp2_with fail
      go_ret
      exact ⟨ret_int R.out.symm, B1.out⟩
    · by_cases b1 : b > 100000
      · have R := Lib.hid (show tunV a 1 b = 0 from tunV_no2 (by omega))
        clear ha
        have HK := Lib.hid (fun w => stepKind_at kin_1 w)
        generalize kindS 1 = txt at HK
        go_enter Try.func42, Try.ntmps42
        go_wp2_with fail
        refine (HK.out _).mono ?_
        rintro e w1 ⟨rfl, b1⟩
        have B1 := Lib.hid (b1.alloc b1.size (.cells #[.string txt, .int .i64 100000, .func (.func 66) #[] #[]] 81))
        clear b1
        go_wp2_with fail
        refine (fineI_at HA.out _).mono ?_
        rintro e w2 ⟨rfl, rfl⟩
        go_wp2_with fail
        go_ret
        exact ⟨ret_int R.out.symm, B1.out⟩
      · have TA := Lib.hid (tun_at1 ha (b := b) (by omega))
        obtain ⟨u1, u2⟩ := ha
        have HP := Lib.hid (fun w => fifthP_impl a 1 ⟨u1, u2⟩ ⟨by omega, by omega⟩ w)
        have FR := Lib.hid (fun w => finePitch_impl ((3 * a - b).tdiv 2) w)
        have HK := Lib.hid (fun w => stepKind_at kin_1 w)
        generalize kindS 1 = txt at HK
        go_enter Try.func42, Try.ntmps42
        go_wp2_with fail
        refine (HK.out _).mono ?_
        rintro e w1 ⟨rfl, b1⟩
        have B1 := Lib.hid (b1.alloc b1.size (.cells #[.string txt, .int .i64 100000, .func (.func 66) #[] #[]] 81))
        clear b1
        go_wp2_with fail
        refine (fineI_at HA.out _).mono ?_
        rintro e w2 ⟨rfl, rfl⟩
        go_wp2_with fail
        refine (HP.out _).mono ?_
        rintro e w2 ⟨rfl, b2⟩
        have B2 := Lib.hid (B1.out.trans (b2.mono B1.out.size))
        clear b2 B1
        go_wp2_with fail
        by_cases hf : FineOk ((3 * a - b).tdiv 2)
        · have TR := Lib.hid (TA.out.1 hf)
          rw [decide_eq_true hf] at FR
          clear hf TA
          refine (FR.out _).mono ?_
          rintro e w3 ⟨rfl, rfl⟩
          go_wp2_with fail
          go_ret
          exact ⟨ret_int TR.out.symm, B2.out⟩
        · have TR := Lib.hid (TA.out.2 hf)
          rw [decide_eq_false hf] at FR
          clear hf TA
          refine (FR.out _).mono ?_
          rintro e w3 ⟨rfl, rfl⟩
          go_wp2_with fail
          go_ret
          exact ⟨ret_int TR.out.symm, B2.out⟩
  · have HA := Lib.hid (decide_eq_false ha)
    have R := Lib.hid (tunV_no1 (k := 1) (b := b) ha)
    clear ha
    have HK := Lib.hid (fun w => stepKind_at kin_1 w)
    generalize kindS 1 = txt at HK
    go_enter Try.func42, Try.ntmps42
    go_wp2_with fail
    refine (HK.out _).mono ?_
    rintro e w1 ⟨rfl, b1⟩
    have B1 := Lib.hid (b1.alloc b1.size (.cells #[.string txt, .int .i64 100000, .func (.func 66) #[] #[]] 81))
    clear b1
    go_wp2_with fail
    refine (fineI_at HA.out _).mono ?_
    rintro e w2 ⟨rfl, rfl⟩
    go_wp2_with fail
    go_ret
    exact ⟨ret_int R.out.symm, B1.out⟩
set_option maxHeartbeats 2000000 in
theorem tun_2 (a b : Int) (w : World) : Calls Try.prog 42 #[.int .i64 a, .int .i64 2, .int .i64 b] w fun e w' => e = .returned (.int .i64 (tunV a 2 b)) ∧ Below w.heap.size w w' := by
  by_cases ha : FineOk a
  · have HA := Lib.hid (decide_eq_true ha)
    by_cases b0 : b < 0
    · have R := Lib.hid (show tunV a 2 b = 0 from tunV_no2 (by omega))
      clear ha
      have HK := Lib.hid (fun w => stepKind_at kin_2 w)
      generalize kindS 2 = txt at HK
      go_enter Try.func42, Try.ntmps42
      go_wp2_with fail
      refine (HK.out _).mono ?_
      rintro e w1 ⟨rfl, b1⟩
      have B1 := Lib.hid (b1.alloc b1.size (.cells #[.string txt, .int .i64 100000, .func (.func 67) #[] #[]] 81))
      clear b1
      go_wp2_with fail
      refine (fineI_at HA.out _).mono ?_
      rintro e w2 ⟨rfl, rfl⟩
      go_wp2_with fail
      go_ret
      exact ⟨ret_int R.out.symm, B1.out⟩
    · by_cases b1 : b > 100000
      · have R := Lib.hid (show tunV a 2 b = 0 from tunV_no2 (by omega))
        clear ha
        have HK := Lib.hid (fun w => stepKind_at kin_2 w)
        generalize kindS 2 = txt at HK
        go_enter Try.func42, Try.ntmps42
        go_wp2_with fail
        refine (HK.out _).mono ?_
        rintro e w1 ⟨rfl, b1⟩
        have B1 := Lib.hid (b1.alloc b1.size (.cells #[.string txt, .int .i64 100000, .func (.func 67) #[] #[]] 81))
        clear b1
        go_wp2_with fail
        refine (fineI_at HA.out _).mono ?_
        rintro e w2 ⟨rfl, rfl⟩
        go_wp2_with fail
        go_ret
        exact ⟨ret_int R.out.symm, B1.out⟩
      · have TA := Lib.hid (tun_at2 ha (b := b) (by omega))
        obtain ⟨u1, u2⟩ := ha
        have HP := Lib.hid (fun w => fourthP_impl a 1 ⟨u1, u2⟩ ⟨by omega, by omega⟩ w)
        have FR := Lib.hid (fun w => finePitch_impl ((3 * a - b).tdiv 4) w)
        have HK := Lib.hid (fun w => stepKind_at kin_2 w)
        generalize kindS 2 = txt at HK
        go_enter Try.func42, Try.ntmps42
        go_wp2_with fail
        refine (HK.out _).mono ?_
        rintro e w1 ⟨rfl, b1⟩
        have B1 := Lib.hid (b1.alloc b1.size (.cells #[.string txt, .int .i64 100000, .func (.func 67) #[] #[]] 81))
        clear b1
        go_wp2_with fail
        refine (fineI_at HA.out _).mono ?_
        rintro e w2 ⟨rfl, rfl⟩
        go_wp2_with fail
        refine (HP.out _).mono ?_
        rintro e w2 ⟨rfl, b2⟩
        have B2 := Lib.hid (B1.out.trans (b2.mono B1.out.size))
        clear b2 B1
        go_wp2_with fail
        by_cases hf : FineOk ((3 * a - b).tdiv 4)
        · have TR := Lib.hid (TA.out.1 hf)
          rw [decide_eq_true hf] at FR
          clear hf TA
          refine (FR.out _).mono ?_
          rintro e w3 ⟨rfl, rfl⟩
          go_wp2_with fail
          go_ret
          exact ⟨ret_int TR.out.symm, B2.out⟩
        · have TR := Lib.hid (TA.out.2 hf)
          rw [decide_eq_false hf] at FR
          clear hf TA
          refine (FR.out _).mono ?_
          rintro e w3 ⟨rfl, rfl⟩
          go_wp2_with fail
          go_ret
          exact ⟨ret_int TR.out.symm, B2.out⟩
  · have HA := Lib.hid (decide_eq_false ha)
    have R := Lib.hid (tunV_no1 (k := 2) (b := b) ha)
    clear ha
    have HK := Lib.hid (fun w => stepKind_at kin_2 w)
    generalize kindS 2 = txt at HK
    go_enter Try.func42, Try.ntmps42
    go_wp2_with fail
    refine (HK.out _).mono ?_
    rintro e w1 ⟨rfl, b1⟩
    have B1 := Lib.hid (b1.alloc b1.size (.cells #[.string txt, .int .i64 100000, .func (.func 67) #[] #[]] 81))
    clear b1
    go_wp2_with fail
    refine (fineI_at HA.out _).mono ?_
    rintro e w2 ⟨rfl, rfl⟩
    go_wp2_with fail
    go_ret
    exact ⟨ret_int R.out.symm, B1.out⟩
set_option maxHeartbeats 2000000 in
theorem tun_3 (a b : Int) (w : World) : Calls Try.prog 42 #[.int .i64 a, .int .i64 3, .int .i64 b] w fun e w' => e = .returned (.int .i64 (tunV a 3 b)) ∧ Below w.heap.size w w' := by
  by_cases ha : FineOk a
  · have HA := Lib.hid (decide_eq_true ha)
    by_cases b0 : b < 0
    · have R := Lib.hid (show tunV a 3 b = 0 from tunV_no2 (by omega))
      clear ha
      have HK := Lib.hid (fun w => stepKind_at kin_3 w)
      generalize kindS 3 = txt at HK
      go_enter Try.func42, Try.ntmps42
      go_wp2_with fail
      refine (HK.out _).mono ?_
      rintro e w1 ⟨rfl, b1⟩
      have B1 := Lib.hid (b1.alloc b1.size (.cells #[.string txt, .int .i64 0, .func (.func 68) #[] #[]] 81))
      clear b1
      go_wp2_with fail
      refine (fineI_at HA.out _).mono ?_
      rintro e w2 ⟨rfl, rfl⟩
      go_wp2_with fail
      go_ret
      exact ⟨ret_int R.out.symm, B1.out⟩
    · by_cases b1 : b > 0
      · have R := Lib.hid (show tunV a 3 b = 0 from tunV_pure (by omega) (by omega))
        clear ha
        have HK := Lib.hid (fun w => stepKind_at kin_3 w)
        generalize kindS 3 = txt at HK
        go_enter Try.func42, Try.ntmps42
        go_wp2_with fail
        refine (HK.out _).mono ?_
        rintro e w1 ⟨rfl, b1⟩
        have B1 := Lib.hid (b1.alloc b1.size (.cells #[.string txt, .int .i64 0, .func (.func 68) #[] #[]] 81))
        clear b1
        go_wp2_with fail
        refine (fineI_at HA.out _).mono ?_
        rintro e w2 ⟨rfl, rfl⟩
        go_wp2_with fail
        go_ret
        exact ⟨ret_int R.out.symm, B1.out⟩
      · obtain rfl : b = 0 := by omega
        have TA := Lib.hid (tun_at3 ha)
        obtain ⟨u1, u2⟩ := ha
        obtain ⟨r, hr⟩ : ∃ r, r = 2 * a := ⟨_, rfl⟩
        rw [← hr] at TA
        have HP := Lib.hid (fun w => upP_impl a 1 ⟨u1, u2⟩ ⟨by omega, by omega⟩ w)
        have v2 : 2 * a = r := hr.symm
        have HR := Lib.hid hr
        have hrb : 0 ≤ r ∧ r ≤ 20000000 := by omega
        obtain ⟨r1, r2⟩ := hrb
        have v3 : IntKind.i64.wrap r = r := IntWalk.i64_in _ (by omega)
        have FR := Lib.hid (fun w => finePitch_impl r w)
        clear hr b0 b1
        have HK := Lib.hid (fun w => stepKind_at kin_3 w)
        generalize kindS 3 = txt at HK
        go_enter Try.func42, Try.ntmps42
        go_wp2_with fail
        refine (HK.out _).mono ?_
        rintro e w1 ⟨rfl, b1⟩
        have B1 := Lib.hid (b1.alloc b1.size (.cells #[.string txt, .int .i64 0, .func (.func 68) #[] #[]] 81))
        clear b1
        go_wp2_with fail
        refine (fineI_at HA.out _).mono ?_
        rintro e w2 ⟨rfl, rfl⟩
        go_wp2_with fail
        refine (HP.out _).mono ?_
        rintro e w2 ⟨rfl, b2⟩
        have B2 := Lib.hid (B1.out.trans (b2.mono B1.out.size))
        clear b2 B1
        go_wp2_with fail
        by_cases hf : FineOk r
        · have TR := Lib.hid (TA.out.1 hf)
          rw [decide_eq_true hf] at FR
          clear hf TA
          refine (FR.out _).mono ?_
          rintro e w3 ⟨rfl, rfl⟩
          go_wp2_with fail
          go_ret
          exact ⟨ret_int TR.out.symm, B2.out⟩
        · have TR := Lib.hid (TA.out.2 hf)
          rw [decide_eq_false hf] at FR
          clear hf TA
          refine (FR.out _).mono ?_
          rintro e w3 ⟨rfl, rfl⟩
          go_wp2_with fail
          go_ret
          exact ⟨ret_int TR.out.symm, B2.out⟩
  · have HA := Lib.hid (decide_eq_false ha)
    have R := Lib.hid (tunV_no1 (k := 3) (b := b) ha)
    clear ha
    have HK := Lib.hid (fun w => stepKind_at kin_3 w)
    generalize kindS 3 = txt at HK
    go_enter Try.func42, Try.ntmps42
    go_wp2_with fail
    refine (HK.out _).mono ?_
    rintro e w1 ⟨rfl, b1⟩
    have B1 := Lib.hid (b1.alloc b1.size (.cells #[.string txt, .int .i64 0, .func (.func 68) #[] #[]] 81))
    clear b1
    go_wp2_with fail
    refine (fineI_at HA.out _).mono ?_
    rintro e w2 ⟨rfl, rfl⟩
    go_wp2_with fail
    go_ret
    exact ⟨ret_int R.out.symm, B1.out⟩
set_option maxHeartbeats 2000000 in
theorem tun_4 (a b : Int) (w : World) : Calls Try.prog 42 #[.int .i64 a, .int .i64 4, .int .i64 b] w fun e w' => e = .returned (.int .i64 (tunV a 4 b)) ∧ Below w.heap.size w w' := by
  by_cases ha : FineOk a
  · have HA := Lib.hid (decide_eq_true ha)
    by_cases b0 : b < 0
    · have R := Lib.hid (show tunV a 4 b = 0 from tunV_no2 (by omega))
      clear ha
      have HK := Lib.hid (fun w => stepKind_at kin_4 w)
      generalize kindS 4 = txt at HK
      go_enter Try.func42, Try.ntmps42
      go_wp2_with fail
      refine (HK.out _).mono ?_
      rintro e w1 ⟨rfl, b1⟩
      have B1 := Lib.hid (b1.alloc b1.size (.cells #[.string txt, .int .i64 0, .func (.func 69) #[] #[]] 81))
      clear b1
      go_wp2_with fail
      refine (fineI_at HA.out _).mono ?_
      rintro e w2 ⟨rfl, rfl⟩
      go_wp2_with fail
      go_ret
      exact ⟨ret_int R.out.symm, B1.out⟩
    · by_cases b1 : b > 0
      · have R := Lib.hid (show tunV a 4 b = 0 from tunV_pure (by omega) (by omega))
        clear ha
        have HK := Lib.hid (fun w => stepKind_at kin_4 w)
        generalize kindS 4 = txt at HK
        go_enter Try.func42, Try.ntmps42
        go_wp2_with fail
        refine (HK.out _).mono ?_
        rintro e w1 ⟨rfl, b1⟩
        have B1 := Lib.hid (b1.alloc b1.size (.cells #[.string txt, .int .i64 0, .func (.func 69) #[] #[]] 81))
        clear b1
        go_wp2_with fail
        refine (fineI_at HA.out _).mono ?_
        rintro e w2 ⟨rfl, rfl⟩
        go_wp2_with fail
        go_ret
        exact ⟨ret_int R.out.symm, B1.out⟩
      · obtain rfl : b = 0 := by omega
        have TA := Lib.hid (tun_at4 ha)
        obtain ⟨u1, u2⟩ := ha
        obtain ⟨r, hr⟩ : ∃ r, r = a / 2 := ⟨_, rfl⟩
        rw [← hr] at TA
        have HP := Lib.hid (fun w => downP_impl a 1 ⟨u1, u2⟩ ⟨by omega, by omega⟩ w)
        have v2 : a / 2 = r := hr.symm
        have HR := Lib.hid hr
        have hrb : 0 ≤ r ∧ r ≤ 20000000 := by omega
        obtain ⟨r1, r2⟩ := hrb
        have v3 : IntKind.i64.wrap r = r := IntWalk.i64_in _ (by omega)
        have FR := Lib.hid (fun w => finePitch_impl r w)
        clear hr b0 b1
        have HK := Lib.hid (fun w => stepKind_at kin_4 w)
        generalize kindS 4 = txt at HK
        go_enter Try.func42, Try.ntmps42
        go_wp2_with fail
        refine (HK.out _).mono ?_
        rintro e w1 ⟨rfl, b1⟩
        have B1 := Lib.hid (b1.alloc b1.size (.cells #[.string txt, .int .i64 0, .func (.func 69) #[] #[]] 81))
        clear b1
        go_wp2_with fail
        refine (fineI_at HA.out _).mono ?_
        rintro e w2 ⟨rfl, rfl⟩
        go_wp2_with fail
        refine (HP.out _).mono ?_
        rintro e w2 ⟨rfl, b2⟩
        have B2 := Lib.hid (B1.out.trans (b2.mono B1.out.size))
        clear b2 B1
        go_wp2_with fail
        by_cases hf : FineOk r
        · have TR := Lib.hid (TA.out.1 hf)
          rw [decide_eq_true hf] at FR
          clear hf TA
          refine (FR.out _).mono ?_
          rintro e w3 ⟨rfl, rfl⟩
          go_wp2_with fail
          go_ret
          exact ⟨ret_int TR.out.symm, B2.out⟩
        · have TR := Lib.hid (TA.out.2 hf)
          rw [decide_eq_false hf] at FR
          clear hf TA
          refine (FR.out _).mono ?_
          rintro e w3 ⟨rfl, rfl⟩
          go_wp2_with fail
          go_ret
          exact ⟨ret_int TR.out.symm, B2.out⟩
  · have HA := Lib.hid (decide_eq_false ha)
    have R := Lib.hid (tunV_no1 (k := 4) (b := b) ha)
    clear ha
    have HK := Lib.hid (fun w => stepKind_at kin_4 w)
    generalize kindS 4 = txt at HK
    go_enter Try.func42, Try.ntmps42
    go_wp2_with fail
    refine (HK.out _).mono ?_
    rintro e w1 ⟨rfl, b1⟩
    have B1 := Lib.hid (b1.alloc b1.size (.cells #[.string txt, .int .i64 0, .func (.func 69) #[] #[]] 81))
    clear b1
    go_wp2_with fail
    refine (fineI_at HA.out _).mono ?_
    rintro e w2 ⟨rfl, rfl⟩
    go_wp2_with fail
    go_ret
    exact ⟨ret_int R.out.symm, B1.out⟩
set_option maxHeartbeats 1000000 in
theorem tun_impl : TunImpl := by
  intro a k b w
  by_cases hk : 1 ≤ k ∧ k ≤ 4
  · rcases kin_yes hk with ⟨rfl, _⟩ | ⟨rfl, _⟩ | ⟨rfl, _⟩ | ⟨rfl, _⟩
    · exact tun_1 a b w
    · exact tun_2 a b w
    · exact tun_3 a b w
    · exact tun_4 a b w
  · have HK := Lib.hid (fun w => stepKind_at (kin_0 hk) w)
    have R := Lib.hid (tunV_kind (a := a) (b := b) hk)
    clear hk
    go_enter Try.func42, Try.ntmps42
    go_wp2_with fail
    refine (HK.out _).mono ?_
    rintro e w1 ⟨rfl, b1⟩
    have B1 := Lib.hid (b1.alloc b1.size (.cells #[.string ⟨#[]⟩, .int .i64 0, .nilFunc] 81))
    clear b1
    go_wp2_with fail
    go_ret
    exact ⟨ret_int R.out.symm, B1.out⟩
theorem hdAB {k : Int} (h : 1 ≤ k ∧ k ≤ 4) {a t : Int} (ha : FineOk a) (ht : FineOk t) : (0 ≤ hdA k * a ∧ hdA k * a ≤ 30000000) ∧ 0 ≤ hdB k * t ∧ hdB k * t ≤ 40000000 := by
  obtain ⟨u1, u2⟩ := ha
  obtain ⟨u3, u4⟩ := ht
  rcases kin_yes h with ⟨rfl, e1, e2⟩ | ⟨rfl, e1, e2⟩ | ⟨rfl, e1, e2⟩ | ⟨rfl, e1, e2⟩ <;> rw [e1, e2] <;> omega
theorem narB_yes {a t k : Int} (h : HdOk a t k) (k2 : k = 1 ∨ k = 2) : narB a t k = decide (hdB k * t < hdA k * a) := by
  unfold narB
  refine decide_eq_decide.2 ?_
  unfold heardV
  rw [if_pos ⟨h.2.1, h.2.2, h.1⟩]
  rcases k2 with rfl | rfl
  · rw [show hdA 1 = 3 from rfl, show hdB 1 = 2 from rfl]; omega
  · rw [show hdA 2 = 3 from rfl, show hdB 2 = 4 from rfl]; omega
theorem tempered_at {k : Int} {b : Bool} (h : decide (k = 1 ∨ k = 2) = b) (w : World) : Calls Try.prog 70 #[.int .i64 k] w fun e w' => e = .returned (.bool b) ∧ w = w' := by
  have HB := Lib.hid h
  by_cases h1 : k = 1
  · subst h1
    clear h
    go_enter Try.func70, Try.ntmps70
    go_wp2
    go_ret
    exact ⟨ret_boolT (by rw [← HB.out]; rfl), rfl⟩
  · by_cases h2 : k = 2
    · subst h2
      clear h h1
      go_enter Try.func70, Try.ntmps70
      go_wp2
      go_ret
      exact ⟨ret_boolT (by rw [← HB.out]; rfl), rfl⟩
    · have n1 : (k == 1) = false := by simpa using h1
      have n2 : (k == 2) = false := by simpa using h2
      have R := Lib.hid (show b = false from by rw [← h]; exact decide_eq_false (by omega))
      clear h h1 h2
      go_enter Try.func70, Try.ntmps70
      go_wp2
      go_ret
      exact ⟨ret_boolT R.out.symm, rfl⟩
theorem ret_strT {x y : ByteArray} (h : x = y) : Ending.returned (.string x) = .returned (.string y) := by rw [h]
end Go.Proofs.Ytbklnlmijkclmaa
