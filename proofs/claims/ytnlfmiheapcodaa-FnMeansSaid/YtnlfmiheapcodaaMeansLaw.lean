/- The walk of laws.FnMeans. Written by means.py. -/
import Derived.Test.YtnlfmiheapcodaaMeanTone
import Derived.Test.YtnlfmiheapcodaaBigWalk
import Derived.Test.YtnlfmiheapcodaaCurWalks
namespace Go.Proofs.Ytnlfmiheapcodaa
open Go.RowKit Go.Joins
set_option linter.unusedVariables false
/-- A drawn part of the comma. -/
def DrawnPart (W : World) (e : Ending) (w' : World) : Prop := ∃ num den : Int, PartOk num den ∧ e = .returned (.tuple #[.int .i64 num, .int .i64 den]) ∧ Below W.heap.size W w'
set_option maxHeartbeats 2000000 in
theorem drawMean_any {W : World} {a : Option Addr} {len cap : Nat} {zs : List Int} (hr : IsRow .u8 W a len cap zs) :
    Calls Try.prog 32 #[.slice a len cap] W (DrawnPart W) := by
  have HR := Lib.hid hr
  clear hr
  go_enter Try.func32, Try.ntmps32
  go_wp2_with fail
  refine (new_any HR.out).mono ?_
  rintro e w1 ⟨b, rfl, hc1⟩
  have HC1 := Lib.hid hc1
  clear hc1
  go_wp2_with fail
  refine (below_any HC1.out _).mono ?_
  rintro e w2 ⟨x, hx, rfl, hc2, _⟩
  have k1 : 0 ≤ x ∧ x < 12 := ⟨hx.1, hx.2.2 (by omega)⟩
  obtain ⟨x0, x1⟩ := k1
  have HC2 := Lib.hid hc2
  clear hx hc2 HC1
  obtain ⟨d, hd⟩ : ∃ d, d = 1 + x := ⟨_, rfl⟩
  have v1 : IntKind.i64.wrap (1 + x) = d := by rw [IntWalk.i64_in _ (by omega)]; exact hd.symm
  have v2 : IntKind.i64.wrap (d + 1) = d + 1 := IntWalk.i64_in _ (by omega)
  have d0 : 1 ≤ d := by omega
  have d1 : d ≤ 12 := by omega
  clear hd x0 x1
  go_wp2_with fail
  refine (below_any HC2.out _).mono ?_
  rintro e w3 ⟨y, hy, rfl, hc3, _⟩
  have y0 : 0 ≤ y := hy.1
  have y1 : y ≤ d := by have := hy.2.2 (by omega); omega
  have BF := hc3.below
  clear hy hc3 HC2
  go_wp2_with fail
  go_ret2
  exact ⟨y, d, ⟨d0, d1, y0, y1⟩, rfl, BF⟩
/-- What laws.FnMeans calls, at one part of the comma. -/
structure MeanSay (num den p q r s p' q' r' s' t h f d : Int) (P Z : Bool) : Prop where
  mean : ∀ w, Calls Try.prog 33 #[.int .i64 num, .int .i64 den] w fun e w' => e = .returned (.tuple #[ivV p q r s, .bool true]) ∧ Below w.heap.size w w'
  wolf : ∀ w, Calls Try.prog 34 #[.int .i64 num, .int .i64 den] w fun e w' => e = .returned (.tuple #[ivV p' q' r' s', .bool true]) ∧ Below w.heap.size w w'
  tims : ∀ w, Calls Try.prog 35 #[ivV p q r s, .int .i64 11] w fun e w' => e = .returned (.tuple #[ivV t h f d, .bool true]) ∧ Below w.heap.size w w'
  adds : ∀ w, Calls Try.prog 36 #[ivV t h f d, ivV p' q' r' s'] w fun e w' => e = .returned (.tuple #[ivV 7 0 0 1, .bool true]) ∧ Below w.heap.size w w'
  third : ∀ w, Calls Try.prog 30 #[.int .i64 num, .int .i64 den] w fun e w' => e = .returned (.bool P) ∧ Below w.heap.size w w'
  tone : ∀ w, Calls Try.prog 37 #[.int .i64 num, .int .i64 den, .int .i64 1] w fun e w' => e = .returned (.tuple #[ivV p q r s, .bool true]) ∧ Below w.heap.size w w'
  quart : P = decide (4 * num = den)
  zero : (num = 0 ∧ p = -1 ∧ q = 1 ∧ r = 0 ∧ s = 1 ∧ Z = true) ∨ (¬ num = 0 ∧ ¬ r = 0 ∧ Z = false)
  num0 : 0 ≤ num ∧ num ≤ 12 ∧ 1 ≤ den
theorem mf_self {num den : Int} (hp : PartOk num den) : timV (mfV num den) 1 = mfV num den := by
  obtain ⟨i, j, rfl, rfl, hj, hi, hij⟩ := part_nat hp
  have k := mf_chk1 j hj i hi hij
  unfold mfChk1 at k
  simp only [Bool.and_eq_true] at k
  have e := eqV_eq k.1.1.2
  unfold timV
  rw [Int.mul_one, Int.mul_one, Int.mul_one]
  exact e
theorem meanSay_ex {num den : Int} (hp : PartOk num den) : ∃ p q r s p' q' r' s' t h f d P Z, MeanSay num den p q r s p' q' r' s' t h f d P Z := by
  have hM : MfAt num den (mfV num den).two (mfV num den).three (mfV num den).five (mfV num den).root true := .inl ⟨hp, rfl, rfl, rfl, rfl, rfl⟩
  have h1 := (mf_times hp (n := 1) (by omega)).2
  have h4 := (mf_times hp (n := 4) (by omega)).2
  have hz := mf_pure hp
  obtain ⟨tW, tE⟩ := mf_third hp
  have sf := mf_self hp
  have hw := mf_within hp
  rw [sf] at h1
  refine ⟨_, _, _, _, _, _, _, _, _, _, _, _, decide (4 * num = den), decide (num = 0), fun w => mean_impl hM w, fun w => wolf_impl (wfAt_yes hp) w, fun w => tmAt_impl (mf_times hp (n := 11) (by omega)).2 w, fun w => ?_, fun w => third_impl ⟨_, _, _, _, true, .inl ⟨by omega, _, _, _, _, _, _, _, _, _, _, hM, h4, tW⟩, tE.symm⟩ w, fun w => mtone_impl (.inl ⟨by omega, _, _, _, _, _, _, _, _, _, _, hM, h1, hw⟩) w, rfl, ?_, ?_⟩
  · have k := add_total (timV (mfV num den) 11) (wolV num den) w
    rw [(mf_wolf hp).2.2] at k
    exact k
  · by_cases hn : num = 0
    · have k := hz.1
      rw [decide_eq_true hn] at k
      have e := eqV_eq k
      exact .inl ⟨hn, congrArg Iv.two e, congrArg Iv.three e, congrArg Iv.five e, congrArg Iv.root e, decide_eq_true hn⟩
    · exact .inr ⟨hn, fun k => hn (hz.2.1 k), decide_eq_false hn⟩
  · obtain ⟨k1, k2, k3, k4⟩ := hp
    omega
theorem below_growM {w x : World} (h : Below w.heap.size w x) (o : Obj) : Below w.heap.size w (x.alloc o) := h.alloc h.size o
theorem twelveM {a b c : Nat} {p q r s p' q' r' s' t h f d : Int} {w : World} (h1 : Four a p q r s w) (h2 : Four b p' q' r' s' w) (h3 : Four c t h f d w) :
    w.cell? ⟨a, 0, none⟩ = some (.int .i64 p) ∧ w.cell? ⟨a, 1, none⟩ = some (.int .i64 q) ∧ w.cell? ⟨a, 2, none⟩ = some (.int .i64 r) ∧ w.cell? ⟨a, 3, none⟩ = some (.int .i64 s) ∧ w.cell? ⟨b, 0, none⟩ = some (.int .i64 p') ∧ w.cell? ⟨b, 1, none⟩ = some (.int .i64 q') ∧ w.cell? ⟨b, 2, none⟩ = some (.int .i64 r') ∧ w.cell? ⟨b, 3, none⟩ = some (.int .i64 s') ∧ w.cell? ⟨c, 0, none⟩ = some (.int .i64 t) ∧ w.cell? ⟨c, 1, none⟩ = some (.int .i64 h) ∧ w.cell? ⟨c, 2, none⟩ = some (.int .i64 f) ∧ w.cell? ⟨c, 3, none⟩ = some (.int .i64 d) :=
  ⟨h1.2.1, h1.2.2.1, h1.2.2.2.1, h1.2.2.2.2, h2.2.1, h2.2.2.1, h2.2.2.2.1, h2.2.2.2.2, h3.2⟩
set_option maxRecDepth 100000 in
set_option maxHeartbeats 8000000 in
theorem walk_FnMeans (a0 : Option Addr) (len0 cap0 : Nat) (z0 : List Int) (w : World) (hr : IsRow .u8 w a0 len0 cap0 z0) :
    Calls Try.prog 9 #[.slice a0 len0 cap0] w fun e w' => e = .returned (.bool true) ∧ Below w.heap.size w w' := by
  have hlen := (row_len hr).2
  by_cases hbig : 1048576 < len0
  · have t0 : decide (1048576 < (len0 : Int)) = true := by simp; omega
    go_enter Try.func9, Try.ntmps9
    go_wp2_with fail
    refine (bigW_any _ _ _ _ hlen).mono ?_
    rintro e w' ⟨rfl, rfl⟩
    go_wp2_with fail
    go_ret
    exact ⟨rfl, Below.refl _ _⟩
  · have t0 : decide (1048576 < (len0 : Int)) = false := by simp; omega
    have HR := Lib.hid hr
    have HLEN := Lib.hid hlen
    clear hr hbig hlen
    go_enter Try.func9, Try.ntmps9
    go_wp2_with fail
    refine (bigW_any _ _ _ _ HLEN.out).mono ?_
    rintro e w' ⟨rfl, rfl⟩
    rw [t0]
    go_wp2_with fail
    clear t0
    refine (drawMean_any HR.out).mono ?_
    rintro e w0 ⟨num, den, hp, rfl, hb⟩
    have B0 := Lib.hid hb
    obtain ⟨p, q, r, s, p', q', r', s', t, h, f, d, P, Z, say⟩ := meanSay_ex hp
    have K := Lib.hid say
    clear hb hp say HR HLEN
    go_wp2_with fail
    refine (K.out.mean _).mono ?_
    rintro e w1 ⟨rfl, hb⟩
    have KK : Hid (∀ Y : World, Y = w1.alloc (.cells #[.int .i64 p, .int .i64 q, .int .i64 r, .int .i64 s] 32) → Below w.heap.size w Y ∧ Four w1.heap.size p q r s Y) := Lib.hid (by
      rintro Y rfl
      exact ⟨below_growM (B0.out.trans (hb.mono B0.out.size)) _, four_alloc⟩)
    clear hb B0 
    go_upto_region 5 with fail
    obtain ⟨W1, hW⟩ : ∃ Y, Y = w1.alloc (.cells #[.int .i64 p, .int .i64 q, .int .i64 r, .int .i64 s] 32) := ⟨_, rfl⟩
    have Q := Lib.hid (KK.out W1 hW)
    rw [← hW]
    clear hW KK
    generalize w1.heap.size = mF at Q ⊢
    have B1 := Lib.hid Q.out.1
    have F1 := Lib.hid Q.out.2
    clear Q
    go_wp2_with fail
    refine (K.out.wolf _).mono ?_
    rintro e w2 ⟨rfl, hb⟩
    have KK : Hid (∀ Y : World, Y = w2.alloc (.cells #[.int .i64 p', .int .i64 q', .int .i64 r', .int .i64 s'] 32) → Below w.heap.size w Y ∧ Four mF p q r s Y ∧ Four w2.heap.size p' q' r' s' Y) := Lib.hid (by
      rintro Y rfl
      exact ⟨below_growM (B1.out.trans (hb.mono B1.out.size)) _, four_alF (four_keep hb F1.out), four_alloc⟩)
    clear hb B1 F1
    go_upto_region 6 with fail
    obtain ⟨W2, hW⟩ : ∃ Y, Y = w2.alloc (.cells #[.int .i64 p', .int .i64 q', .int .i64 r', .int .i64 s'] 32) := ⟨_, rfl⟩
    have Q := Lib.hid (KK.out W2 hW)
    rw [← hW]
    clear hW KK
    generalize w2.heap.size = mW at Q ⊢
    have B2 := Lib.hid Q.out.1
    have F2 := Lib.hid Q.out.2.1
    have W2 := Lib.hid Q.out.2.2
    clear Q
    obtain ⟨_, x0, x1, x2, x3⟩ := F2.out
    go_wp2_with fail
    refine (K.out.tims _).mono ?_
    rintro e w3 ⟨rfl, hb⟩
    clear x0 x1 x2 x3
    have KK : Hid (∀ Y : World, Y = w3.alloc (.cells #[.int .i64 t, .int .i64 h, .int .i64 f, .int .i64 d] 32) → Below w.heap.size w Y ∧ Four mF p q r s Y ∧ Four mW p' q' r' s' Y ∧ Four w3.heap.size t h f d Y) := Lib.hid (by
      rintro Y rfl
      exact ⟨below_growM (B2.out.trans (hb.mono B2.out.size)) _, four_alF (four_keep hb F2.out), four_alF (four_keep hb W2.out), four_alloc⟩)
    clear hb B2 F2 W2
    go_upto_region 7 with fail
    obtain ⟨W3, hW⟩ : ∃ Y, Y = w3.alloc (.cells #[.int .i64 t, .int .i64 h, .int .i64 f, .int .i64 d] 32) := ⟨_, rfl⟩
    have Q := Lib.hid (KK.out W3 hW)
    rw [← hW]
    clear hW KK
    generalize w3.heap.size = mX at Q ⊢
    have B3 := Lib.hid Q.out.1
    have F3 := Lib.hid Q.out.2.1
    have W3 := Lib.hid Q.out.2.2.1
    have X3 := Lib.hid Q.out.2.2.2
    clear Q
    obtain ⟨_, z0, z1, z2, z3⟩ := X3.out
    obtain ⟨_, y0, y1, y2, y3⟩ := W3.out
    go_wp2_with fail
    refine (K.out.adds _).mono ?_
    rintro e w4 ⟨rfl, hb⟩
    clear z0 z1 z2 z3 y0 y1 y2 y3
    have KK : Hid (∀ Y : World, Y = w4.alloc (.cells #[.int .i64 7, .int .i64 0, .int .i64 0, .int .i64 1] 32) → Below w.heap.size w Y ∧ Four mF p q r s Y ∧ Four mW p' q' r' s' Y ∧ Four mX t h f d Y ∧ Four w4.heap.size 7 0 0 1 Y) := Lib.hid (by
      rintro Y rfl
      exact ⟨below_growM (B3.out.trans (hb.mono B3.out.size)) _, four_alF (four_keep hb F3.out), four_alF (four_keep hb W3.out), four_alF (four_keep hb X3.out), four_alloc⟩)
    clear hb B3 F3 W3 X3
    go_upto_region 10 with fail
    obtain ⟨W4, hW⟩ : ∃ Y, Y = w4.alloc (.cells #[.int .i64 7, .int .i64 0, .int .i64 0, .int .i64 1] 32) := ⟨_, rfl⟩
    have Q := Lib.hid (KK.out W4 hW)
    rw [← hW]
    clear hW KK
    generalize w4.heap.size = mS at Q ⊢
    have B4 := Lib.hid Q.out.1
    have F4 := Lib.hid Q.out.2.1
    have W4 := Lib.hid Q.out.2.2.1
    have X4 := Lib.hid Q.out.2.2.2.1
    have S4 := Lib.hid Q.out.2.2.2.2
    clear Q
    go_wp2_with fail
    refine (K.out.third _).mono ?_
    rintro e w5 ⟨rfl, hb⟩
    have B5 := Lib.hid (B4.out.trans (hb.mono B4.out.size))
    have F5 := Lib.hid (four_keep hb F4.out)
    have W5 := Lib.hid (four_keep hb W4.out)
    have X5 := Lib.hid (four_keep hb X4.out)
    have S5 := Lib.hid (four_keep hb S4.out)
    clear hb B4 F4 W4 X4 S4
    go_wp2_with fail
    refine (K.out.tone _).mono ?_
    rintro e w6 ⟨rfl, hb⟩
    have KK : Hid (∀ Y : World, Y = w6.alloc (.cells #[.int .i64 p, .int .i64 q, .int .i64 r, .int .i64 s] 32) → Below w.heap.size w Y ∧ Four mF p q r s Y ∧ Four mW p' q' r' s' Y ∧ Four mX t h f d Y ∧ Four mS 7 0 0 1 Y ∧ Four w6.heap.size p q r s Y) := Lib.hid (by
      rintro Y rfl
      exact ⟨below_growM (B5.out.trans (hb.mono B5.out.size)) _, four_alF (four_keep hb F5.out), four_alF (four_keep hb W5.out), four_alF (four_keep hb X5.out), four_alF (four_keep hb S5.out), four_alloc⟩)
    clear hb B5 F5 W5 X5 S5
    go_upto_region 12 with fail
    obtain ⟨W6, hW⟩ : ∃ Y, Y = w6.alloc (.cells #[.int .i64 p, .int .i64 q, .int .i64 r, .int .i64 s] 32) := ⟨_, rfl⟩
    have Q := Lib.hid (KK.out W6 hW)
    rw [← hW]
    clear hW KK
    generalize w6.heap.size = mT at Q ⊢
    have B6 := Lib.hid Q.out.1
    have F6 := Lib.hid Q.out.2.1
    have W6 := Lib.hid Q.out.2.2.1
    have X6 := Lib.hid Q.out.2.2.2.1
    have S6 := Lib.hid Q.out.2.2.2.2.1
    have T6 := Lib.hid Q.out.2.2.2.2.2
    clear Q
    have hQ := K.out.quart
    have n0 := K.out.num0.1
    have n1 := K.out.num0.2.1
    have n2 := K.out.num0.2.2
    have v4 : IntKind.i64.wrap (4 * num) = 4 * num := IntWalk.i64_in _ (by omega)
    rcases K.out.zero with ⟨rfl, rfl, rfl, rfl, rfl, _⟩ | ⟨h1, h2, _⟩
    · by_cases h4 : (0 : Int) = den
      · exact absurd h4 (by omega)
      · rw [decide_eq_false (show ¬ 4 * (0 : Int) = den from by omega)] at hQ
        subst hQ
        have w0 : IntKind.i64.wrap 0 = 0 := by decide
        have e4 : ((0 : Int) == den) = false := by simpa using h4
        clear K W6 X6
        go_region_held3 (fun w' => w'.cell? ⟨mS, 0, none⟩ = some (.int .i64 7) ∧ w'.cell? ⟨mS, 1, none⟩ = some (.int .i64 0) ∧ w'.cell? ⟨mS, 2, none⟩ = some (.int .i64 0) ∧ w'.cell? ⟨mS, 3, none⟩ = some (.int .i64 1) ∧ w'.cell? ⟨mT, 0, none⟩ = some (.int .i64 (-1)) ∧ w'.cell? ⟨mT, 1, none⟩ = some (.int .i64 1) ∧ w'.cell? ⟨mT, 2, none⟩ = some (.int .i64 0) ∧ w'.cell? ⟨mT, 3, none⟩ = some (.int .i64 1) ∧ w'.cell? ⟨mF, 0, none⟩ = some (.int .i64 (-1)) ∧ w'.cell? ⟨mF, 1, none⟩ = some (.int .i64 1) ∧ w'.cell? ⟨mF, 2, none⟩ = some (.int .i64 0) ∧ w'.cell? ⟨mF, 3, none⟩ = some (.int .i64 1)) (with_reducible first | exact twelveM (four_drewF S6.out) (four_drewF T6.out) (four_drewF F6.out) | exact twelveM (four_keep (by assumption) S6.out) (four_keep (by assumption) T6.out) (four_keep (by assumption) F6.out) | exact twelveM S6.out T6.out F6.out)
          (first
            | (go_at_call 38; refine (calls_fromF (W := W6) (by with_reducible first | assumption | exact (Below.refl _ _).drew) (pure_impl_yes _ _ _ _ (by decide))).mono ?_; rintro e1 wz ⟨rfl, hb⟩))
        go_wp2_with fail
        go_ret
        exact ⟨rfl, B6.out.trans (hb.mono B6.out.size)⟩
    · have e5 : (num == 0) = false := by simpa using h1
      have e6 : (r == 0) = false := by simpa using h2
      by_cases h4 : 4 * num = den
      · rw [decide_eq_true h4] at hQ
        subst hQ
        subst h4
        clear K W6 X6
        go_region_held3 (fun w' => w'.cell? ⟨mS, 0, none⟩ = some (.int .i64 7) ∧ w'.cell? ⟨mS, 1, none⟩ = some (.int .i64 0) ∧ w'.cell? ⟨mS, 2, none⟩ = some (.int .i64 0) ∧ w'.cell? ⟨mS, 3, none⟩ = some (.int .i64 1) ∧ w'.cell? ⟨mT, 0, none⟩ = some (.int .i64 p) ∧ w'.cell? ⟨mT, 1, none⟩ = some (.int .i64 q) ∧ w'.cell? ⟨mT, 2, none⟩ = some (.int .i64 r) ∧ w'.cell? ⟨mT, 3, none⟩ = some (.int .i64 s) ∧ w'.cell? ⟨mF, 0, none⟩ = some (.int .i64 p) ∧ w'.cell? ⟨mF, 1, none⟩ = some (.int .i64 q) ∧ w'.cell? ⟨mF, 2, none⟩ = some (.int .i64 r) ∧ w'.cell? ⟨mF, 3, none⟩ = some (.int .i64 s)) (with_reducible first | exact twelveM (four_drewF S6.out) (four_drewF T6.out) (four_drewF F6.out) | exact twelveM (four_keep (by assumption) S6.out) (four_keep (by assumption) T6.out) (four_keep (by assumption) F6.out) | exact twelveM S6.out T6.out F6.out)
          (first
            | (go_at_call 38; refine (calls_fromF (W := W6) (by with_reducible first | assumption | exact (Below.refl _ _).drew) (pure_impl_yes _ _ _ _ (by decide))).mono ?_; rintro e1 wz ⟨rfl, hb⟩))
        go_wp2_with fail
        go_ret
        exact ⟨rfl, B6.out.trans (hb.mono B6.out.size)⟩
      · rw [decide_eq_false h4] at hQ
        subst hQ
        have e4 : (4 * num == den) = false := by simpa using h4
        clear K W6 X6
        go_region_held3 (fun w' => w'.cell? ⟨mS, 0, none⟩ = some (.int .i64 7) ∧ w'.cell? ⟨mS, 1, none⟩ = some (.int .i64 0) ∧ w'.cell? ⟨mS, 2, none⟩ = some (.int .i64 0) ∧ w'.cell? ⟨mS, 3, none⟩ = some (.int .i64 1) ∧ w'.cell? ⟨mT, 0, none⟩ = some (.int .i64 p) ∧ w'.cell? ⟨mT, 1, none⟩ = some (.int .i64 q) ∧ w'.cell? ⟨mT, 2, none⟩ = some (.int .i64 r) ∧ w'.cell? ⟨mT, 3, none⟩ = some (.int .i64 s) ∧ w'.cell? ⟨mF, 0, none⟩ = some (.int .i64 p) ∧ w'.cell? ⟨mF, 1, none⟩ = some (.int .i64 q) ∧ w'.cell? ⟨mF, 2, none⟩ = some (.int .i64 r) ∧ w'.cell? ⟨mF, 3, none⟩ = some (.int .i64 s)) (with_reducible first | exact twelveM (four_drewF S6.out) (four_drewF T6.out) (four_drewF F6.out) | exact twelveM (four_keep (by assumption) S6.out) (four_keep (by assumption) T6.out) (four_keep (by assumption) F6.out) | exact twelveM S6.out T6.out F6.out)
          (first
            | (go_at_call 38; refine (calls_fromF (W := W6) (by with_reducible first | assumption | exact (Below.refl _ _).drew) (pure_impl_yes _ _ _ _ (by decide))).mono ?_; rintro e1 wz ⟨rfl, hb⟩))
        go_wp2_with fail
        go_ret
        exact ⟨rfl, B6.out.trans (hb.mono B6.out.size)⟩
end Go.Proofs.Ytnlfmiheapcodaa
