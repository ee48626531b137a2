/- What laws.FnBestMaps calls, told without a look inside; its walk. Written by bests.py. -/
import Derived.Test.YthbjndaemmaoaaaDoorBestMap
import Derived.Test.YthbjndaemmaoaaaDoorStepSzLaw
import Derived.Test.YthbjndaemmaoaaaDoorCompareTone
import Derived.Test.YthbjndaemmaoaaaDoorAtWalks
import Derived.Deep.DeepCutAuto
namespace Go.Proofs.YthbjndaemmaoaaaDoor
open Go.RowKit Go.Joins
set_option linter.unusedVariables false
structure BestSay (P : Addr) (n b c z1 z2 z3 z4 : Int) : Prop where
  map : ∀ w, Calls Tryd.prog 6 #[.int .i64 n] w fun e w' => e = .returned (mapV n b c) ∧ Below w.heap.size w w'
  p1 : ∀ w, Calls Tryd.prog 7 #[.int .i64 (-(2 * b - 1)), .int .i64 (2 * n), .int .i64 0] w fun e w' => e = .returned (ivV (-(2 * b - 1)) (2 * n) 0 1) ∧ Below w.heap.size w w'
  p2 : ∀ w, Calls Tryd.prog 7 #[.int .i64 (-(2 * b + 1)), .int .i64 (2 * n), .int .i64 0] w fun e w' => e = .returned (ivV (-(2 * b + 1)) (2 * n) 0 1) ∧ Below w.heap.size w w'
  p3 : ∀ w, Calls Tryd.prog 7 #[.int .i64 (-(2 * c - 1)), .int .i64 0, .int .i64 (2 * n)] w fun e w' => e = .returned (ivV (-(2 * c - 1)) 0 (2 * n) 1) ∧ Below w.heap.size w w'
  p4 : ∀ w, Calls Tryd.prog 7 #[.int .i64 (-(2 * c + 1)), .int .i64 0, .int .i64 (2 * n)] w fun e w' => e = .returned (ivV (-(2 * c + 1)) 0 (2 * n) 1) ∧ Below w.heap.size w w'
  s1 : ∀ w, SenAt P w → Calls Tryd.prog 8 #[ivV (-(2 * b - 1)) (2 * n) 0 1] w fun en w' => en = .returned (.int .i64 z1) ∧ Below w.heap.size w w'
  s2 : ∀ w, SenAt P w → Calls Tryd.prog 8 #[ivV (-(2 * b + 1)) (2 * n) 0 1] w fun en w' => en = .returned (.int .i64 z2) ∧ Below w.heap.size w w'
  s3 : ∀ w, SenAt P w → Calls Tryd.prog 8 #[ivV (-(2 * c - 1)) 0 (2 * n) 1] w fun en w' => en = .returned (.int .i64 z3) ∧ Below w.heap.size w w'
  s4 : ∀ w, SenAt P w → Calls Tryd.prog 8 #[ivV (-(2 * c + 1)) 0 (2 * n) 1] w fun en w' => en = .returned (.int .i64 z4) ∧ Below w.heap.size w w'
  step : n ≤ 12 → ∀ w, Calls Tryd.prog 9 #[mapV n b c] w fun e w' => e = .returned (ivV 1 0 0 n) ∧ Below w.heap.size w w'
  ok : ∀ w, Calls Tryd.prog 10 #[mapV n b c] w fun e w' => e = .returned (.bool true) ∧ Below w.heap.size w w'
  k1 : 0 < z1
  k2 : z2 < 0
  k3 : 0 < z3
  k4 : z4 < 0
  b0 : 0 ≤ b
  b1 : b ≤ 96
  c0 : 0 ≤ c
  c1 : c ≤ 140
theorem cmp8_sgn {a b c : Int} (h : okI a b c 1 = true) : cmp8 a b c 1 0 0 0 1 = sgnP a b c := cmpV_prime (x := ⟨a, b, c, 1⟩) h
theorem near_sgn {h f k : Int} (hk : NearAt h f k) : 0 < sgnP (-(2 * k - 1)) h f ∧ sgnP (-(2 * k + 1)) h f < 0 := by
  have e1 := hk k
  have e2 := hk (k + 1)
  have o2 := odd_sgn (k + 1) h f
  rw [show 1 - k * 2 = -(2 * k - 1) from by omega] at e1
  rw [show 1 - (k + 1) * 2 = -(2 * k + 1) from by omega] at e2 o2
  constructor
  · exact e1.2 (Int.le_refl _)
  · have : ¬ 0 < sgnP (-(2 * k + 1)) h f := fun hs => by have := e2.1 hs; omega
    omega
theorem bestSay_ex (P : Addr) {n : Int} (n0 : 1 ≤ n) (n1 : n ≤ 40) : ∃ b c z1 z2 z3 z4, BestSay P n b c z1 z2 z3 z4 := by
  obtain ⟨a, b, c, hb⟩ := bestAt_ex n
  obtain ⟨ha, ⟨b0, b1⟩, c0, c1⟩ := best_okM hb (by omega)
  subst ha
  have hN : NearAt (2 * a) 0 b ∧ NearAt 0 (2 * a) c := by
    rcases hb with ⟨_, _, ⟨_, h1⟩, _, h2⟩ | ⟨h0, _⟩
    · exact ⟨h1, h2⟩
    · exact absurd ⟨n0, by omega⟩ (of_decide_eq_false h0)
  have sb := near_sgn hN.1
  have sc := near_sgn hN.2
  have hok : okM a b c = true := okM_mk ⟨n0, by omega, b0, by omega, c0, by omega⟩
  have o1 : okI (-(2 * b - 1)) (2 * a) 0 1 = true := okI_mk (by omega)
  have o2 : okI (-(2 * b + 1)) (2 * a) 0 1 = true := okI_mk (by omega)
  have o3 : okI (-(2 * c - 1)) 0 (2 * a) 1 = true := okI_mk (by omega)
  have o4 : okI (-(2 * c + 1)) 0 (2 * a) 1 = true := okI_mk (by omega)
  refine ⟨b, c, _, _, _, _, fun w => best_impl hb w, fun w => pure_impl_yes _ _ _ w o1, fun w => pure_impl_yes _ _ _ w o2, fun w => pure_impl_yes _ _ _ w o3, fun w => pure_impl_yes _ _ _ w o4, fun w hs => sign_impl P _ _ _ _ w hs, fun w hs => sign_impl P _ _ _ _ w hs, fun w hs => sign_impl P _ _ _ _ w hs, fun w hs => sign_impl P _ _ _ _ w hs, fun h12 w => ststep_impl (.inl ⟨hok, h12, rfl, rfl⟩) w, fun w => by rw [← hok]; exact mapOk_impl a b c w, ?_, ?_, ?_, ?_, b0, b1, c0, c1⟩
  · rw [cmp8_sgn o1]; exact sb.1
  · rw [cmp8_sgn o2]; exact sb.2
  · rw [cmp8_sgn o3]; exact sc.1
  · rw [cmp8_sgn o4]; exact sc.2
set_option maxRecDepth 100000 in
set_option maxHeartbeats 8000000 in
theorem walk_FnBestMaps (P : Addr) (a0 : Option Addr) (len0 cap0 : Nat) (z0 : List Int) (w : World) (hs : SenAt P w) (hr : IsRow .u8 w a0 len0 cap0 z0) :
    Calls Tryd.prog 3 #[.slice a0 len0 cap0] w fun e w' => e = .returned (.bool true) ∧ Below w.heap.size w w' := by
  have hlen := (row_len hr).2
  have HS := Lib.hid hs
  clear hs
  by_cases hbig : 1048576 < len0
  · have t0 : decide (1048576 < (len0 : Int)) = true := by simp; omega
    go_enter Tryd.func3, Tryd.ntmps3
    go_wp2_with fail
    refine (bigA_any _ _ _ _ hlen).mono ?_
    rintro e w' ⟨rfl, rfl⟩
    go_wp2_with fail
    go_ret
    exact ⟨rfl, Below.refl _ _⟩
  · have t0 : decide (1048576 < (len0 : Int)) = false := by simp; omega
    have AT0 := Lib.hid (at_any hr (by omega) 0 (by omega))
    clear hr
    go_enter Tryd.func3, Tryd.ntmps3
    go_wp2_with fail
    refine (bigA_any _ _ _ _ hlen).mono ?_
    rintro e w' ⟨rfl, rfl⟩
    rw [t0]
    go_wp2_with fail
    refine AT0.out.mono ?_
    rintro e w0 ⟨u, hu, rfl, rfl⟩
    obtain ⟨r, hr1, hr2⟩ : ∃ r : Nat, (u : Int) % 40 = (r : Int) ∧ r < 40 := ⟨u % 40, by omega, by omega⟩
    have hm : (u : Int).tmod 40 = (r : Int) := by rw [Int.tmod_eq_emod_of_nonneg (by omega)]; exact hr1
    obtain ⟨n, hn⟩ : ∃ n : Int, n = 1 + (r : Int) := ⟨_, rfl⟩
    have hn2 : 1 + (r : Int) = n := hn.symm
    have wa : IntKind.i64.wrap (1 + (r : Int)) = n := by rw [IntWalk.i64_in _ (by omega)]; exact hn.symm
    have n0 : 1 ≤ n := by omega
    have n1 : n ≤ 40 := by omega
    obtain ⟨b, c, z1, z2, z3, z4, say⟩ := bestSay_ex P n0 n1
    have K := Lib.hid say
    have b0 := say.b0
    have b1 := say.b1
    have c0 := say.c0
    have c1 := say.c1
    have BB := Lib.hid (Below.refl w.heap.size w)
    clear say hr1 hr2 hu hn hlen hbig t0 AT0
    go_wp2_with fail
    clear hm wa hn2
    refine (K.out.map _).mono ?_
    rintro e w2 ⟨rfl, hb⟩
    have Q2 : Hid (∀ X : World, X = w2.alloc (.cells #[.int .i64 n, .int .i64 b, .int .i64 c] 26) → Below w.heap.size w X ∧ Tri w2.heap.size n b c X) := Lib.hid (by
      rintro X rfl
      exact ⟨below_grow (BB.out.trans hb) _, tri_alloc⟩)
    clear hb BB
    go_upto_region 5 with fail
    obtain ⟨W2, hW⟩ : ∃ X, X = w2.alloc (.cells #[.int .i64 n, .int .i64 b, .int .i64 c] 26) := ⟨_, rfl⟩
    have Q := Lib.hid (Q2.out W2 hW)
    rw [← hW]
    clear hW Q2
    generalize w2.heap.size = m at Q ⊢
    have B2 := Lib.hid Q.out.1
    have T2 := Lib.hid Q.out.2
    clear Q
    obtain ⟨c9, d0, d1, d2⟩ := T2.out
    go_wp2_with fail
    refine (K.out.p1 _).mono ?_
    rintro e w3 ⟨rfl, hb⟩
    clear c9 d0 d1 d2
    have Q2 : Hid (∀ X : World, X = w3.alloc (.cells #[.int .i64 (-(2 * b - 1)), .int .i64 (2 * n), .int .i64 0, .int .i64 1] 29) → Below w.heap.size w X ∧ Tri m n b c X ∧ Four w3.heap.size (-(2 * b - 1)) (2 * n) 0 1 X) := Lib.hid (by
      rintro X rfl
      exact ⟨below_grow (B2.out.trans (hb.mono B2.out.size)) _, tri_al (tri_keep hb T2.out), four_alloc⟩)
    clear hb B2 T2
    go_upto_region 6 with fail
    obtain ⟨W3, hW⟩ : ∃ X, X = w3.alloc (.cells #[.int .i64 (-(2 * b - 1)), .int .i64 (2 * n), .int .i64 0, .int .i64 1] 29) := ⟨_, rfl⟩
    have Q := Lib.hid (Q2.out W3 hW)
    rw [← hW]
    clear hW Q2
    generalize w3.heap.size = f1 at Q ⊢
    have B3 := Lib.hid Q.out.1
    have T3 := Lib.hid Q.out.2.1
    have F1 := Lib.hid Q.out.2.2
    clear Q
    obtain ⟨c9, d0, d1, d2⟩ := T3.out
    go_wp2_with fail
    refine (K.out.p2 _).mono ?_
    rintro e w4 ⟨rfl, hb⟩
    clear c9 d0 d1 d2
    have Q2 : Hid (∀ X : World, X = w4.alloc (.cells #[.int .i64 (-(2 * b + 1)), .int .i64 (2 * n), .int .i64 0, .int .i64 1] 29) → Below w.heap.size w X ∧ Tri m n b c X ∧ Four f1 (-(2 * b - 1)) (2 * n) 0 1 X ∧ Four w4.heap.size (-(2 * b + 1)) (2 * n) 0 1 X) := Lib.hid (by
      rintro X rfl
      exact ⟨below_grow (B3.out.trans (hb.mono B3.out.size)) _, tri_al (tri_keep hb T3.out), four_al4 (four_keep hb F1.out), four_alloc⟩)
    clear hb B3 T3 F1
    go_upto_region 7 with fail
    obtain ⟨W4, hW⟩ : ∃ X, X = w4.alloc (.cells #[.int .i64 (-(2 * b + 1)), .int .i64 (2 * n), .int .i64 0, .int .i64 1] 29) := ⟨_, rfl⟩
    have Q := Lib.hid (Q2.out W4 hW)
    rw [← hW]
    clear hW Q2
    generalize w4.heap.size = f2 at Q ⊢
    have B4 := Lib.hid Q.out.1
    have T4 := Lib.hid Q.out.2.1
    have F1 := Lib.hid Q.out.2.2.1
    have F2 := Lib.hid Q.out.2.2.2
    clear Q
    obtain ⟨c9, d0, d1, d2⟩ := T4.out
    go_wp2_with fail
    refine (K.out.p3 _).mono ?_
    rintro e w5 ⟨rfl, hb⟩
    clear c9 d0 d1 d2
    have Q2 : Hid (∀ X : World, X = w5.alloc (.cells #[.int .i64 (-(2 * c - 1)), .int .i64 0, .int .i64 (2 * n), .int .i64 1] 29) → Below w.heap.size w X ∧ Tri m n b c X ∧ Four f1 (-(2 * b - 1)) (2 * n) 0 1 X ∧ Four f2 (-(2 * b + 1)) (2 * n) 0 1 X ∧ Four w5.heap.size (-(2 * c - 1)) 0 (2 * n) 1 X) := Lib.hid (by
      rintro X rfl
      exact ⟨below_grow (B4.out.trans (hb.mono B4.out.size)) _, tri_al (tri_keep hb T4.out), four_al4 (four_keep hb F1.out), four_al4 (four_keep hb F2.out), four_alloc⟩)
    clear hb B4 T4 F1 F2
    go_upto_region 8 with fail
    obtain ⟨W5, hW⟩ : ∃ X, X = w5.alloc (.cells #[.int .i64 (-(2 * c - 1)), .int .i64 0, .int .i64 (2 * n), .int .i64 1] 29) := ⟨_, rfl⟩
    have Q := Lib.hid (Q2.out W5 hW)
    rw [← hW]
    clear hW Q2
    generalize w5.heap.size = f3 at Q ⊢
    have B5 := Lib.hid Q.out.1
    have T5 := Lib.hid Q.out.2.1
    have F1 := Lib.hid Q.out.2.2.1
    have F2 := Lib.hid Q.out.2.2.2.1
    have F3 := Lib.hid Q.out.2.2.2.2
    clear Q
    obtain ⟨c9, d0, d1, d2⟩ := T5.out
    go_wp2_with fail
    refine (K.out.p4 _).mono ?_
    rintro e w6 ⟨rfl, hb⟩
    clear c9 d0 d1 d2
    have Q2 : Hid (∀ X : World, X = w6.alloc (.cells #[.int .i64 (-(2 * c + 1)), .int .i64 0, .int .i64 (2 * n), .int .i64 1] 29) → Below w.heap.size w X ∧ Tri m n b c X ∧ Four f1 (-(2 * b - 1)) (2 * n) 0 1 X ∧ Four f2 (-(2 * b + 1)) (2 * n) 0 1 X ∧ Four f3 (-(2 * c - 1)) 0 (2 * n) 1 X ∧ Four w6.heap.size (-(2 * c + 1)) 0 (2 * n) 1 X) := Lib.hid (by
      rintro X rfl
      exact ⟨below_grow (B5.out.trans (hb.mono B5.out.size)) _, tri_al (tri_keep hb T5.out), four_al4 (four_keep hb F1.out), four_al4 (four_keep hb F2.out), four_al4 (four_keep hb F3.out), four_alloc⟩)
    clear hb B5 T5 F1 F2 F3
    go_upto_region 9 with fail
    obtain ⟨W6, hW⟩ : ∃ X, X = w6.alloc (.cells #[.int .i64 (-(2 * c + 1)), .int .i64 0, .int .i64 (2 * n), .int .i64 1] 29) := ⟨_, rfl⟩
    have Q := Lib.hid (Q2.out W6 hW)
    rw [← hW]
    clear hW Q2
    generalize w6.heap.size = f4 at Q ⊢
    have B6 := Lib.hid Q.out.1
    have T6 := Lib.hid Q.out.2.1
    have F1 := Lib.hid Q.out.2.2.1
    have F2 := Lib.hid Q.out.2.2.2.1
    have F3 := Lib.hid Q.out.2.2.2.2.1
    have F4 := Lib.hid Q.out.2.2.2.2.2
    clear Q
    have k1 := K.out.k1
    have k2 := K.out.k2
    have k3 := K.out.k3
    have k4 := K.out.k4
    obtain ⟨c9, d0, d1, d2⟩ := T6.out
    obtain ⟨x9, x0, x1, x2, x3⟩ := F1.out
    go_wp2_with fail
    refine (K.out.s1 _ (senAt_below HS.out B6.out)).mono ?_
    rintro e w7 ⟨rfl, hb⟩
    clear c9 d0 d1 d2
    clear x9 x0 x1 x2 x3 F1
    have T7 := Lib.hid (tri_keep hb T6.out)
    have B7 := Lib.hid (B6.out.trans (hb.mono B6.out.size))
    have G2 := Lib.hid (four_keep hb F2.out)
    clear F2
    have F2 := G2
    clear G2
    have G3 := Lib.hid (four_keep hb F3.out)
    clear F3
    have F3 := G3
    clear G3
    have G4 := Lib.hid (four_keep hb F4.out)
    clear F4
    have F4 := G4
    clear G4
    clear hb B6 T6
    obtain ⟨x9, x0, x1, x2, x3⟩ := F2.out
    go_wp2_with fail
    refine (K.out.s2 _ (senAt_below HS.out B7.out)).mono ?_
    rintro e w8 ⟨rfl, hb⟩
    clear x9 x0 x1 x2 x3 F2
    have T8 := Lib.hid (tri_keep hb T7.out)
    have B8 := Lib.hid (B7.out.trans (hb.mono B7.out.size))
    have G3 := Lib.hid (four_keep hb F3.out)
    clear F3
    have F3 := G3
    clear G3
    have G4 := Lib.hid (four_keep hb F4.out)
    clear F4
    have F4 := G4
    clear G4
    clear hb B7 T7
    obtain ⟨x9, x0, x1, x2, x3⟩ := F3.out
    go_wp2_with fail
    refine (K.out.s3 _ (senAt_below HS.out B8.out)).mono ?_
    rintro e w9 ⟨rfl, hb⟩
    clear x9 x0 x1 x2 x3 F3
    have T9 := Lib.hid (tri_keep hb T8.out)
    have B9 := Lib.hid (B8.out.trans (hb.mono B8.out.size))
    have G4 := Lib.hid (four_keep hb F4.out)
    clear F4
    have F4 := G4
    clear G4
    clear hb B8 T8
    obtain ⟨x9, x0, x1, x2, x3⟩ := F4.out
    go_wp2_with fail
    refine (K.out.s4 _ (senAt_below HS.out B9.out)).mono ?_
    rintro e w10 ⟨rfl, hb⟩
    clear x9 x0 x1 x2 x3 F4
    have T10 := Lib.hid (tri_keep hb T9.out)
    have B10 := Lib.hid (B9.out.trans (hb.mono B9.out.size))
    clear hb B9 T9
    by_cases h12 : 12 < n
    · obtain ⟨c9, d0, d1, d2⟩ := T10.out
      go_wp2_with fail
      refine (K.out.ok _).mono ?_
      rintro e w12 ⟨rfl, hb⟩
      have C := Lib.hid (B10.out.trans (hb.mono B10.out.size))
      clear hb
      go_wp2_with fail
      go_ret
      exact ⟨rfl, C.out⟩
    · have ST := Lib.hid (K.out.step (by omega))
      obtain ⟨c9, d0, d1, d2⟩ := T10.out
      go_wp2_with fail
      refine (ST.out _).mono ?_
      rintro e w12 ⟨rfl, hb⟩
      clear c9 d0 d1 d2
      have T11 := Lib.hid (tri_keep hb T10.out)
      have B11 := Lib.hid (B10.out.trans (hb.mono B10.out.size))
      clear hb B10 T10
      obtain ⟨c9, d0, d1, d2⟩ := T11.out
      go_wp2_with fail
      refine (K.out.ok _).mono ?_
      rintro e w13 ⟨rfl, hb⟩
      have C := Lib.hid (B11.out.trans (hb.mono B11.out.size))
      clear hb
      go_wp2_with fail
      go_ret
      exact ⟨rfl, C.out⟩
end Go.Proofs.YthbjndaemmaoaaaDoor
