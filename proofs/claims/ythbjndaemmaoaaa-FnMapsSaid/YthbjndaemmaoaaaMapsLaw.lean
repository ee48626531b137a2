/- The walk of laws.FnMaps. -/
import Derived.Test.YthbjndaemmaoaaaMapsSay
import Derived.Test.YthbjndaemmaoaaaBigWalk
import Derived.Test.YthbjndaemmaoaaaStepSzLaw
namespace Go.Proofs.Ythbjndaemmaoaaa
open Go.RowKit Go.Joins
set_option linter.unusedVariables false
/-- The blocks of the two maps and of the three intervals. -/
def LM (mM mN mA mB mS : Nat) (p q r p' q' r' t h f t' h' f' T H F : Int) (w : World) : Prop :=
  Tri mM p q r w ∧ Tri mN p' q' r' w ∧ Four mA t h f 1 w ∧ Four mB t' h' f' 1 w ∧ Four mS T H F 1 w
theorem lm_keep {mM mN mA mB mS : Nat} {p q r p' q' r' t h f t' h' f' T H F : Int} {W w : World} (hb : Below W.heap.size W w) (HL : LM mM mN mA mB mS p q r p' q' r' t h f t' h' f' T H F W) : LM mM mN mA mB mS p q r p' q' r' t h f t' h' f' T H F w :=
  ⟨tri_keep hb HL.1, tri_keep hb HL.2.1, four_keep hb HL.2.2.1, four_keep hb HL.2.2.2.1, four_keep hb HL.2.2.2.2⟩
theorem four_set3 {w : World} {m : Nat} {p q r s s' : Int} (h : Four m p q r s w) : Four m p q r s' (w.setCell ⟨m, 3, none⟩ (.int .i64 s')) := by
  obtain ⟨hm, z0, z1, z2, z3⟩ := h
  exact ⟨by simpa using hm, by simp [go_sem, z0], by simp [go_sem, z1], by simp [go_sem, z2], by simp [go_sem, z3]⟩
theorem four_oth {w : World} {n m j : Nat} {p q r s : Int} {v : Value} (hn : n ≠ m) (h : Four n p q r s w) : Four n p q r s (w.setCell ⟨m, j, none⟩ v) := by
  have e := Below.heap_setCell w ⟨m, j, none⟩ v n hn
  obtain ⟨hm, z0, z1, z2, z3⟩ := h
  exact ⟨by simpa using hm, (World.cell?_of_block (a := ⟨n, 0, none⟩) e).trans z0, (World.cell?_of_block (a := ⟨n, 1, none⟩) e).trans z1, (World.cell?_of_block (a := ⟨n, 2, none⟩) e).trans z2, (World.cell?_of_block (a := ⟨n, 3, none⟩) e).trans z3⟩
theorem tri_oth {w : World} {n m j : Nat} {p q r : Int} {v : Value} (hn : n ≠ m) (h : Tri n p q r w) : Tri n p q r (w.setCell ⟨m, j, none⟩ v) := by
  have e := Below.heap_setCell w ⟨m, j, none⟩ v n hn
  obtain ⟨hm, z0, z1, z2⟩ := h
  exact ⟨by simpa using hm, (World.cell?_of_block (a := ⟨n, 0, none⟩) e).trans z0, (World.cell?_of_block (a := ⟨n, 1, none⟩) e).trans z1, (World.cell?_of_block (a := ⟨n, 2, none⟩) e).trans z2⟩
set_option maxRecDepth 100000 in
set_option maxHeartbeats 8000000 in
theorem walk_FnMaps (a0 : Option Addr) (len0 cap0 : Nat) (z0 : List Int) (w : World) (hr : IsRow .u8 w a0 len0 cap0 z0) :
    Calls Try.prog 3 #[.slice a0 len0 cap0] w fun e w' => e = .returned (.bool true) ∧ Below w.heap.size w w' := by
  have hlen := (row_len hr).2
  by_cases hbig : 1048576 < len0
  · have t0 : decide (1048576 < (len0 : Int)) = true := by simp; omega
    go_enter Try.func3, Try.ntmps3
    go_wp2_with fail
    refine (bigW_any _ _ _ _ hlen).mono ?_
    rintro e w' ⟨rfl, rfl⟩
    go_wp2_with fail
    go_ret
    exact ⟨rfl, Below.refl _ _⟩
  · have t0 : decide (1048576 < (len0 : Int)) = false := by simp; omega
    have HR := Lib.hid hr
    have HLEN := Lib.hid hlen
    clear hr hbig hlen
    go_enter Try.func3, Try.ntmps3
    go_wp2_with fail
    refine (bigW_any _ _ _ _ HLEN.out).mono ?_
    rintro e w' ⟨rfl, rfl⟩
    go_wp2_with fail
    clear t0
    refine (drawMaps_any HR.out).mono ?_
    rintro e w1 ⟨p, q, r, p', q', r', hm, hn, rfl, hb⟩
    have HM := Lib.hid hm
    have HN := Lib.hid hn
    have B1 := Lib.hid hb
    clear hm hn hb
    go_upto_region 4 with fail
    have K1 : Hid (∀ X : World, X = (w1.alloc (.cells #[.int .i64 p, .int .i64 q, .int .i64 r] 25)).alloc (.cells #[.int .i64 p', .int .i64 q', .int .i64 r'] 25) → Below w.heap.size w X ∧ Tri w1.heap.size p q r X ∧ Tri (w1.heap.size + 1) p' q' r' X) := Lib.hid (by
      rintro X rfl
      refine ⟨B1.out.trans ((below_alloc2 w1 _ _).mono B1.out.size), tri_al tri_alloc, ?_⟩
      unfold Tri
      refine ⟨?_, ?_, ?_, ?_⟩ <;> simp [go_sem])
    obtain ⟨W1, hW⟩ : ∃ X, X = (w1.alloc (.cells #[.int .i64 p, .int .i64 q, .int .i64 r] 25)).alloc (.cells #[.int .i64 p', .int .i64 q', .int .i64 r'] 25) := ⟨_, rfl⟩
    obtain ⟨b1, tM, tN⟩ := K1.out W1 hW
    rw [← hW]
    clear hW K1 B1
    have B1 := Lib.hid b1
    have TM := Lib.hid tM
    have TN := Lib.hid tN
    clear b1 tM tN
    generalize w1.heap.size + 1 = mN at TN ⊢
    generalize w1.heap.size = mM at TM ⊢
    go_wp2_with fail
    refine (drawTones_any (HR.out.below B1.out)).mono ?_
    rintro e w2 ⟨t, h, f, d, t', h', f', d', t'', h'', f'', d'', hT, hT', _, rfl, hb⟩
    have TM2 := Lib.hid (tri_keep hb TM.out)
    have TN2 := Lib.hid (tri_keep hb TN.out)
    have B2 := Lib.hid (B1.out.trans (hb.mono B1.out.size))
    obtain ⟨T, H, F, x, y, u, v, s1, s2, s3, yy, y7, say⟩ := mapsSay_ex HM.out HN.out (pi_ti hT) (pi_ti hT')
    have SAY := Lib.hid say
    clear hb hT hT' TM TN B1 HM HN say HR
    go_upto_region 5 with fail
    have K2 : Hid (∀ X : World, X = ((w2.alloc (.cells #[.int .i64 t, .int .i64 h, .int .i64 f, .int .i64 d] 29)).alloc (.cells #[.int .i64 t', .int .i64 h', .int .i64 f', .int .i64 d'] 29)).alloc (.cells #[.int .i64 t'', .int .i64 h'', .int .i64 f'', .int .i64 d''] 29) → Below w.heap.size w X ∧ Tri mM p q r X ∧ Tri mN p' q' r' X ∧ Four w2.heap.size t h f d X ∧ Four (w2.heap.size + 1) t' h' f' d' X ∧ (∀ o, X.frozen? ⟨w2.heap.size, o, none⟩ = false) ∧ (∀ o, X.frozen? ⟨w2.heap.size + 1, o, none⟩ = false)) := Lib.hid (by
      rintro X rfl
      refine ⟨B2.out.trans ((below_alloc3 w2 _ _ _).mono B2.out.size), tri_al (tri_al (tri_al TM2.out)), tri_al (tri_al (tri_al TN2.out)), ?_, ?_, ?_, ?_⟩
      · unfold Four
        refine ⟨?_, ?_, ?_, ?_, ?_⟩ <;> simp [go_sem]
      · unfold Four
        refine ⟨?_, ?_, ?_, ?_, ?_⟩ <;> simp [go_sem]
      · intro o; simp [go_sem]
      · intro o; simp [go_sem])
    obtain ⟨W2, hW⟩ : ∃ X, X = ((w2.alloc (.cells #[.int .i64 t, .int .i64 h, .int .i64 f, .int .i64 d] 29)).alloc (.cells #[.int .i64 t', .int .i64 h', .int .i64 f', .int .i64 d'] 29)).alloc (.cells #[.int .i64 t'', .int .i64 h'', .int .i64 f'', .int .i64 d''] 29) := ⟨_, rfl⟩
    obtain ⟨b2, tM, tN, fA, fB, rA, rB⟩ := K2.out W2 hW
    have DI : Hid (mM ≠ w2.heap.size ∧ mN ≠ w2.heap.size ∧ mM ≠ w2.heap.size + 1 ∧ mN ≠ w2.heap.size + 1 ∧ w2.heap.size ≠ w2.heap.size + 1 ∧ w2.heap.size + 1 ≠ w2.heap.size ∧ w.heap.size ≤ w2.heap.size ∧ w.heap.size ≤ w2.heap.size + 1) := Lib.hid (by
      have h1 := TM2.out.1
      have h2 := TN2.out.1
      have h3 := B2.out.size
      refine ⟨?_, ?_, ?_, ?_, ?_, ?_, ?_, ?_⟩ <;> omega)
    rw [← hW]
    clear hW K2 B2 TM2 TN2
    have B2 := Lib.hid b2
    have TM := Lib.hid tM
    have TN := Lib.hid tN
    have FA := Lib.hid fA
    have FB := Lib.hid fB
    clear b2 tM tN
    generalize w2.heap.size + 1 = mB at FB fB rB DI ⊢
    generalize w2.heap.size = mA at FA fA rA DI ⊢
    obtain ⟨d1, d2, d3, d4, d5, d6, d7, d8⟩ := DI.out
    obtain ⟨x9, x0, x1, x2, x3⟩ := fA
    obtain ⟨y9, y0, y1, y2, y3⟩ := fB
    go_upto_region 7 with fail
    clear x9 x0 x1 x2 x3 y9 y0 y1 y2 y3 rA rB
    have K3 : Hid (∀ X : World, X = (W2.setCell ⟨mA, 3, none⟩ (.int .i64 1)).setCell ⟨mB, 3, none⟩ (.int .i64 1) → Below w.heap.size w X ∧ Tri mM p q r X ∧ Tri mN p' q' r' X ∧ Four mA t h f 1 X ∧ Four mB t' h' f' 1 X) := Lib.hid (by
      rintro X rfl
      exact ⟨(B2.out.setCell d7 _).setCell d8 _, tri_oth d3 (tri_oth d1 TM.out), tri_oth d4 (tri_oth d2 TN.out), four_oth d5 (four_set3 FA.out), four_set3 (four_oth d6 FB.out)⟩)
    obtain ⟨W3, hW⟩ : ∃ X, X = (W2.setCell ⟨mA, 3, none⟩ (.int .i64 1)).setCell ⟨mB, 3, none⟩ (.int .i64 1) := ⟨_, rfl⟩
    have K4 := Lib.hid (K3.out W3 hW)
    rw [← hW]
    clear hW K3 B2 TM TN FA FB DI d1 d2 d3 d4 d5 d6 d7 d8
    obtain ⟨_, _, _, ⟨a9, a1, a2, a3, a4⟩, ⟨b9, b1, b2, b3, b4⟩⟩ := K4.out
    go_wp2_with fail
    refine (SAY.out.add _).mono ?_
    rintro e w3 ⟨rfl, hb⟩
    clear a9 a1 a2 a3 a4 b9 b1 b2 b3 b4
    have K5 : Hid (∀ X : World, X = w3.alloc (.cells #[.int .i64 T, .int .i64 H, .int .i64 F, .int .i64 1] 29) → Below w.heap.size w X ∧ LM mM mN mA mB w3.heap.size p q r p' q' r' t h f t' h' f' T H F X) := Lib.hid (by
      rintro X rfl
      obtain ⟨k1, k2, k3, k4, k5⟩ := K4.out
      exact ⟨below_grow (k1.trans (hb.mono k1.size)) _, tri_al (tri_keep hb k2), tri_al (tri_keep hb k3), four_al4 (four_keep hb k4), four_al4 (four_keep hb k5), four_alloc⟩)
    clear hb K4
    go_upto_region 8 with fail
    obtain ⟨W4, hW⟩ : ∃ X, X = w3.alloc (.cells #[.int .i64 T, .int .i64 H, .int .i64 F, .int .i64 1] 29) := ⟨_, rfl⟩
    have K6 := Lib.hid (K5.out W4 hW)
    rw [← hW]
    clear hW K5
    generalize w3.heap.size = mS at K6 ⊢
    have B4 := Lib.hid K6.out.1
    have L4 := Lib.hid K6.out.2
    clear K6
    obtain ⟨⟨c9, c1, c2, c3⟩, _, ⟨e9, e1, e2, e3, e4⟩, _, _⟩ := L4.out
    go_wp2_with fail
    refine (SAY.out.two _).mono ?_
    rintro e w5 ⟨rfl, hb⟩
    clear c9 c1 c2 c3 e9 e1 e2 e3 e4
    have L5 := Lib.hid (lm_keep hb L4.out)
    have B5 := Lib.hid (B4.out.trans (hb.mono B4.out.size))
    clear hb L4 B4
    obtain ⟨⟨c9, c1, c2, c3⟩, _, _, ⟨f9, f1, f2, f3, f4⟩, _⟩ := L5.out
    go_wp2_with fail
    refine (SAY.out.three _).mono ?_
    rintro e w6 ⟨rfl, hb⟩
    clear c9 c1 c2 c3 f9 f1 f2 f3 f4
    have L6 := Lib.hid (lm_keep hb L5.out)
    have B6 := Lib.hid (B5.out.trans (hb.mono B5.out.size))
    clear hb L5 B5
    obtain ⟨⟨c9, c1, c2, c3⟩, _, _, _, ⟨g9, g1, g2, g3, g4⟩⟩ := L6.out
    go_wp2_with fail
    refine (SAY.out.four _).mono ?_
    rintro e w7 ⟨rfl, hb⟩
    clear c9 c1 c2 c3 g9 g1 g2 g3 g4
    have L7 := Lib.hid (lm_keep hb L6.out)
    have B7 := Lib.hid (B6.out.trans (hb.mono B6.out.size))
    clear hb L6 B6
    obtain ⟨⟨c9, c1, c2, c3⟩, ⟨d9, d1, d2, d3⟩, _, _, _⟩ := L7.out
    go_wp2_with fail
    refine (SAY.out.five _).mono ?_
    rintro e w8 ⟨rfl, hb⟩
    clear c9 c1 c2 c3 d9 d1 d2 d3
    have K8 : Hid (∀ X : World, X = w8.alloc (.cells #[.int .i64 s1, .int .i64 s2, .int .i64 s3] 25) → Below w.heap.size w X ∧ LM mM mN mA mB mS p q r p' q' r' t h f t' h' f' T H F X ∧ Tri w8.heap.size s1 s2 s3 X) := Lib.hid (by
      rintro X rfl
      exact ⟨below_grow (B7.out.trans (hb.mono B7.out.size)) _, lm_keep ((Below.refl _ _).alloc (Nat.le_refl _) _) (lm_keep hb L7.out), tri_alloc⟩)
    clear hb L7 B7
    go_upto_region 12 with fail
    obtain ⟨W8, hW⟩ : ∃ X, X = w8.alloc (.cells #[.int .i64 s1, .int .i64 s2, .int .i64 s3] 25) := ⟨_, rfl⟩
    have K9 := Lib.hid (K8.out W8 hW)
    rw [← hW]
    clear hW K8
    generalize w8.heap.size = mP at K9 ⊢
    have B8 := Lib.hid K9.out.1
    have L8 := Lib.hid K9.out.2.1
    have P8 := Lib.hid K9.out.2.2
    clear K9
    obtain ⟨_, ⟨d9, d1, d2, d3⟩, ⟨e9, e1, e2, e3, e4⟩, _, _⟩ := L8.out
    go_wp2_with fail
    refine (SAY.out.six _).mono ?_
    rintro e w9 ⟨rfl, hb⟩
    clear d9 d1 d2 d3 e9 e1 e2 e3 e4
    have L9 := Lib.hid (lm_keep hb L8.out)
    have P9 := Lib.hid (tri_keep hb P8.out)
    have B9 := Lib.hid (B8.out.trans (hb.mono B8.out.size))
    clear hb L8 P8 B8
    obtain ⟨_, _, ⟨e9, e1, e2, e3, e4⟩, _, _⟩ := L9.out
    obtain ⟨c9, c1, c2, c3⟩ := P9.out
    go_wp2_with fail
    refine (SAY.out.seven _).mono ?_
    rintro e w10 ⟨rfl, hb⟩
    clear e9 e1 e2 e3 e4 c9 c1 c2 c3
    have B10 := Lib.hid (B9.out.trans (hb.mono B9.out.size))
    clear hb L9 P9 B9
    have x0 := SAY.out.x0
    have x1 := SAY.out.x1
    have y0 := SAY.out.y0
    have y1 := SAY.out.y1
    have u0 := SAY.out.u0
    have u1 := SAY.out.u1
    cases yy
    · clear SAY
      go_wp2_with fail
      go_ret
      exact ⟨rfl, B10.out⟩
    · obtain ⟨h7, hv⟩ := SAY.out.sum rfl
      clear SAY
      subst h7
      subst hv
      go_wp2_with fail
      go_ret
      exact ⟨rfl, B10.out⟩
end Go.Proofs.Ythbjndaemmaoaaa
