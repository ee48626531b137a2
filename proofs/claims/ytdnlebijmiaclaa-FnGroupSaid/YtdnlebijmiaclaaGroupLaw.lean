/- The walk of laws.FnGroup. -/
import Derived.Test.YtdnlebijmiaclaaDrawTone
import Derived.Test.YtdnlebijmiaclaaTonesMath
import Derived.Test.YtdnlebijmiaclaaToneWalks
import Derived.Test.YtdnlebijmiaclaaBigWalk
import Derived.Deep.DeepCutAuto
namespace Go.Proofs.Ytdnlebijmiaclaa
open Go.RowKit Go.Joins
set_option linter.unusedVariables false
/-- What SimplestOf, IntervalOk, TimesInterval and AddIntervals answer in the law's last part. -/
theorem group_facts (A : Iv) (h : TI A.two A.three A.five A.root) : ∃ N S : Iv,
    (∀ w, Calls Try.prog 21 #[ivV A.two A.three A.five A.root, .int .i64 (-1)] w fun e w' => e = .returned (.tuple #[ivV N.two N.three N.five N.root, .bool true]) ∧ Below w.heap.size w w') ∧
    (∀ w, Calls Try.prog 20 #[ivV A.two A.three A.five A.root, ivV N.two N.three N.five N.root] w fun e w' => e = .returned (.tuple #[ivV 0 0 0 1, .bool true]) ∧ Below w.heap.size w w') ∧
    (∀ w, Calls Try.prog 22 #[ivV A.two A.three A.five A.root] w fun e w' => e = .returned (ivV S.two S.three S.five S.root) ∧ Below w.heap.size w w') ∧
    (∀ w, Calls Try.prog 22 #[ivV S.two S.three S.five S.root] w fun e w' => e = .returned (ivV S.two S.three S.five S.root) ∧ Below w.heap.size w w') ∧
    (∀ w, Calls Try.prog 24 #[ivV S.two S.three S.five S.root] w fun e w' => e = .returned (.bool true) ∧ Below w.heap.size w w') := by
  obtain ⟨h1, h2, h3, h4, h5, h6, h7, h8⟩ := h
  have okA : okI A.two A.three A.five A.root = true := okI_mk (by omega)
  have okM : okV ⟨A.two * -1, A.three * -1, A.five * -1, A.root⟩ = true := show okI (A.two * -1) (A.three * -1) (A.five * -1) A.root = true from okI_mk (by omega)
  have okN := simV_ok okM
  have okS : okV (simV A) = true := simV_ok okA
  have e1 := inv_sum (x := A) h1
  refine ⟨simV ⟨A.two * -1, A.three * -1, A.five * -1, A.root⟩, simV A, fun w => ?_, fun w => ?_, fun w => ?_, fun w => ?_, fun w => ?_⟩
  · exact times_of _ _ _ _ (-1) _ _ _ _ okA (by omega) (by omega) ⟨rfl, rfl, rfl, rfl⟩ okN w
  · have := add_total A (simV ⟨A.two * -1, A.three * -1, A.five * -1, A.root⟩) w
    rw [show addV A (simV ⟨A.two * -1, A.three * -1, A.five * -1, A.root⟩) = (⟨0, 0, 0, 1⟩, true) from by
      unfold addV
      rw [e1, if_pos ⟨okA, okN, by decide⟩]] at this
    exact this
  · exact simplest_impl_yes _ _ _ _ _ w rfl okA
  · have := simplest_impl_yes _ _ _ _ _ w rfl okS
    have e2 : simV (simV A) = simV A := simV_twice h1
    have f1 := congrArg Iv.two e2
    have f2 := congrArg Iv.three e2
    have f3 := congrArg Iv.five e2
    have f4 := congrArg Iv.root e2
    refine this.mono fun e w' ⟨he, hb⟩ => ⟨he.trans ?_, hb⟩
    show Ending.returned (ivV (simV (simV A)).two (simV (simV A)).three (simV (simV A)).five (simV (simV A)).root) = _
    rw [f1, f2, f3, f4]
  · have := intervalOk_any (simV A).two (simV A).three (simV A).five (simV A).root w
    rw [show okI (simV A).two (simV A).three (simV A).five (simV A).root = true from okS] at this
    exact this
set_option maxRecDepth 100000 in
set_option maxHeartbeats 8000000 in
theorem walk_FnGroup (a0 : Option Addr) (len0 cap0 : Nat) (z0 : List Int) (w : World) (hr : IsRow .u8 w a0 len0 cap0 z0) :
    Calls Try.prog 3 #[.slice a0 len0 cap0] w fun e w' => e = .returned (.bool true) ∧ Below w.heap.size w w' := by
  have hlen := (row_len hr).2
  by_cases hbig : 1048576 < len0
  · have t0 : decide (1048576 < (len0 : Int)) = true := by simp; omega
    go_enter Try.func3, Try.ntmps3
    go_wp2_with fail
    refine (bigW_any _ _ _ _ hlen).mono ?_
    rintro e w' ⟨rfl, rfl⟩
    go_wp2_with fail
    go_ret
    exact ⟨rfl, Below.refl _ _⟩
  · have t0 : decide (1048576 < (len0 : Int)) = false := by simp; omega
    have HR := Lib.hid hr
    clear hr
    go_enter Try.func3, Try.ntmps3
    go_wp2_with fail
    refine (bigW_any _ _ _ _ hlen).mono ?_
    rintro e w' ⟨rfl, rfl⟩
    go_wp2_with fail
    refine (drawTones_any HR.out).mono ?_
    rintro e w1 ⟨a, b, c, d, a', b', c', d', a'', b'', c'', d'', hT, _, _, rfl, hb1⟩
    obtain ⟨A, rfl, rfl, rfl, rfl⟩ : ∃ A : Iv, a = A.two ∧ b = A.three ∧ c = A.five ∧ d = A.root := ⟨⟨a, b, c, d⟩, rfl, rfl, rfl, rfl⟩
    obtain ⟨B, rfl, rfl, rfl, rfl⟩ : ∃ A : Iv, a' = A.two ∧ b' = A.three ∧ c' = A.five ∧ d' = A.root := ⟨⟨a', b', c', d'⟩, rfl, rfl, rfl, rfl⟩
    obtain ⟨C, rfl, rfl, rfl, rfl⟩ : ∃ A : Iv, a'' = A.two ∧ b'' = A.three ∧ c'' = A.five ∧ d'' = A.root := ⟨⟨a'', b'', c'', d''⟩, rfl, rfl, rfl, rfl⟩
    obtain ⟨N, S, hh⟩ := group_facts A hT
    have HH := Lib.hid hh
    have hfin : Hid (Below w.heap.size w (((w1.alloc (.cells #[.int .i64 A.two, .int .i64 A.three, .int .i64 A.five, .int .i64 A.root] 25)).alloc (.cells #[.int .i64 B.two, .int .i64 B.three, .int .i64 B.five, .int .i64 B.root] 25)).alloc (.cells #[.int .i64 C.two, .int .i64 C.three, .int .i64 C.five, .int .i64 C.root] 25))) := Lib.hid (hb1.trans ((below_alloc3 w1 _ _ _).mono hb1.size))
    have FA : Hid (Four w1.heap.size A.two A.three A.five A.root (((w1.alloc (.cells #[.int .i64 A.two, .int .i64 A.three, .int .i64 A.five, .int .i64 A.root] 25)).alloc (.cells #[.int .i64 B.two, .int .i64 B.three, .int .i64 B.five, .int .i64 B.root] 25)).alloc (.cells #[.int .i64 C.two, .int .i64 C.three, .int .i64 C.five, .int .i64 C.root] 25))) := Lib.hid (four_alF (four_alF four_alloc))
    have FB : Hid (Four (w1.heap.size + 1) B.two B.three B.five B.root (((w1.alloc (.cells #[.int .i64 A.two, .int .i64 A.three, .int .i64 A.five, .int .i64 A.root] 25)).alloc (.cells #[.int .i64 B.two, .int .i64 B.three, .int .i64 B.five, .int .i64 B.root] 25)).alloc (.cells #[.int .i64 C.two, .int .i64 C.three, .int .i64 C.five, .int .i64 C.root] 25))) := Lib.hid (by have h := four_alF (o := (.cells #[.int .i64 C.two, .int .i64 C.three, .int .i64 C.five, .int .i64 C.root] 25)) (four_alloc (w := w1.alloc (.cells #[.int .i64 A.two, .int .i64 A.three, .int .i64 A.five, .int .i64 A.root] 25)) (p := B.two) (q := B.three) (r := B.five) (s := B.root) (t := 25)); simpa using h)
    have FC : Hid (Four (w1.heap.size + 2) C.two C.three C.five C.root (((w1.alloc (.cells #[.int .i64 A.two, .int .i64 A.three, .int .i64 A.five, .int .i64 A.root] 25)).alloc (.cells #[.int .i64 B.two, .int .i64 B.three, .int .i64 B.five, .int .i64 B.root] 25)).alloc (.cells #[.int .i64 C.two, .int .i64 C.three, .int .i64 C.five, .int .i64 C.root] 25))) := Lib.hid (by have h := (four_alloc (w := (w1.alloc (.cells #[.int .i64 A.two, .int .i64 A.three, .int .i64 A.five, .int .i64 A.root] 25)).alloc (.cells #[.int .i64 B.two, .int .i64 B.three, .int .i64 B.five, .int .i64 B.root] 25)) (p := C.two) (q := C.three) (r := C.five) (s := C.root) (t := 25)); simpa using h)
    obtain ⟨x, y1, hx⟩ : ∃ rr yy, addV A B = (rr, yy) := ⟨_, _, rfl⟩
    obtain ⟨u, y3, hu⟩ : ∃ rr yy, addV B C = (rr, yy) := ⟨_, _, rfl⟩
    obtain ⟨v, y4, hv⟩ : ∃ rr yy, addV x C = (rr, yy) := ⟨_, _, rfl⟩
    obtain ⟨z, y5, hz⟩ : ∃ rr yy, addV A u = (rr, yy) := ⟨_, _, rfl⟩
    have K1 : Hid (∀ w, _) := Lib.hid (add_total A B)
    have K2 : Hid (∀ w, _) := Lib.hid (add_total B A)
    have K3 : Hid (∀ w, _) := Lib.hid (add_total B C)
    have K4 : Hid (∀ w, _) := Lib.hid (add_total x C)
    have K5 : Hid (∀ w, _) := Lib.hid (add_total A u)
    rw [addV_comm B A] at K2
    rw [hx] at K1 K2
    rw [hu] at K3
    rw [hv] at K4
    rw [hz] at K5
    have KE : Hid (y1 = true → y3 = true → y4 = true → y5 = true → v = z) := Lib.hid (by rintro rfl rfl rfl rfl; exact addV_assoc hx hu hv hz)
    clear hh hT hb1 hbig hlen hx hu hv hz
    go_wp2_with fail
    obtain ⟨wa, hwa⟩ : ∃ y, y = (((w1.alloc (.cells #[.int .i64 A.two, .int .i64 A.three, .int .i64 A.five, .int .i64 A.root] 25)).alloc (.cells #[.int .i64 B.two, .int .i64 B.three, .int .i64 B.five, .int .i64 B.root] 25)).alloc (.cells #[.int .i64 C.two, .int .i64 C.three, .int .i64 C.five, .int .i64 C.root] 25)) := ⟨_, rfl⟩
    rw [← hwa] at hfin FA FB FC ⊢
    clear hwa
    generalize w1.heap.size + 1 + 1 = mC at FC ⊢
    generalize w1.heap.size + 1 = mB at FB ⊢
    generalize w1.heap.size = mA at FA ⊢
    have BB := hfin
    clear hfin
    refine (K1.out _).mono ?_
    rintro e w2 ⟨rfl, hb⟩
    have gA := four_keep hb FA.out
    have gB := four_keep hb FB.out
    have gC := four_keep hb FC.out
    have bb := BB.out.trans (hb.mono BB.out.size)
    clear hb BB FA FB FC
    have FA := Lib.hid gA
    have FB := Lib.hid gB
    have FC := Lib.hid gC
    obtain ⟨A9, A0, A1, A2, A3⟩ := gA
    obtain ⟨B9, B0, B1, B2, B3⟩ := gB
    clear gC
    have BB := Lib.hid bb
    clear bb
    go_wp2_with fail
    refine (K2.out _).mono ?_
    rintro e w3 ⟨rfl, hb⟩
    have gA := four_keep hb (four_alF FA.out)
    have gB := four_keep hb (four_alF FB.out)
    have gC := four_keep hb (four_alF FC.out)
    have gx : Four w2.heap.size x.two x.three x.five x.root w3 := four_keep hb four_alloc
    have bb := BB.out.trans (((below_alloc1 w2 _).trans (hb.mono (by simp))).mono BB.out.size)
    clear hb BB FA FB FC A9 A0 A1 A2 A3 B9 B0 B1 B2 B3
    generalize w2.heap.size = mx at gx ⊢
    have FA := Lib.hid gA
    have FB := Lib.hid gB
    have FC := Lib.hid gC
    have Fx := Lib.hid gx
    obtain ⟨B9, B0, B1, B2, B3⟩ := gB
    obtain ⟨C9, C0, C1, C2, C3⟩ := gC
    obtain ⟨x9, x0, x1, x2, x3⟩ := gx
    clear gA
    have BB := Lib.hid bb
    clear bb
    have ty : (y1 != y1) = false := by cases y1 <;> rfl
    go_wp2_with fail
    refine (K3.out _).mono ?_
    rintro e w4 ⟨rfl, hb⟩
    have gA := four_keep hb (four_alF FA.out)
    have gB := four_keep hb (four_alF FB.out)
    have gC := four_keep hb (four_alF FC.out)
    have gx := four_keep hb (four_alF Fx.out)
    have gY : Four w3.heap.size x.two x.three x.five x.root w4 := four_keep hb four_alloc
    have bb := BB.out.trans (((below_alloc1 w3 _).trans (hb.mono (by simp))).mono BB.out.size)
    clear hb BB FA FB FC Fx B9 B0 B1 B2 B3 C9 C0 C1 C2 C3 x9 x0 x1 x2 x3
    generalize w3.heap.size = mY at gY ⊢
    have FA := Lib.hid gA
    have FB := Lib.hid gB
    have FC := Lib.hid gC
    have Fx := Lib.hid gx
    obtain ⟨C9, C0, C1, C2, C3⟩ := gC
    obtain ⟨x9, x0, x1, x2, x3⟩ := gx
    clear gA gB gY
    have BB := Lib.hid bb
    clear bb
    go_wp2_with fail
    refine (K4.out _).mono ?_
    rintro e w5 ⟨rfl, hb⟩
    have gA := four_keep hb (four_alF FA.out)
    have gB := four_keep hb (four_alF FB.out)
    have gC := four_keep hb (four_alF FC.out)
    have gx := four_keep hb (four_alF Fx.out)
    have gu : Four w4.heap.size u.two u.three u.five u.root w5 := four_keep hb four_alloc
    have bb := BB.out.trans (((below_alloc1 w4 _).trans (hb.mono (by simp))).mono BB.out.size)
    clear hb BB FA FB FC Fx C9 C0 C1 C2 C3 x9 x0 x1 x2 x3
    generalize w4.heap.size = mu at gu ⊢
    have FA := Lib.hid gA
    have FC := Lib.hid gC
    have Fx := Lib.hid gx
    have Fu := Lib.hid gu
    obtain ⟨A9, A0, A1, A2, A3⟩ := gA
    obtain ⟨u9, u0, u1, u2, u3⟩ := gu
    clear gB gC gx
    have BB := Lib.hid bb
    clear bb
    go_wp2_with fail
    refine (K5.out _).mono ?_
    rintro e w6 ⟨rfl, hb⟩
    have gA := four_keep hb (four_alF FA.out)
    have gC := four_keep hb (four_alF FC.out)
    have gx := four_keep hb (four_alF Fx.out)
    have gu := four_keep hb (four_alF Fu.out)
    have gv : Four w5.heap.size v.two v.three v.five v.root w6 := four_keep hb four_alloc
    have bb := BB.out.trans (((below_alloc1 w5 _).trans (hb.mono (by simp))).mono BB.out.size)
    clear hb BB FA FC Fx Fu A9 A0 A1 A2 A3 u9 u0 u1 u2 u3
    generalize w5.heap.size = mv at gv ⊢
    have FA := Lib.hid gA
    have Fv := Lib.hid gv
    clear gA gC gx gu gv
    have BB := Lib.hid bb
    clear bb
    clear K1 K2 K3 K4 K5 ty
    go_upto_region 11 with fail
    obtain ⟨mz, hmz⟩ : ∃ n, n = w6.heap.size := ⟨_, rfl⟩
    obtain ⟨W, hW⟩ : ∃ y, y = w6.alloc (.cells #[.int .i64 z.two, .int .i64 z.three, .int .i64 z.five, .int .i64 z.root] 25) := ⟨_, rfl⟩
    have gA : Four mA A.two A.three A.five A.root W := by rw [hW]; exact four_alF FA.out
    have gv : Four mv v.two v.three v.five v.root W := by rw [hW]; exact four_alF Fv.out
    have gz : Four mz z.two z.three z.five z.root W := by rw [hW, hmz]; exact four_alloc
    have bb : Below w.heap.size w W := by rw [hW]; exact BB.out.trans ((below_alloc1 w6 _).mono BB.out.size)
    rw [← hmz, ← hW]
    clear hmz hW BB FA Fv
    have FA := Lib.hid gA
    have Fv := Lib.hid gv
    have Fz := Lib.hid gz
    have BB := Lib.hid bb
    clear gA gv gz bb
    go_cut [81] (fun s81 wx => s81 = .bool false ∧ wx = W)
    case first =>
      cases y1
      · go_wp2_with fail
        go_meet
        exact ⟨rfl, rfl⟩
      · cases y3
        · go_wp2_with fail
          go_meet
          exact ⟨rfl, rfl⟩
        · cases y4
          · go_wp2_with fail
            go_meet
            exact ⟨rfl, rfl⟩
          · cases y5
            · go_wp2_with fail
              go_meet
              exact ⟨rfl, rfl⟩
            · have e := KE.out rfl rfl rfl rfl
              clear KE
              subst e
              obtain ⟨v9, v0, v1, v2, v3⟩ := Fv.out
              obtain ⟨z9, z0, z1, z2, z3⟩ := Fz.out
              go_wp2_with fail
              go_meet
              exact ⟨rfl, rfl⟩
    case rest =>
      obtain ⟨rfl, rfl⟩ := hcut
      obtain ⟨A9, A0, A1, A2, A3⟩ := FA.out
      clear Fv Fz KE
      go_wp2_with fail
      refine (HH.out.1 _).mono ?_
      rintro e w7 ⟨rfl, hb⟩
      have gA := four_keep hb FA.out
      have bb := BB.out.trans (hb.mono BB.out.size)
      clear hb BB FA A9 A0 A1 A2 A3
      have FA := Lib.hid gA
      obtain ⟨A9, A0, A1, A2, A3⟩ := gA
      have BB := Lib.hid bb
      clear bb
      go_wp2_with fail
      refine (HH.out.2.1 _).mono ?_
      rintro e w8 ⟨rfl, hb⟩
      have gA := four_keep hb (four_alF FA.out)
      have gN : Four w7.heap.size N.two N.three N.five N.root w8 := four_keep hb four_alloc
      have bb := BB.out.trans (((below_alloc1 w7 _).trans (hb.mono (by simp))).mono BB.out.size)
      clear hb BB FA A9 A0 A1 A2 A3
      generalize w7.heap.size = mN at gN ⊢
      have FA := Lib.hid gA
      obtain ⟨A9, A0, A1, A2, A3⟩ := gA
      clear gN
      have BB := Lib.hid bb
      clear bb
      go_wp2_with fail
      refine (HH.out.2.2.1 _).mono ?_
      rintro e w9 ⟨rfl, hb⟩
      have gA := four_keep hb (four_alF FA.out)
      have gO : Four w8.heap.size 0 0 0 1 w9 := four_keep hb four_alloc
      have bb := BB.out.trans (((below_alloc1 w8 _).trans (hb.mono (by simp))).mono BB.out.size)
      clear hb BB FA A9 A0 A1 A2 A3
      generalize w8.heap.size = mO at gO ⊢
      have FO := Lib.hid gO
      clear gA gO
      have BB := Lib.hid bb
      clear bb
      go_upto_region 16 with fail
      obtain ⟨mS, hmz⟩ : ∃ n, n = w9.heap.size := ⟨_, rfl⟩
      obtain ⟨W2, hW⟩ : ∃ y, y = w9.alloc (.cells #[.int .i64 S.two, .int .i64 S.three, .int .i64 S.five, .int .i64 S.root] 25) := ⟨_, rfl⟩
      have gO : Four mO 0 0 0 1 W2 := by rw [hW]; exact four_alF FO.out
      have gS : Four mS S.two S.three S.five S.root W2 := by rw [hW, hmz]; exact four_alloc
      have bb : Below w.heap.size w W2 := by rw [hW]; exact BB.out.trans ((below_alloc1 w9 _).mono BB.out.size)
      rw [← hmz, ← hW]
      clear hmz hW BB FO
      have FO := Lib.hid gO
      have FQ := Lib.hid gS
      have BB := Lib.hid bb
      clear gO gS bb
      go_region_held3 (fun w' => w'.cell? ⟨mO, 0, none⟩ = some (.int .i64 0) ∧ w'.cell? ⟨mO, 1, none⟩ = some (.int .i64 0) ∧ w'.cell? ⟨mO, 2, none⟩ = some (.int .i64 0) ∧ w'.cell? ⟨mO, 3, none⟩ = some (.int .i64 1) ∧ w'.cell? ⟨mS, 0, none⟩ = some (.int .i64 S.two) ∧ w'.cell? ⟨mS, 1, none⟩ = some (.int .i64 S.three) ∧ w'.cell? ⟨mS, 2, none⟩ = some (.int .i64 S.five) ∧ w'.cell? ⟨mS, 3, none⟩ = some (.int .i64 S.root)) (with_reducible first | exact eightF (four_drewF FO.out) (four_drewF FQ.out) | exact eightF (four_keep (by assumption) FO.out) (four_keep (by assumption) FQ.out))
        (first
          | (go_at_call 23; refine (calls_fromF (W := W2) (by with_reducible first | assumption | exact (Below.refl _ _).drew) (pure_impl_yes 0 0 0 _ (by decide))).mono ?_; rintro e1 w1 ⟨rfl, hb⟩)
          | (go_at_call 22; refine (calls_fromF (W := W2) (by with_reducible first | assumption | exact (Below.refl _ _).drew) (HH.out.2.2.2.1 _)).mono ?_; rintro e1 w1 ⟨rfl, hb⟩)
          | (go_at_call 24; refine (calls_fromF (W := W2) (by with_reducible first | assumption | exact (Below.refl _ _).drew) (HH.out.2.2.2.2 _)).mono ?_; rintro e1 w1 ⟨rfl, hb⟩))
      all_goals
        go_wp2_with fail
        go_ret
        exact ⟨rfl, BB.out.trans (hb.mono BB.out.size)⟩
end Go.Proofs.Ytdnlebijmiaclaa
