/- The walk of laws.FnShared. Written by shared.py. -/
import Derived.Test.YtfhefakacjkmiaaDoorSharedSay
import Derived.Test.YtfhefakacjkmiaaDoorSShare
import Derived.Test.YtfhefakacjkmiaaDoorAtWalks
import Derived.Deep.DeepCutAuto
namespace Go.Proofs.YtfhefakacjkmiaaDoor
open Go.RowKit Go.Joins
set_option linter.unusedVariables false
theorem below_growS {w x : World} (h : Below w.heap.size w x) (o : Obj) : Below w.heap.size w (x.alloc o) := h.alloc h.size o
set_option maxRecDepth 100000 in
set_option maxHeartbeats 8000000 in
theorem walk_FnShared (P : Addr) (a0 : Option Addr) (len0 cap0 : Nat) (z0 : List Int) (w : World) (hs : SenAt P w) (hr : IsRow .u8 w a0 len0 cap0 z0) :
    Calls Tryd.prog 3 #[.slice a0 len0 cap0] w fun e w' => e = .returned (.bool true) ∧ Below w.heap.size w w' := by
  have hlen := (row_len hr).2
  have HS := Lib.hid hs
  clear hs
  by_cases hbig : 1048576 < len0
  · have t0 : decide (1048576 < (len0 : Int)) = true := by simp; omega
    go_enter Tryd.func3, Tryd.ntmps3
    go_wp2_with fail
    refine (bigA_any _ _ _ _ hlen).mono ?_
    rintro e w' ⟨rfl, rfl⟩
    go_wp2_with fail
    go_ret
    exact ⟨rfl, Below.refl _ _⟩
  · have t0 : decide (1048576 < (len0 : Int)) = false := by simp; omega
    have HR := Lib.hid hr
    have HLEN := Lib.hid hlen
    clear hr hbig hlen
    go_enter Tryd.func3, Tryd.ntmps3
    go_wp2_with fail
    refine (bigA_any _ _ _ _ HLEN.out).mono ?_
    rintro e w' ⟨rfl, rfl⟩
    rw [t0]
    go_wp2_with fail
    clear t0
    refine (drawMaps_any HR.out).mono ?_
    rintro e w1 ⟨p, q, r, p', q', r', hm, hn, rfl, hb⟩
    have HM := Lib.hid hm
    have HN := Lib.hid hn
    have B1 := Lib.hid hb
    clear hm hn hb HR HLEN
    go_upto_region 4 with fail
    have K1 : Hid (∀ X : World, X = (w1.alloc (.cells #[.int .i64 p, .int .i64 q, .int .i64 r] 25)).alloc (.cells #[.int .i64 p', .int .i64 q', .int .i64 r'] 25) → Below w.heap.size w X ∧ Tri w1.heap.size p q r X ∧ Tri (w1.heap.size + 1) p' q' r' X) := Lib.hid (by
      rintro X rfl
      refine ⟨B1.out.trans ((below_alloc2 w1 _ _).mono B1.out.size), tri_al tri_alloc, ?_⟩
      unfold Tri
      refine ⟨?_, ?_, ?_, ?_⟩ <;> simp [go_sem])
    obtain ⟨W1, hW⟩ : ∃ X, X = (w1.alloc (.cells #[.int .i64 p, .int .i64 q, .int .i64 r] 25)).alloc (.cells #[.int .i64 p', .int .i64 q', .int .i64 r'] 25) := ⟨_, rfl⟩
    obtain ⟨b1, tM, tN⟩ := K1.out W1 hW
    rw [← hW]
    clear hW K1 B1
    have B1 := Lib.hid b1
    have M1 := Lib.hid tM
    have N1 := Lib.hid tN
    clear b1 tM tN
    generalize w1.heap.size + 1 = mN at N1 ⊢
    generalize w1.heap.size = mM at M1 ⊢
    obtain ⟨T, H, F, R, o, hsh⟩ := shareAt_ex p q r p' q' r'
    have SP := Lib.hid (fun w => share_spec hsh w)
    cases o
    · have SH := Lib.hid (fun w hs => share_impl P hsh w hs)
      clear hsh
      obtain ⟨_, c0, c1, c2⟩ := M1.out
      obtain ⟨_, d0, d1, d2⟩ := N1.out
      go_wp2_with fail
      refine (SH.out _ (senAt_below HS.out B1.out)).mono ?_
      rintro e w2 ⟨rfl, hb⟩
      clear c0 c1 c2 d0 d1 d2
      have B2 := Lib.hid (B1.out.trans (hb.mono B1.out.size))
      have M2 := Lib.hid (tri_keep hb M1.out)
      have N2 := Lib.hid (tri_keep hb N1.out)
      clear hb B1 M1 N1
      have KK : Hid (∀ Y : World, Y = w2.alloc (.cells #[.int .i64 T, .int .i64 H, .int .i64 F, .int .i64 R] 29) → Below w.heap.size w Y ∧ Tri mM p q r Y ∧ Tri mN p' q' r' Y ∧ Four w2.heap.size T H F R Y) := Lib.hid (by
        rintro Y rfl
        exact ⟨below_growS B2.out _, tri_al M2.out, tri_al N2.out, four_alloc⟩)
      go_upto_region 6 with fail
      obtain ⟨W3, hW⟩ : ∃ Y, Y = w2.alloc (.cells #[.int .i64 T, .int .i64 H, .int .i64 F, .int .i64 R] 29) := ⟨_, rfl⟩
      have Q := Lib.hid (KK.out W3 hW)
      rw [← hW]
      clear hW KK B2 M2 N2
      generalize w2.heap.size = mX at Q ⊢
      have B3 := Lib.hid Q.out.1
      have M3 := Lib.hid Q.out.2.1
      have N3 := Lib.hid Q.out.2.2.1
      have X3 := Lib.hid Q.out.2.2.2
      clear Q
      obtain ⟨_, c0, c1, c2⟩ := M3.out
      obtain ⟨_, d0, d1, d2⟩ := N3.out
      go_wp2_with fail
      refine (SP.out _).mono ?_
      rintro e w4 ⟨rfl, hb⟩
      clear c0 c1 c2 d0 d1 d2
      have B4 := Lib.hid (B3.out.trans (hb.mono B3.out.size))
      have M4 := Lib.hid (tri_keep hb M3.out)
      have N4 := Lib.hid (tri_keep hb N3.out)
      have X4 := Lib.hid (four_keep hb X3.out)
      clear hb B3 M3 N3 X3
      go_wp2_with fail
      go_ret
      exact ⟨rfl, below_growS B4.out _⟩
    · obtain ⟨rfl, P1, Q1, U1, T2, H2, F2, s, y, say⟩ := shdSay_ex P HM.out HN.out hsh
      have K := Lib.hid say
      have SH := Lib.hid (fun w hs => share_impl P hsh w hs)
      have s0 := say.s0
      clear hsh say
      obtain ⟨_, c0, c1, c2⟩ := M1.out
      obtain ⟨_, d0, d1, d2⟩ := N1.out
      go_wp2_with fail
      refine (SH.out _ (senAt_below HS.out B1.out)).mono ?_
      rintro e w2 ⟨rfl, hb⟩
      clear c0 c1 c2 d0 d1 d2
      have B2 := Lib.hid (B1.out.trans (hb.mono B1.out.size))
      have M2 := Lib.hid (tri_keep hb M1.out)
      have N2 := Lib.hid (tri_keep hb N1.out)
      clear hb B1 M1 N1
      have KK : Hid (∀ Y : World, Y = w2.alloc (.cells #[.int .i64 T, .int .i64 H, .int .i64 F, .int .i64 1] 29) → Below w.heap.size w Y ∧ Tri mM p q r Y ∧ Tri mN p' q' r' Y ∧ Four w2.heap.size T H F 1 Y) := Lib.hid (by
        rintro Y rfl
        exact ⟨below_growS B2.out _, tri_al M2.out, tri_al N2.out, four_alloc⟩)
      go_upto_region 8 with fail
      obtain ⟨W3, hW⟩ : ∃ Y, Y = w2.alloc (.cells #[.int .i64 T, .int .i64 H, .int .i64 F, .int .i64 1] 29) := ⟨_, rfl⟩
      have Q := Lib.hid (KK.out W3 hW)
      rw [← hW]
      clear hW KK B2 M2 N2
      generalize w2.heap.size = mX at Q ⊢
      have B3 := Lib.hid Q.out.1
      have M3 := Lib.hid Q.out.2.1
      have N3 := Lib.hid Q.out.2.2.1
      have X3 := Lib.hid Q.out.2.2.2
      clear Q
      obtain ⟨_, c0, c1, c2⟩ := M3.out
      obtain ⟨_, d0, d1, d2⟩ := N3.out
      go_wp2_with fail
      refine (K.out.add _).mono ?_
      rintro e w4 ⟨rfl, hb⟩
      clear c0 c1 c2 d0 d1 d2
      have B4 := Lib.hid (B3.out.trans (hb.mono B3.out.size))
      have M4 := Lib.hid (tri_keep hb M3.out)
      have N4 := Lib.hid (tri_keep hb N3.out)
      have X4 := Lib.hid (four_keep hb X3.out)
      clear hb B3 M3 N3 X3
      have KK : Hid (∀ Y : World, Y = w4.alloc (.cells #[.int .i64 P1, .int .i64 Q1, .int .i64 U1] 25) → Below w.heap.size w Y ∧ Tri mM p q r Y ∧ Tri mN p' q' r' Y ∧ Four mX T H F 1 Y ∧ Tri w4.heap.size P1 Q1 U1 Y) := Lib.hid (by
        rintro Y rfl
        exact ⟨below_growS B4.out _, tri_al M4.out, tri_al N4.out, four_alF X4.out, tri_alloc⟩)
      go_upto_region 9 with fail
      obtain ⟨W5, hW⟩ : ∃ Y, Y = w4.alloc (.cells #[.int .i64 P1, .int .i64 Q1, .int .i64 U1] 25) := ⟨_, rfl⟩
      have Q := Lib.hid (KK.out W5 hW)
      rw [← hW]
      clear hW KK B4 M4 N4 X4
      generalize w4.heap.size = mP at Q ⊢
      have B5 := Lib.hid Q.out.1
      have M5 := Lib.hid Q.out.2.1
      have N5 := Lib.hid Q.out.2.2.1
      have X5 := Lib.hid Q.out.2.2.2.1
      have P5 := Lib.hid Q.out.2.2.2.2
      clear Q
      obtain ⟨_, e0, e1, e2, e3⟩ := X5.out
      go_wp2_with fail
      refine (K.out.tim _).mono ?_
      rintro e w6 ⟨rfl, hb⟩
      clear e0 e1 e2 e3
      have B6 := Lib.hid (B5.out.trans (hb.mono B5.out.size))
      have M6 := Lib.hid (tri_keep hb M5.out)
      have N6 := Lib.hid (tri_keep hb N5.out)
      have X6 := Lib.hid (four_keep hb X5.out)
      have P6 := Lib.hid (tri_keep hb P5.out)
      clear hb B5 M5 N5 X5 P5
      have KK : Hid (∀ Y : World, Y = w6.alloc (.cells #[.int .i64 T2, .int .i64 H2, .int .i64 F2, .int .i64 1] 29) → Below w.heap.size w Y ∧ Tri mM p q r Y ∧ Tri mN p' q' r' Y ∧ Four mX T H F 1 Y ∧ Tri mP P1 Q1 U1 Y ∧ Four w6.heap.size T2 H2 F2 1 Y) := Lib.hid (by
        rintro Y rfl
        exact ⟨below_growS B6.out _, tri_al M6.out, tri_al N6.out, four_alF X6.out, tri_al P6.out, four_alloc⟩)
      go_upto_region 10 with fail
      obtain ⟨W7, hW⟩ : ∃ Y, Y = w6.alloc (.cells #[.int .i64 T2, .int .i64 H2, .int .i64 F2, .int .i64 1] 29) := ⟨_, rfl⟩
      have Q := Lib.hid (KK.out W7 hW)
      rw [← hW]
      clear hW KK B6 M6 N6 X6 P6
      generalize w6.heap.size = mT at Q ⊢
      have B7 := Lib.hid Q.out.1
      have M7 := Lib.hid Q.out.2.1
      have N7 := Lib.hid Q.out.2.2.1
      have X7 := Lib.hid Q.out.2.2.2.1
      have P7 := Lib.hid Q.out.2.2.2.2.1
      have T7 := Lib.hid Q.out.2.2.2.2.2
      clear Q
      obtain ⟨_, c0, c1, c2⟩ := M7.out
      obtain ⟨_, e0, e1, e2, e3⟩ := X7.out
      go_wp2_with fail
      refine (K.out.h1 _).mono ?_
      rintro e w8 ⟨rfl, hb⟩
      clear c0 c1 c2 e0 e1 e2 e3
      have B8 := Lib.hid (B7.out.trans (hb.mono B7.out.size))
      have M8 := Lib.hid (tri_keep hb M7.out)
      have N8 := Lib.hid (tri_keep hb N7.out)
      have X8 := Lib.hid (four_keep hb X7.out)
      have P8 := Lib.hid (tri_keep hb P7.out)
      have T8 := Lib.hid (four_keep hb T7.out)
      clear hb B7 M7 N7 X7 P7 T7
      obtain ⟨_, d0, d1, d2⟩ := N8.out
      obtain ⟨_, e0, e1, e2, e3⟩ := X8.out
      go_wp2_with fail
      refine (K.out.h2 _).mono ?_
      rintro e w9 ⟨rfl, hb⟩
      clear d0 d1 d2 e0 e1 e2 e3
      have B9 := Lib.hid (B8.out.trans (hb.mono B8.out.size))
      have M9 := Lib.hid (tri_keep hb M8.out)
      have N9 := Lib.hid (tri_keep hb N8.out)
      have X9 := Lib.hid (four_keep hb X8.out)
      have P9 := Lib.hid (tri_keep hb P8.out)
      have T9 := Lib.hid (four_keep hb T8.out)
      clear hb B8 M8 N8 X8 P8 T8
      cases y
      · obtain ⟨_, e0, e1, e2, e3⟩ := X9.out
        go_wp2_with fail
        refine (K.out.sg _ (senAt_below HS.out B9.out)).mono ?_
        rintro e w10 ⟨rfl, hb⟩
        clear e0 e1 e2 e3
        have B10 := Lib.hid (B9.out.trans (hb.mono B9.out.size))
        have M10 := Lib.hid (tri_keep hb M9.out)
        have N10 := Lib.hid (tri_keep hb N9.out)
        have X10 := Lib.hid (four_keep hb X9.out)
        have P10 := Lib.hid (tri_keep hb P9.out)
        have T10 := Lib.hid (four_keep hb T9.out)
        clear hb B9 M9 N9 X9 P9 T9
        obtain ⟨_, c0, c1, c2⟩ := M10.out
        obtain ⟨_, g0, g1, g2, g3⟩ := T10.out
        go_wp2_with fail
        refine (K.out.h4 _).mono ?_
        rintro e w11 ⟨rfl, hb⟩
        clear c0 c1 c2 g0 g1 g2 g3
        have B11 := Lib.hid (B10.out.trans (hb.mono B10.out.size))
        have M11 := Lib.hid (tri_keep hb M10.out)
        have N11 := Lib.hid (tri_keep hb N10.out)
        have X11 := Lib.hid (four_keep hb X10.out)
        have P11 := Lib.hid (tri_keep hb P10.out)
        have T11 := Lib.hid (four_keep hb T10.out)
        clear hb B10 M10 N10 X10 P10 T10
        go_wp2_with fail
        go_ret
        exact ⟨rfl, B11.out⟩
      · obtain ⟨_, f0, f1, f2⟩ := P9.out
        obtain ⟨_, e0, e1, e2, e3⟩ := X9.out
        go_wp2_with fail
        refine (K.out.h3 rfl _).mono ?_
        rintro e w10 ⟨rfl, hb⟩
        clear f0 f1 f2 e0 e1 e2 e3
        have B10 := Lib.hid (B9.out.trans (hb.mono B9.out.size))
        have M10 := Lib.hid (tri_keep hb M9.out)
        have N10 := Lib.hid (tri_keep hb N9.out)
        have X10 := Lib.hid (four_keep hb X9.out)
        have P10 := Lib.hid (tri_keep hb P9.out)
        have T10 := Lib.hid (four_keep hb T9.out)
        clear hb B9 M9 N9 X9 P9 T9
        obtain ⟨_, e0, e1, e2, e3⟩ := X10.out
        go_wp2_with fail
        refine (K.out.sg _ (senAt_below HS.out B10.out)).mono ?_
        rintro e w11 ⟨rfl, hb⟩
        clear e0 e1 e2 e3
        have B11 := Lib.hid (B10.out.trans (hb.mono B10.out.size))
        have M11 := Lib.hid (tri_keep hb M10.out)
        have N11 := Lib.hid (tri_keep hb N10.out)
        have X11 := Lib.hid (four_keep hb X10.out)
        have P11 := Lib.hid (tri_keep hb P10.out)
        have T11 := Lib.hid (four_keep hb T10.out)
        clear hb B10 M10 N10 X10 P10 T10
        obtain ⟨_, c0, c1, c2⟩ := M11.out
        obtain ⟨_, g0, g1, g2, g3⟩ := T11.out
        go_wp2_with fail
        refine (K.out.h4 _).mono ?_
        rintro e w12 ⟨rfl, hb⟩
        clear c0 c1 c2 g0 g1 g2 g3
        have B12 := Lib.hid (B11.out.trans (hb.mono B11.out.size))
        have M12 := Lib.hid (tri_keep hb M11.out)
        have N12 := Lib.hid (tri_keep hb N11.out)
        have X12 := Lib.hid (four_keep hb X11.out)
        have P12 := Lib.hid (tri_keep hb P11.out)
        have T12 := Lib.hid (four_keep hb T11.out)
        clear hb B11 M11 N11 X11 P11 T11
        go_wp2_with fail
        go_ret
        exact ⟨rfl, B12.out⟩
end Go.Proofs.YtfhefakacjkmiaaDoor
