/- Contracts of impl's compared and impl.CompareIntervals, impl.SignOf: what they answer where the listed error variable holds its pointer. -/
import Derived.Test.YtjnhfgacgobfcaaDoorSignImpl
import Derived.Test.YtjnhfgacgobfcaaDoorErrIs
import Derived.Test.YtjnhfgacgobfcaaDoorOrdMath
import Derived.Test.YtjnhfgacgobfcaaDoorFourMath
namespace Go.Proofs.YtjnhfgacgobfcaaDoor
open Go.RowKit Go.Joins
set_option linter.unusedVariables false
/-- The error variable holds the pointer A. -/
def SenAt (A : Addr) (w : World) : Prop := w.cell? ⟨0, 0, none⟩ = some (.iface 78 (.pointer (some A)))
theorem senAt_below {A : Addr} {W w : World} (h : SenAt A W) (hb : Below W.heap.size W w) : SenAt A w := by
  have hlt : 0 < W.heap.size := World.block_lt_of_cell? _ _ h
  exact (hb.cell hlt).trans h
/-- What is compared, as an integer. -/
def cmpI (a b c d e f g h : Int) : Int := sgnP (a * h - e * d) (b * h - f * d) (c * h - g * d)
def CmpPost (A : Addr) (a b c d e f g h : Int) (w : World) (en : Ending) (w' : World) : Prop :=
  (if okI a b c d = true ∧ okI e f g h = true then en = .returned (.tuple #[.int .i64 (cmpI a b c d e f g h), .nilIface]) else en = .returned (.tuple #[.int .i64 0, .iface 78 (.pointer (some A))])) ∧ Below w.heap.size w w'
theorem cmpPost_yes {A : Addr} {a b c d e f g h : Int} {w w' : World} (hx : okI a b c d = true) (hy : okI e f g h = true) {n : Int} (hn : n = cmpI a b c d e f g h) (hb : Below w.heap.size w w') : CmpPost A a b c d e f g h w (.returned (.tuple #[.int .i64 n, .nilIface])) w' := by
  subst hn
  exact ⟨by rw [if_pos ⟨hx, hy⟩], hb⟩
theorem cmpPost_no {A : Addr} {a b c d e f g h : Int} {w w' : World} (hx : ¬ (okI a b c d = true ∧ okI e f g h = true)) (hb : Below w.heap.size w w') : CmpPost A a b c d e f g h w (.returned (.tuple #[.int .i64 0, .iface 78 (.pointer (some A))])) w' := ⟨by rw [if_neg hx], hb⟩
/-- Two boxed intervals. -/
theorem boxes2 (w : World) (a b c d e f g h : Int) (T U : TypeId) : ∃ W, W = (w.alloc (.cells #[.int .i64 a, .int .i64 b, .int .i64 c, .int .i64 d] T)).alloc (.cells #[.int .i64 e, .int .i64 f, .int .i64 g, .int .i64 h] U) ∧ Four w.heap.size a b c d W ∧ Four (w.heap.size + 1) e f g h W ∧ Below w.heap.size w W := by
  refine ⟨_, rfl, four_alF four_alloc, ?_, below_alloc2 w _ _⟩
  have e : w.heap.size + 1 = (w.alloc (.cells #[.int .i64 a, .int .i64 b, .int .i64 c, .int .i64 d] T)).heap.size := by simp
  rw [e]
  exact four_alloc
theorem dif_bd {p q : Int} (hp : -4800 ≤ p ∧ p ≤ 4800) (hq : -4800 ≤ q ∧ q ≤ 4800) : -10000 ≤ p - q ∧ p - q ≤ 10000 := by omega
set_option maxRecDepth 100000 in
set_option maxHeartbeats 2000000 in
theorem compared_any (A : Addr) (a b c d e f g h : Int) (w : World) (hs : SenAt A w) :
    Calls Tryd.prog 22 #[ivV a b c d, ivV e f g h] w (CmpPost A a b c d e f g h w) := by
  by_cases hx : okI a b c d = true
  · by_cases hy : okI e f g h = true
    · obtain ⟨k1, k2, k3, k4, k5, k6, k7, k8⟩ := okI_bd hx
      obtain ⟨l1, l2, l3, l4, l5, l6, l7, l8⟩ := okI_bd hy
      obtain ⟨t0, ht0⟩ : ∃ t, a * h = t := ⟨_, rfl⟩
      obtain ⟨t1, ht1⟩ : ∃ t, b * h = t := ⟨_, rfl⟩
      obtain ⟨t2, ht2⟩ : ∃ t, c * h = t := ⟨_, rfl⟩
      obtain ⟨u0, hu0⟩ : ∃ t, e * d = t := ⟨_, rfl⟩
      obtain ⟨u1, hu1⟩ : ∃ t, f * d = t := ⟨_, rfl⟩
      obtain ⟨u2, hu2⟩ : ∃ t, g * d = t := ⟨_, rfl⟩
      obtain ⟨t01, t02⟩ := mul_bd a h 400 12 t0 ht0 (by omega) (by omega) (by omega) (by omega) (by omega) (by omega)
      obtain ⟨t11, t12⟩ := mul_bd b h 400 12 t1 ht1 (by omega) (by omega) (by omega) (by omega) (by omega) (by omega)
      obtain ⟨t21, t22⟩ := mul_bd c h 400 12 t2 ht2 (by omega) (by omega) (by omega) (by omega) (by omega) (by omega)
      obtain ⟨u01, u02⟩ := mul_bd e d 400 12 u0 hu0 (by omega) (by omega) (by omega) (by omega) (by omega) (by omega)
      obtain ⟨u11, u12⟩ := mul_bd f d 400 12 u1 hu1 (by omega) (by omega) (by omega) (by omega) (by omega) (by omega)
      obtain ⟨u21, u22⟩ := mul_bd g d 400 12 u2 hu2 (by omega) (by omega) (by omega) (by omega) (by omega) (by omega)
      have Y := Lib.hid (show sgnP (t0 - u0) (t1 - u1) (t2 - u2) = cmpI a b c d e f g h from by unfold cmpI; rw [ht0, ht1, ht2, hu0, hu1, hu2])
      have HX := Lib.hid hx
      have HY := Lib.hid hy
      have HM := Lib.hid (And.intro ht0 (And.intro ht1 (And.intro ht2 (And.intro hu0 (And.intro hu1 hu2)))))
      clear hx hy ht0 ht1 ht2 hu0 hu1 hu2 hs
      go_enter Tryd.func22, Tryd.ntmps22
      go_wp2_with fail
      obtain ⟨W0, hW, E0, E1, EB⟩ := boxes2 w a b c d e f g h 25 25
      rw [← hW]
      have F0 := Lib.hid E0
      have F1 := Lib.hid E1
      have FB := Lib.hid EB
      clear hW E0 E1 EB
      refine (intervalOk_any _ _ _ _ _).mono ?_
      rintro e1 w1 ⟨rfl, hb⟩
      rw [HX.out]
      have G0 := Lib.hid (four_keep hb F0.out)
      have G1 := Lib.hid (four_keep hb F1.out)
      have GB := Lib.hid (FB.out.trans (hb.mono FB.out.size))
      clear hb F0 F1 FB
      obtain ⟨x0, x1, x2, x3, y0, y1, y2, y3⟩ := eightF G0.out G1.out
      go_wp2_with fail
      clear x0 x1 x2 x3 y0 y1 y2 y3
      refine (intervalOk_any _ _ _ _ _).mono ?_
      rintro e2 w2 ⟨rfl, hb⟩
      rw [HY.out]
      have K0 := Lib.hid (four_keep hb G0.out)
      have K1 := Lib.hid (four_keep hb G1.out)
      have KB := Lib.hid (GB.out.trans (hb.mono GB.out.size))
      clear hb G0 G1 GB
      obtain ⟨x0, x1, x2, x3, y0, y1, y2, y3⟩ := eightF K0.out K1.out
      obtain ⟨ht0, ht1, ht2, hu0, hu1, hu2⟩ := HM.out
      go_wp2_with fail
      clear x0 x1 x2 x3 y0 y1 y2 y3 ht0 ht1 ht2 hu0 hu1 hu2
      refine (signPowers_any _ _ _ _ (by omega) (by omega) (by omega) (by omega) (by omega) (by omega)).mono ?_
      rintro e3 w3 ⟨rfl, hb⟩
      have RB := Lib.hid (KB.out.trans (hb.mono KB.out.size))
      clear hb K0 K1 KB
      go_wp2_with fail
      go_ret2
      exact cmpPost_yes HX.out HY.out Y.out RB.out
    · have HX := Lib.hid hx
      have HY := Lib.hid (Bool.eq_false_iff.2 hy)
      have HS := Lib.hid hs
      have N := Lib.hid (show ¬ (okI a b c d = true ∧ okI e f g h = true) from fun h => hy h.2)
      clear hx hy hs
      go_enter Tryd.func22, Tryd.ntmps22
      go_wp2_with fail
      obtain ⟨W0, hW, E0, E1, EB⟩ := boxes2 w a b c d e f g h 25 25
      rw [← hW]
      have F0 := Lib.hid E0
      have F1 := Lib.hid E1
      have FB := Lib.hid EB
      clear hW E0 E1 EB
      refine (intervalOk_any _ _ _ _ _).mono ?_
      rintro e1 w1 ⟨rfl, hb⟩
      rw [HX.out]
      have G0 := Lib.hid (four_keep hb F0.out)
      have G1 := Lib.hid (four_keep hb F1.out)
      have GB := Lib.hid (FB.out.trans (hb.mono FB.out.size))
      clear hb F0 F1 FB
      obtain ⟨x0, x1, x2, x3, y0, y1, y2, y3⟩ := eightF G0.out G1.out
      go_wp2_with fail
      clear x0 x1 x2 x3 y0 y1 y2 y3
      refine (intervalOk_any _ _ _ _ _).mono ?_
      rintro e2 w2 ⟨rfl, hb⟩
      rw [HY.out]
      have kb := Lib.hid (GB.out.trans (hb.mono GB.out.size))
      have sE := senAt_below HS.out kb.out
      unfold SenAt at sE
      clear hb G0 G1 GB
      go_wp2_with fail
      go_region
      go_wp2_with fail
      go_ret2
      exact cmpPost_no N.out (kb.out.drew)
  · have HX := Lib.hid (Bool.eq_false_iff.2 hx)
    have HS := Lib.hid hs
    have N := Lib.hid (show ¬ (okI a b c d = true ∧ okI e f g h = true) from fun h => hx h.1)
    clear hx hs
    go_enter Tryd.func22, Tryd.ntmps22
    go_wp2_with fail
    refine (intervalOk_any _ _ _ _ _).mono ?_
    rintro e1 w1 ⟨rfl, hb⟩
    rw [HX.out]
    have kb := Lib.hid ((below_alloc2 w _ _).trans (hb.mono (by simp; omega)))
    have sE := senAt_below HS.out kb.out
    unfold SenAt at sE
    clear hb
    go_wp2_with fail
    go_region
    go_wp2_with fail
    go_ret2
    exact cmpPost_no N.out (kb.out.drew)
end Go.Proofs.YtjnhfgacgobfcaaDoor
