/- Contracts of errors.Is where the target is a pointer to an errors.errorString: the same pointer, and no error. -/
import Derived.Test.YtohfepcdgbgojabDoorProg
import Derived.Test.YtohfepcdgbgojabDoorSignImpl
import Derived.Test.YtohfepcdgbgojabDoorTonesMath
import Derived.Test.YtohfepcdgbgojabDoorNumBase
import Derived.WalkKit
import Derived.LaidEql
import Derived.RowKitTokens
namespace Go.Proofs.YtohfepcdgbgojabDoor
open Go.RowKit Go.Extern.Stop Go.Stop Go.Extern Go.Extern.Rtype
set_option linter.unusedVariables false
/-- What the model's entry of (rtype).Comparable does. -/
noncomputable def cmpEntry : Array Value → Sem Value := Extern.ReflectliteType.method fun t => do noPackHeld "Comparable" t; pure (.bool (← typeInfo t).comparable)
theorem isTypeFacts : ∃ G : Nat, (∀ (v : Value) (w : World), (Extern.ReflectliteType.typeOf #[.iface 137 v]).run Tryd.prog w = .ok (.iface 110 (.agg #[.pointer (some ⟨G, 137, none⟩)])) w) ∧
    (∀ w : World, (cmpEntry #[.agg #[.pointer (some ⟨G, 137, none⟩)]]).run Tryd.prog w = .ok (.bool true) w) :=
  ⟨Tryd.prog.globals.size, fun v w => by kernel_rfl, fun w => by kernel_rfl⟩
theorem isMethodComparable (n : Nat) (v : Value) (w : World) : (Go.method (n + 1) 110 v "Comparable").run Tryd.prog w = .ok (122, v) w := by kernel_rfl
theorem isComp : (Tryd.prog.info? 137).map (·.comparable) = some true := by kernel_rfl
theorem isSize : (Tryd.prog.info? 160).map (·.size) = some 1 := by kernel_rfl
/-- errors.Is(x, x), x a pointer to an errors.errorString. -/
theorem is_same (a : Addr) (w : World) :
    Calls Tryd.prog 64 #[.iface 137 (.pointer (some a)), .iface 137 (.pointer (some a))] w fun e w' => e = .returned (.bool true) ∧ w' = w := by
  obtain ⟨i, hi, hcmp⟩ := Option.map_eq_some_iff.1 isComp
  obtain ⟨j, hj, hjs⟩ := Option.map_eq_some_iff.1 isSize
  obtain ⟨G, tT, cT⟩ := isTypeFacts
  have h8 := @run_callFunc_extern Tryd.prog 81 _ Extern.ReflectliteType.typeOf Tryd.func81 (by kernel_rfl) (by kernel_rfl) (by kernel_rfl) (by kernel_rfl)
  have h32 := @run_callFunc_extern Tryd.prog 122 _ cmpEntry Tryd.func122 (by kernel_rfl) (by kernel_rfl) (by kernel_rfl) (by kernel_rfl)
  have mR := isMethodComparable
  have heq := run_eql_iface_ptr_same (P := Tryd.prog) w a Tryd.underlying77 Tryd.underlying137 hi hcmp hj
  go_enter Tryd.func64, Tryd.ntmps64
  go_wp2
  refine wp_loop_rounds 1 ?_
  rw [rounds_succ]
  go_wp2
  go_ret
  exact ⟨rfl, rfl⟩
/-- errors.Is(nil, x). -/
theorem is_nil (b : Addr) (w : World) :
    Calls Tryd.prog 64 #[.nilIface, .iface 137 (.pointer (some b))] w fun e w' => e = .returned (.bool false) ∧ w' = w := by
  have hn := run_eql_iface_nil_left (P := Tryd.prog) w 137 (.pointer (some b)) Tryd.underlying77
  go_enter Tryd.func64, Tryd.ntmps64
  go_wp2
  go_ret
  exact ⟨rfl, rfl⟩
end Go.Proofs.YtohfepcdgbgojabDoor
/- Contracts of impl's compared and impl.CompareIntervals, impl.SignOf: what they answer where the listed error variable holds its pointer. -/
namespace Go.Proofs.YtohfepcdgbgojabDoor
open Go.RowKit Go.Joins
set_option linter.unusedVariables false
/-- The error variable holds the pointer A. -/
def SenAt (A : Addr) (w : World) : Prop := w.cell? ⟨0, 0, none⟩ = some (.iface 137 (.pointer (some A)))
theorem senAt_below {A : Addr} {W w : World} (h : SenAt A W) (hb : Below W.heap.size W w) : SenAt A w := by
  have hlt : 0 < W.heap.size := World.block_lt_of_cell? _ _ h
  exact (hb.cell hlt).trans h
/-- What is compared, as an integer. -/
def cmpI (a b c d e f g h : Int) : Int := sgnP (a * h - e * d) (b * h - f * d) (c * h - g * d)
def CmpPost (A : Addr) (a b c d e f g h : Int) (w : World) (en : Ending) (w' : World) : Prop :=
  (if okI a b c d = true ∧ okI e f g h = true then en = .returned (.tuple #[.int .i64 (cmpI a b c d e f g h), .nilIface]) else en = .returned (.tuple #[.int .i64 0, .iface 137 (.pointer (some A))])) ∧ Below w.heap.size w w'
theorem cmpPost_yes {A : Addr} {a b c d e f g h : Int} {w w' : World} (hx : okI a b c d = true) (hy : okI e f g h = true) {n : Int} (hn : n = cmpI a b c d e f g h) (hb : Below w.heap.size w w') : CmpPost A a b c d e f g h w (.returned (.tuple #[.int .i64 n, .nilIface])) w' := by
  subst hn
  exact ⟨by rw [if_pos ⟨hx, hy⟩], hb⟩
theorem cmpPost_no {A : Addr} {a b c d e f g h : Int} {w w' : World} (hx : ¬ (okI a b c d = true ∧ okI e f g h = true)) (hb : Below w.heap.size w w') : CmpPost A a b c d e f g h w (.returned (.tuple #[.int .i64 0, .iface 137 (.pointer (some A))])) w' := ⟨by rw [if_neg hx], hb⟩
/-- Two boxed intervals. -/
theorem boxes2 (w : World) (a b c d e f g h : Int) (T U : TypeId) : ∃ W, W = (w.alloc (.cells #[.int .i64 a, .int .i64 b, .int .i64 c, .int .i64 d] T)).alloc (.cells #[.int .i64 e, .int .i64 f, .int .i64 g, .int .i64 h] U) ∧ Four w.heap.size a b c d W ∧ Four (w.heap.size + 1) e f g h W ∧ Below w.heap.size w W := by
  refine ⟨_, rfl, four_alF four_alloc, ?_, below_alloc2 w _ _⟩
  have e : w.heap.size + 1 = (w.alloc (.cells #[.int .i64 a, .int .i64 b, .int .i64 c, .int .i64 d] T)).heap.size := by simp
  rw [e]
  exact four_alloc
theorem dif_bd {p q : Int} (hp : -4800 ≤ p ∧ p ≤ 4800) (hq : -4800 ≤ q ∧ q ≤ 4800) : -10000 ≤ p - q ∧ p - q ≤ 10000 := by omega
set_option maxRecDepth 100000 in
set_option maxHeartbeats 2000000 in
theorem compared_any (A : Addr) (a b c d e f g h : Int) (w : World) (hs : SenAt A w) :
    Calls Tryd.prog 63 #[ivV a b c d, ivV e f g h] w (CmpPost A a b c d e f g h w) := by
  by_cases hx : okI a b c d = true
  · by_cases hy : okI e f g h = true
    · obtain ⟨k1, k2, k3, k4, k5, k6, k7, k8⟩ := okI_bd hx
      obtain ⟨l1, l2, l3, l4, l5, l6, l7, l8⟩ := okI_bd hy
      obtain ⟨t0, ht0⟩ : ∃ t, a * h = t := ⟨_, rfl⟩
      obtain ⟨t1, ht1⟩ : ∃ t, b * h = t := ⟨_, rfl⟩
      obtain ⟨t2, ht2⟩ : ∃ t, c * h = t := ⟨_, rfl⟩
      obtain ⟨u0, hu0⟩ : ∃ t, e * d = t := ⟨_, rfl⟩
      obtain ⟨u1, hu1⟩ : ∃ t, f * d = t := ⟨_, rfl⟩
      obtain ⟨u2, hu2⟩ : ∃ t, g * d = t := ⟨_, rfl⟩
      obtain ⟨t01, t02⟩ := mul_bd a h 400 12 t0 ht0 (by omega) (by omega) (by omega) (by omega) (by omega) (by omega)
      obtain ⟨t11, t12⟩ := mul_bd b h 400 12 t1 ht1 (by omega) (by omega) (by omega) (by omega) (by omega) (by omega)
      obtain ⟨t21, t22⟩ := mul_bd c h 400 12 t2 ht2 (by omega) (by omega) (by omega) (by omega) (by omega) (by omega)
      obtain ⟨u01, u02⟩ := mul_bd e d 400 12 u0 hu0 (by omega) (by omega) (by omega) (by omega) (by omega) (by omega)
      obtain ⟨u11, u12⟩ := mul_bd f d 400 12 u1 hu1 (by omega) (by omega) (by omega) (by omega) (by omega) (by omega)
      obtain ⟨u21, u22⟩ := mul_bd g d 400 12 u2 hu2 (by omega) (by omega) (by omega) (by omega) (by omega) (by omega)
      have Y := Lib.hid (show sgnP (t0 - u0) (t1 - u1) (t2 - u2) = cmpI a b c d e f g h from by unfold cmpI; rw [ht0, ht1, ht2, hu0, hu1, hu2])
      have HX := Lib.hid hx
      have HY := Lib.hid hy
      have HM := Lib.hid (And.intro ht0 (And.intro ht1 (And.intro ht2 (And.intro hu0 (And.intro hu1 hu2)))))
      clear hx hy ht0 ht1 ht2 hu0 hu1 hu2 hs
      go_enter Tryd.func63, Tryd.ntmps63
      go_wp2_with fail
      obtain ⟨W0, hW, E0, E1, EB⟩ := boxes2 w a b c d e f g h 33 33
      rw [← hW]
      have F0 := Lib.hid E0
      have F1 := Lib.hid E1
      have FB := Lib.hid EB
      clear hW E0 E1 EB
      refine (intervalOk_any _ _ _ _ _).mono ?_
      rintro e1 w1 ⟨rfl, hb⟩
      rw [HX.out]
      have G0 := Lib.hid (four_keep hb F0.out)
      have G1 := Lib.hid (four_keep hb F1.out)
      have GB := Lib.hid (FB.out.trans (hb.mono FB.out.size))
      clear hb F0 F1 FB
      obtain ⟨x0, x1, x2, x3, y0, y1, y2, y3⟩ := eightF G0.out G1.out
      go_wp2_with fail
      clear x0 x1 x2 x3 y0 y1 y2 y3
      refine (intervalOk_any _ _ _ _ _).mono ?_
      rintro e2 w2 ⟨rfl, hb⟩
      rw [HY.out]
      have K0 := Lib.hid (four_keep hb G0.out)
      have K1 := Lib.hid (four_keep hb G1.out)
      have KB := Lib.hid (GB.out.trans (hb.mono GB.out.size))
      clear hb G0 G1 GB
      obtain ⟨x0, x1, x2, x3, y0, y1, y2, y3⟩ := eightF K0.out K1.out
      obtain ⟨ht0, ht1, ht2, hu0, hu1, hu2⟩ := HM.out
      go_wp2_with fail
      clear x0 x1 x2 x3 y0 y1 y2 y3 ht0 ht1 ht2 hu0 hu1 hu2
      refine (signPowers_any _ _ _ _ (by omega) (by omega) (by omega) (by omega) (by omega) (by omega)).mono ?_
      rintro e3 w3 ⟨rfl, hb⟩
      have RB := Lib.hid (KB.out.trans (hb.mono KB.out.size))
      clear hb K0 K1 KB
      go_wp2_with fail
      go_ret2
      exact cmpPost_yes HX.out HY.out Y.out RB.out
    · have HX := Lib.hid hx
      have HY := Lib.hid (Bool.eq_false_iff.2 hy)
      have HS := Lib.hid hs
      have N := Lib.hid (show ¬ (okI a b c d = true ∧ okI e f g h = true) from fun h => hy h.2)
      clear hx hy hs
      go_enter Tryd.func63, Tryd.ntmps63
      go_wp2_with fail
      obtain ⟨W0, hW, E0, E1, EB⟩ := boxes2 w a b c d e f g h 33 33
      rw [← hW]
      have F0 := Lib.hid E0
      have F1 := Lib.hid E1
      have FB := Lib.hid EB
      clear hW E0 E1 EB
      refine (intervalOk_any _ _ _ _ _).mono ?_
      rintro e1 w1 ⟨rfl, hb⟩
      rw [HX.out]
      have G0 := Lib.hid (four_keep hb F0.out)
      have G1 := Lib.hid (four_keep hb F1.out)
      have GB := Lib.hid (FB.out.trans (hb.mono FB.out.size))
      clear hb F0 F1 FB
      obtain ⟨x0, x1, x2, x3, y0, y1, y2, y3⟩ := eightF G0.out G1.out
      go_wp2_with fail
      clear x0 x1 x2 x3 y0 y1 y2 y3
      refine (intervalOk_any _ _ _ _ _).mono ?_
      rintro e2 w2 ⟨rfl, hb⟩
      rw [HY.out]
      have kb := Lib.hid (GB.out.trans (hb.mono GB.out.size))
      have sE := senAt_below HS.out kb.out
      unfold SenAt at sE
      clear hb G0 G1 GB
      go_wp2_with fail
      go_region
      go_wp2_with fail
      go_ret2
      exact cmpPost_no N.out (kb.out.drew)
  · have HX := Lib.hid (Bool.eq_false_iff.2 hx)
    have HS := Lib.hid hs
    have N := Lib.hid (show ¬ (okI a b c d = true ∧ okI e f g h = true) from fun h => hx h.1)
    clear hx hs
    go_enter Tryd.func63, Tryd.ntmps63
    go_wp2_with fail
    refine (intervalOk_any _ _ _ _ _).mono ?_
    rintro e1 w1 ⟨rfl, hb⟩
    rw [HX.out]
    have kb := Lib.hid ((below_alloc2 w _ _).trans (hb.mono (by simp; omega)))
    have sE := senAt_below HS.out kb.out
    unfold SenAt at sE
    clear hb
    go_wp2_with fail
    go_region
    go_wp2_with fail
    go_ret2
    exact cmpPost_no N.out (kb.out.drew)
end Go.Proofs.YtohfepcdgbgojabDoor
/- Contracts of impl.CompareIntervals and impl.SignOf. -/
namespace Go.Proofs.YtohfepcdgbgojabDoor
open Go.RowKit Go.Joins
set_option linter.unusedVariables false
/-- The comparison of two intervals given by their numbers. -/
def cmp8 (a b c d e f g h : Int) : Int := cmpV ⟨a, b, c, d⟩ ⟨e, f, g, h⟩
theorem cmp8_yes {a b c d e f g h : Int} (hx : okI a b c d = true ∧ okI e f g h = true) : cmp8 a b c d e f g h = cmpI a b c d e f g h := by
  show cmpV ⟨a, b, c, d⟩ ⟨e, f, g, h⟩ = _
  unfold cmpV
  rw [if_pos (show okV ⟨a, b, c, d⟩ = true ∧ okV ⟨e, f, g, h⟩ = true from hx)]
  rfl
theorem cmp8_no {a b c d e f g h : Int} (hx : ¬ (okI a b c d = true ∧ okI e f g h = true)) : cmp8 a b c d e f g h = 0 := by
  show cmpV ⟨a, b, c, d⟩ ⟨e, f, g, h⟩ = _
  unfold cmpV
  rw [if_neg (show ¬ (okV ⟨a, b, c, d⟩ = true ∧ okV ⟨e, f, g, h⟩ = true) from hx)]
theorem cmpPost_ok {A : Addr} {a b c d e f g h : Int} {w w' : World} {en : Ending} (hx : okI a b c d = true ∧ okI e f g h = true) (hp : CmpPost A a b c d e f g h w en w') : en = .returned (.tuple #[.int .i64 (cmp8 a b c d e f g h), .nilIface]) ∧ Below w.heap.size w w' := by
  have h1 := hp.1
  rw [if_pos hx] at h1
  rw [cmp8_yes hx]
  exact ⟨h1, hp.2⟩
theorem cmpPost_bad {A : Addr} {a b c d e f g h : Int} {w w' : World} {en : Ending} (hx : ¬ (okI a b c d = true ∧ okI e f g h = true)) (hp : CmpPost A a b c d e f g h w en w') : en = .returned (.tuple #[.int .i64 0, .iface 137 (.pointer (some A))]) ∧ Below w.heap.size w w' := by
  have h1 := hp.1
  rw [if_neg hx] at h1
  exact ⟨h1, hp.2⟩
set_option maxRecDepth 100000 in
set_option maxHeartbeats 2000000 in
theorem compare_impl (A : Addr) (a b c d e f g h : Int) (w : World) (hs : SenAt A w) :
    Calls Tryd.prog 38 #[ivV a b c d, ivV e f g h] w fun en w' => en = .returned (.int .i64 (cmp8 a b c d e f g h)) ∧ Below w.heap.size w w' := by
  have HS := Lib.hid hs
  clear hs
  by_cases hx : okI a b c d = true ∧ okI e f g h = true
  · have HX := Lib.hid hx
    clear hx
    go_enter Tryd.func38, Tryd.ntmps38
    go_wp2_with fail
    obtain ⟨W0, hW, _, _, EB⟩ := boxes2 w a b c d e f g h 33 33
    rw [← hW]
    have FB := Lib.hid EB
    clear hW EB
    refine (compared_any A _ _ _ _ _ _ _ _ _ (senAt_below HS.out FB.out)).mono ?_
    intro en w1 hp
    obtain ⟨rfl, hb⟩ := cmpPost_ok HX.out hp
    have KB := Lib.hid (FB.out.trans (hb.mono FB.out.size))
    have sE := senAt_below HS.out KB.out
    unfold SenAt at sE
    clear hp hb FB
    go_wp2_with fail
    refine (is_nil A _).mono ?_
    rintro en w2 ⟨rfl, rfl⟩
    go_wp2_with fail
    go_ret
    exact ⟨rfl, KB.out⟩
  · have HX := Lib.hid hx
    have Z := Lib.hid (cmp8_no hx)
    clear hx
    go_enter Tryd.func38, Tryd.ntmps38
    go_wp2_with fail
    obtain ⟨W0, hW, _, _, EB⟩ := boxes2 w a b c d e f g h 33 33
    rw [← hW]
    have FB := Lib.hid EB
    clear hW EB
    refine (compared_any A _ _ _ _ _ _ _ _ _ (senAt_below HS.out FB.out)).mono ?_
    intro en w1 hp
    obtain ⟨rfl, hb⟩ := cmpPost_bad HX.out hp
    have KB := Lib.hid (FB.out.trans (hb.mono FB.out.size))
    have sE := senAt_below HS.out KB.out
    unfold SenAt at sE
    clear hp hb FB
    go_wp2_with fail
    refine (is_same A _).mono ?_
    rintro en w2 ⟨rfl, rfl⟩
    go_wp2_with fail
    go_ret
    exact ⟨ret_int Z.out.symm, KB.out⟩
end Go.Proofs.YtohfepcdgbgojabDoor
/- Contract of impl.SignOf. -/
namespace Go.Proofs.YtohfepcdgbgojabDoor
open Go.RowKit Go.Joins
set_option linter.unusedVariables false
set_option maxRecDepth 100000 in
set_option maxHeartbeats 1000000 in
theorem sign_impl (A : Addr) (a b c d : Int) (w : World) (hs : SenAt A w) :
    Calls Tryd.prog 20 #[ivV a b c d] w fun en w' => en = .returned (.int .i64 (cmp8 a b c d 0 0 0 1)) ∧ Below w.heap.size w w' := by
  have HS := Lib.hid hs
  clear hs
  go_enter Tryd.func20, Tryd.ntmps20
  go_wp2_with fail
  refine (compare_impl A _ _ _ _ _ _ _ _ _ (senAt_below HS.out (below_alloc1 w _))).mono ?_
  rintro en w1 ⟨rfl, hb⟩
  have KB := Lib.hid ((below_alloc1 w _).trans (hb.mono (by simp)))
  clear hb
  go_wp2_with fail
  go_ret
  exact ⟨rfl, KB.out⟩
/-- The sign of an interval is its comparison with the prime. -/
theorem cmpV_prime {x : Iv} (h : okV x = true) : cmpV x ⟨0, 0, 0, 1⟩ = sgnV x := by
  unfold cmpV
  rw [if_pos ⟨h, by decide⟩]
  unfold difV sgnV
  simp only [Int.mul_one, Int.zero_mul, Int.sub_zero]
end Go.Proofs.YtohfepcdgbgojabDoor
