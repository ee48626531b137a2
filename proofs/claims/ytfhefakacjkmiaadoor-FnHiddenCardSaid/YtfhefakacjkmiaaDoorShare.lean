/- What SharedBy answers; contract of impl.SharedBy. -/
import Derived.Test.YtfhefakacjkmiaaDoorAddMaps
import Derived.Test.YtfhefakacjkmiaaDoorIsCom
import Derived.Test.YtfhefakacjkmiaaDoorComMath
import Derived.Test.YtfhefakacjkmiaaDoorComWalks
import Derived.Test.YtfhefakacjkmiaaDoorTimesTone
namespace Go.Proofs.YtfhefakacjkmiaaDoor
open Go.RowKit Go.Joins
set_option linter.unusedVariables false
/-- The six products, and the three powers. -/
structure CrossAt (a b c e f g x1 x2 y1 y2 z1 z2 x y z : Int) : Prop where
  h1 : b * g = x1
  h2 : c * f = x2
  h3 : c * e = y1
  h4 : a * g = y2
  h5 : a * f = z1
  h6 : b * e = z2
  n1 : 0 ≤ x1
  n2 : 0 ≤ x2
  n3 : 0 ≤ y1
  n4 : 0 ≤ y2
  n5 : 0 ≤ z1
  n6 : 0 ≤ z2
  m1 : x1 ≤ 40000
  m2 : x2 ≤ 40000
  m3 : y1 ≤ 40000
  m4 : y2 ≤ 40000
  m5 : z1 ≤ 40000
  m6 : z2 ≤ 40000
  hx : x1 - x2 = x
  hy : y1 - y2 = y
  hz : z1 - z2 = z
theorem mul_bdS {a b : Int} (a0 : 0 ≤ a) (a1 : a ≤ 200) (b0 : 0 ≤ b) (b1 : b ≤ 200) : 0 ≤ a * b ∧ a * b ≤ 40000 := by
  have h1 := Int.mul_nonneg a0 b0
  have h2 := Int.mul_le_mul a1 b1 b0 (show (0 : Int) ≤ 200 from by decide)
  omega
theorem crossAt_ex {a b c e f g : Int} (h : okM a b c = true) (k : okM e f g = true) : ∃ x1 x2 y1 y2 z1 z2 x y z, CrossAt a b c e f g x1 x2 y1 y2 z1 z2 x y z := by
  obtain ⟨a1, a2, b1, b2, c1, c2⟩ := okM_nums h
  obtain ⟨e1, e2, f1, f2, g1, g2⟩ := okM_nums k
  have p1 := mul_bdS b1 b2 g1 g2
  have p2 := mul_bdS c1 c2 f1 f2
  have p3 := mul_bdS c1 c2 (show 0 ≤ e by omega) (show e ≤ 200 by omega)
  have p4 := mul_bdS (show 0 ≤ a by omega) (show a ≤ 200 by omega) g1 g2
  have p5 := mul_bdS (show 0 ≤ a by omega) (show a ≤ 200 by omega) f1 f2
  have p6 := mul_bdS b1 b2 (show 0 ≤ e by omega) (show e ≤ 200 by omega)
  exact ⟨_, _, _, _, _, _, _, _, _, ⟨rfl, rfl, rfl, rfl, rfl, rfl, p1.1, p2.1, p3.1, p4.1, p5.1, p6.1, p1.2, p2.2, p3.2, p4.2, p5.2, p6.2, rfl, rfl, rfl⟩⟩
/-- What is answered for the three powers and their divisor. -/
def EndAt (x y z d T H F R : Int) (o : Bool) : Prop :=
  (d = 0 ∧ T = 0 ∧ H = 0 ∧ F = 0 ∧ R = 0 ∧ o = false) ∨
  (1 ≤ d ∧ ∃ t h f, x.tdiv d = t ∧ y.tdiv d = h ∧ z.tdiv d = f ∧ (-40000 ≤ t ∧ t ≤ 40000 ∧ -40000 ≤ h ∧ h ≤ 40000 ∧ -40000 ≤ f ∧ f ≤ 40000) ∧
    ((okI t h f 1 = false ∧ T = 0 ∧ H = 0 ∧ F = 0 ∧ R = 0 ∧ o = false) ∨ (okI t h f 1 = true ∧ ∃ s, SgnAt t h f 1 s ∧ (s = 1 ∨ s = -1) ∧ T = t * s ∧ H = h * s ∧ F = f * s ∧ R = 1 ∧ o = true)))
/-- What SharedBy answers. -/
def ShareAt (a b c e f g T H F R : Int) (o : Bool) : Prop :=
  (okM a b c = true ∧ okM e f g = true ∧ ∃ x1 x2 y1 y2 z1 z2 x y z, CrossAt a b c e f g x1 x2 y1 y2 z1 z2 x y z ∧ ∃ d, PowAt x y z d ∧ EndAt x y z d T H F R o) ∨
  (okM a b c = false ∧ T = 0 ∧ H = 0 ∧ F = 0 ∧ R = 0 ∧ o = false) ∨ (okM a b c = true ∧ okM e f g = false ∧ T = 0 ∧ H = 0 ∧ F = 0 ∧ R = 0 ∧ o = false)
theorem tdiv_bdS {x d M : Int} (hd : 1 ≤ d) (h1 : -M ≤ x) (h2 : x ≤ M) : -M ≤ x.tdiv d ∧ x.tdiv d ≤ M := by
  have h : (x.tdiv d).natAbs ≤ x.natAbs := by rw [Int.natAbs_tdiv]; exact Nat.div_le_self _ _
  omega
theorem endAt_ex {x y z d : Int} (hp : d = gcdI (gcdI x y) z) (hx : -40000 ≤ x ∧ x ≤ 40000) (hy : -40000 ≤ y ∧ y ≤ 40000) (hz : -40000 ≤ z ∧ z ≤ 40000) : ∃ T H F R o, EndAt x y z d T H F R o := by
  by_cases h0 : d = 0
  · exact ⟨0, 0, 0, 0, false, .inl ⟨h0, rfl, rfl, rfl, rfl, rfl⟩⟩
  · have hd : 1 ≤ d := by
      have := gcdI_nonneg (gcdI x y) z
      omega
    have b1 := tdiv_bdS hd hx.1 hx.2
    have b2 := tdiv_bdS hd hy.1 hy.2
    have b3 := tdiv_bdS hd hz.1 hz.2
    obtain ⟨v, hv⟩ : ∃ v : Bool, okI (x.tdiv d) (y.tdiv d) (z.tdiv d) 1 = v := ⟨_, rfl⟩
    cases v
    · exact ⟨0, 0, 0, 0, false, .inr ⟨hd, _, _, _, rfl, rfl, rfl, ⟨b1.1, b1.2, b2.1, b2.2, b3.1, b3.2⟩, .inl ⟨hv, rfl, rfl, rfl, rfl, rfl⟩⟩⟩
    · refine ⟨_, _, _, 1, true, .inr ⟨hd, _, _, _, rfl, rfl, rfl, ⟨b1.1, b1.2, b2.1, b2.2, b3.1, b3.2⟩, .inr ⟨hv, _, rfl, ?_, rfl, rfl, rfl, rfl, rfl⟩⟩⟩
      have e : cmp8 (x.tdiv d) (y.tdiv d) (z.tdiv d) 1 0 0 0 1 = sgnP (x.tdiv d) (y.tdiv d) (z.tdiv d) := cmpV_prime (x := ⟨_, _, _, 1⟩) hv
      rw [e]
      have e2 := sgnP_quot hp hd
      have hb := sgnP_bd (x.tdiv d) (y.tdiv d) (z.tdiv d)
      have hn : sgnP x y z ≠ 0 := fun hs => by
        obtain ⟨rfl, rfl, rfl⟩ := (sgnP_zero x y z).1 hs
        exact h0 (hp.trans (by decide))
      omega
theorem shareAt_ex (a b c e f g : Int) : ∃ T H F R o, ShareAt a b c e f g T H F R o := by
  obtain ⟨u, hu⟩ : ∃ x : Bool, okM a b c = x := ⟨_, rfl⟩
  obtain ⟨v, hv⟩ : ∃ x : Bool, okM e f g = x := ⟨_, rfl⟩
  cases u
  · exact ⟨0, 0, 0, 0, false, .inr (.inl ⟨hu, rfl, rfl, rfl, rfl, rfl⟩)⟩
  · cases v
    · exact ⟨0, 0, 0, 0, false, .inr (.inr ⟨hu, hv, rfl, rfl, rfl, rfl, rfl⟩)⟩
    · obtain ⟨x1, x2, y1, y2, z1, z2, x, y, z, hc⟩ := crossAt_ex hu hv
      have := hc.n1; have := hc.n2; have := hc.n3; have := hc.n4; have := hc.n5; have := hc.n6
      have := hc.m1; have := hc.m2; have := hc.m3; have := hc.m4; have := hc.m5; have := hc.m6
      have := hc.hx; have := hc.hy; have := hc.hz
      obtain ⟨T, H, F, R, o, he⟩ := endAt_ex (x := x) (y := y) (z := z) rfl (by omega) (by omega) (by omega)
      exact ⟨T, H, F, R, o, .inl ⟨hu, hv, _, _, _, _, _, _, _, _, _, hc, _, ⟨⟨by omega, by omega, by omega, by omega, by omega, by omega⟩, rfl⟩, he⟩⟩
/-- The last three calls. -/
structure ShSay (A : Addr) (t h f p q r u s T H F R : Int) (o : Bool) : Prop where
  pure : ∀ w, Calls Tryd.prog 32 #[.int .i64 t, .int .i64 h, .int .i64 f] w fun e w' => e = .returned (ivV p q r u) ∧ Below w.heap.size w w'
  sgn : ∀ w, SenAt A w → Calls Tryd.prog 14 #[ivV p q r u] w fun e w' => e = .returned (.int .i64 s) ∧ Below w.heap.size w w'
  tim : ∀ w, Calls Tryd.prog 12 #[ivV p q r u, .int .i64 s] w fun e w' => e = .returned (.tuple #[ivV T H F R, .bool o]) ∧ Below w.heap.size w w'
theorem simOf_oneS (a b c : Int) : SimOf a b c 1 a b c 1 := by
  unfold SimOf
  simp only [gcdC_one, Int.tdiv_one]
  exact ⟨trivial, trivial, trivial, trivial⟩
theorem okI_neg {t h f s : Int} (hs : s = 1 ∨ s = -1) (hk : okI t h f 1 = true) : okI (t * s) (h * s) (f * s) 1 = true := by
  obtain ⟨_, _, a1, a2, b1, b2, c1, c2⟩ := okI_nums hk
  rcases hs with rfl | rfl <;> exact okI_mk (by omega)
theorem shSay_ex (A : Addr) {x y z d T H F R : Int} {o : Bool} (hd : 1 ≤ d) (he : EndAt x y z d T H F R o) :
    ∃ t h f p q r u s, (x.tdiv d = t ∧ y.tdiv d = h ∧ z.tdiv d = f ∧ (-40000 ≤ t ∧ t ≤ 40000 ∧ -40000 ≤ h ∧ h ≤ 40000 ∧ -40000 ≤ f ∧ f ≤ 40000)) ∧ ShSay A t h f p q r u s T H F R o := by
  rcases he with ⟨rfl, _⟩ | ⟨_, t, h, f, e1, e2, e3, hb, ⟨hk, rfl, rfl, rfl, rfl, rfl⟩ | ⟨hk, s, hs, h1, rfl, rfl, rfl, rfl, rfl⟩⟩
  · exact absurd hd (by omega)
  · refine ⟨t, h, f, 0, 0, 0, 0, 0, ⟨e1, e2, e3, hb⟩, fun w => pure_impl_no _ _ _ w hk, fun w hs => ?_, fun w => times_impl_bad 0 0 0 0 0 w (by decide)⟩
    have k := sign_impl A 0 0 0 0 w hs
    rw [show cmp8 0 0 0 0 0 0 0 1 = 0 from by decide] at k
    exact k
  · refine ⟨t, h, f, t, h, f, 1, s, ⟨e1, e2, e3, hb⟩, fun w => pure_impl_yes _ _ _ w hk, fun w hs' => sgnAt_impl hs A w hs', fun w => ?_⟩
    exact times_of t h f 1 s _ _ _ _ hk (by omega) (by omega) (simOf_oneS _ _ _) (okI_neg h1 hk) w
/-- The two maps and the result's block behind them. -/
def SM (n : Nat) (a b c e f g : Int) (w : World) : Prop := TT n a b c e f g w ∧ Zed4 (n + 2) w
theorem sm_keep {W w : World} {n : Nat} {a b c e f g : Int} (hb : Below W.heap.size W w) (H : SM n a b c e f g W) : SM n a b c e f g w :=
  ⟨tt_keep (by have := H.2.1.1; omega) hb H.1, zed4_keep hb H.2⟩
theorem sm_start (a b c e f g : Int) (w : World) (T U : TypeId) : SM w.heap.size a b c e f g (((w.alloc (.cells #[.int .i64 a, .int .i64 b, .int .i64 c] T)).alloc (.cells #[.int .i64 e, .int .i64 f, .int .i64 g] T)).alloc (.cells #[.int .i64 0, .int .i64 0, .int .i64 0, .int .i64 0] U)) := by
  refine ⟨tt_alloc (by simp) (tt_start _ _ _ _ _ _ _ _), ?_, fun o => ?_⟩
  · unfold Four
    refine ⟨?_, ?_, ?_, ?_, ?_⟩ <;> simp [go_sem]
  · simp [go_sem]
/-- A new block of zeros behind B. -/
def ZedS (B m : Nat) (w : World) : Prop := B ≤ m ∧ Zed4 m w
theorem zedS_alloc {W X : World} {t : TypeId} (h : Below W.heap.size W X) : ZedS W.heap.size X.heap.size (X.alloc (.cells #[.int .i64 0, .int .i64 0, .int .i64 0, .int .i64 0] t)) := ⟨h.size, zed4_alloc⟩
theorem zedS_drew {B m : Nat} {X : World} (h : ZedS B m X) : ZedS B m X.drew := h
theorem belowS_al {W X : World} {o : Obj} (h : Below W.heap.size W X) : Below W.heap.size W (X.alloc o) := h.alloc h.size o
theorem calls_zedS {P : Program} {k : FuncId} {args : Array Value} {W w : World} {v : Value} {B m : Nat} (h : Below W.heap.size W w) (hz : ZedS B m w) (hk : Calls P k args w fun e w' => e = .returned v ∧ Below w.heap.size w w') :
    Calls P k args w fun e w' => e = .returned v ∧ Below W.heap.size W w' ∧ ZedS B m w' :=
  hk.mono fun _ _ ⟨he, hb⟩ => ⟨he, h.trans (hb.mono h.size), hz.1, zed4_keep hb hz.2⟩
theorem belowS_set {w : World} {B m : Nat} {v0 v1 v2 v3 : Value} (hm : B ≤ m) : Below B w ((((w.setCell ⟨m, 0, none⟩ v0).setCell ⟨m, 1, none⟩ v1).setCell ⟨m, 2, none⟩ v2).setCell ⟨m, 3, none⟩ v3) :=
  ((((Below.refl _ _).setCell hm _).setCell hm _).setCell hm _).setCell hm _
set_option maxRecDepth 100000 in
set_option maxHeartbeats 4000000 in
theorem share_impl (A : Addr) {a b c e f g T H F R : Int} {o : Bool} (hh : ShareAt a b c e f g T H F R o) (w : World) (hs : SenAt A w) :
    Calls Tryd.prog 9 #[mapV a b c, mapV e f g] w fun e w' => e = .returned (.tuple #[ivV T H F R, .bool o]) ∧ Below w.heap.size w w' := by
  have pre : ∀ W0 : World, W0 = (((w.alloc (.cells #[.int .i64 a, .int .i64 b, .int .i64 c] 25)).alloc (.cells #[.int .i64 e, .int .i64 f, .int .i64 g] 25)).alloc (.cells #[.int .i64 0, .int .i64 0, .int .i64 0, .int .i64 0] 29)) → SM w.heap.size a b c e f g W0 ∧ Below w.heap.size w W0 := by
    intro W0 h
    subst h
    exact ⟨sm_start _ _ _ _ _ _ _ _ _, below_alloc3 _ _ _ _⟩
  have PRE := Lib.hid pre
  have HS := Lib.hid hs
  clear pre hs
  rcases hh with ⟨h1, h2, x1, x2, y1, y2, z1, z2, x, y, z, hc, d, hp, he⟩ | ⟨h1, rfl, rfl, rfl, rfl, rfl⟩ | ⟨h1, h2, rfl, rfl, rfl, rfl, rfl⟩
  · have M1 := Lib.hid (fun w => mapOkB h1 w)
    have M2 := Lib.hid (fun w => mapOkB h2 w)
    have PW := Lib.hid (fun w => powAt_impl hp w)
    have HE := Lib.hid he
    have HC := Lib.hid hc
    have HD : Hid (0 ≤ d ∧ d ≤ 1000000) := Lib.hid (by obtain ⟨⟨q1, q2, q3, q4, q5, q6⟩, rfl⟩ := hp; exact ⟨gcdI_nonneg _ _, gcdI_le _ _ 1000000 (by have := gcdI_nonneg x y; omega) (gcdI_le _ _ _ q1 q2 q3 q4) q5 q6⟩)
    clear h1 h2 hp he hc
    go_enter Tryd.func9, Tryd.ntmps9
    go_upto_region 1 with fail
    obtain ⟨W0, hW0⟩ : ∃ W0, W0 = (((w.alloc (.cells #[.int .i64 a, .int .i64 b, .int .i64 c] 25)).alloc (.cells #[.int .i64 e, .int .i64 f, .int .i64 g] 25)).alloc (.cells #[.int .i64 0, .int .i64 0, .int .i64 0, .int .i64 0] 29)) := ⟨_, rfl⟩
    have A0 := Lib.hid (PRE.out W0 hW0).1
    have B0 := Lib.hid (PRE.out W0 hW0).2
    rw [← hW0]
    clear hW0 PRE
    generalize hn : w.heap.size = n at A0 ⊢
    have HN := Lib.hid hn
    clear hn
    obtain ⟨⟨z0, z1', z2', z3, z4, z5⟩, _⟩ := A0.out
    go_wp2_with fail
    refine (M1.out _).mono ?_
    rintro e9 w1 ⟨rfl, h1⟩
    clear z0 z1' z2' z3 z4 z5
    have A1 := Lib.hid (sm_keep h1 A0.out)
    have B1 := Lib.hid (B0.out.trans (h1.mono B0.out.size))
    clear h1 A0 B0
    obtain ⟨⟨z0, z1', z2', z3, z4, z5⟩, _⟩ := A1.out
    go_wp2_with fail
    refine (M2.out _).mono ?_
    rintro e9 w2 ⟨rfl, h1⟩
    clear z0 z1' z2' z3 z4 z5
    have A2 := Lib.hid (sm_keep h1 A1.out)
    have B2 := Lib.hid (B1.out.trans (h1.mono B1.out.size))
    clear h1 A1 B1
    obtain ⟨⟨z0, z1', z2', z3, z4, z5⟩, _⟩ := A2.out
    obtain ⟨k1, k2, k3, k4, k5, k6, n1, n2, n3, n4, n5, n6, m1, m2, m3, m4, m5, m6, hx, hy, hz⟩ := HC.out
    go_wp2_with fail
    refine (PW.out _).mono ?_
    rintro e9 w3 ⟨rfl, h1⟩
    clear z0 z1' z2' z3 z4 z5 k1 k2 k3 k4 k5 k6
    have A3 := Lib.hid (sm_keep h1 A2.out)
    have B3 := Lib.hid (B2.out.trans (h1.mono B2.out.size))
    clear h1 A2 B2
    by_cases hd : d = 0
    · have td : (d == 0) = true := by simp [hd]
      have E : T = 0 ∧ H = 0 ∧ F = 0 ∧ R = 0 ∧ o = false := by
        rcases HE.out with ⟨_, h⟩ | ⟨h, _⟩
        · exact h
        · exact absurd h (by omega)
      obtain ⟨rfl, rfl, rfl, rfl, rfl⟩ := E
      obtain ⟨_, ⟨zm, q0, q1, q2, q3⟩, zf⟩ := A3.out
      clear n1 n2 n3 n4 n5 n6 m1 m2 m3 m4 m5 m6 hx hy hz hd
      go_wp2_with fail
      obtain ⟨X, hX, ⟨xm, x0, x1, x2, x3⟩, hB⟩ := zed4_store (p := 0) (q := 0) (r := 0) (s := 0) (show w.heap.size ≤ n + 2 by have := HN.out; omega) B3.out ⟨zm, q0, q1, q2, q3⟩
      rw [← hX]
      exact bodyPost_ret (v := .tuple #[ivV 0 0 0 0, .bool false]) (by simp [results, Tryd.results9, go_sem, x0, x1, x2, x3]) rfl ⟨rfl, HN.out ▸ hB⟩
    · have td : (d == 0) = false := by simp [hd]
      have hd1 : 1 ≤ d := by have := HD.out; omega
      have hd2 : d ≤ 1000000 := HD.out.2
      obtain ⟨t, h, f, p, q, r, u, s, ⟨e1, e2, e3, b1, b2, b3, b4, b5, b6⟩, hsay⟩ := shSay_ex A hd1 HE.out
      have K := Lib.hid hsay
      have v1 : IntKind.i64.wrap (x.tdiv d) = t := by rw [e1]; exact IntWalk.i64_in _ (by omega)
      have v2 : IntKind.i64.wrap (y.tdiv d) = h := by rw [e2]; exact IntWalk.i64_in _ (by omega)
      have v3 : IntKind.i64.wrap (z.tdiv d) = f := by rw [e3]; exact IntWalk.i64_in _ (by omega)
      clear e1 e2 e3 b1 b2 b3 b4 b5 b6
      clear n1 n2 n3 n4 n5 n6 m1 m2 m3 m4 m5 m6 hx hy hz hsay
      go_upto_region 9 with fail
      obtain ⟨W1, hW⟩ : ∃ W, W = w3 := ⟨_, rfl⟩
      rw [← hW] at A3 B3 ⊢
      clear hW
      go_cut [10] (fun s10 wx => ∃ m : Nat, s10 = .pointer (some ⟨m, 0, none⟩) ∧ Below W1.heap.size W1 wx ∧ Four m p q r u wx ∧ W1.heap.size ≤ m)
      case first =>
        go_region_held3 (fun w' => True) (trivial)
          (first
            | (go_at_call 32; refine (calls_zedS (W := W1) (by with_reducible first | assumption | exact belowS_al (by assumption) | exact (Below.refl _ _).drew | exact (belowS_al (Below.refl _ _)).drew) (by with_reducible first | assumption | exact zedS_alloc (by assumption) | exact zedS_drew (zedS_alloc (Below.refl _ _))) (K.out.pure _)).mono ?_; rintro e1 w9 ⟨rfl, hb, hzb⟩; obtain ⟨zb, ⟨zm, z0, z1, z2, z3⟩, zf⟩ := id hzb)
            | (go_at_call 32; refine (calls_fromF (W := W1) (by with_reducible first | assumption | exact (Below.refl _ _).drew) (K.out.pure _)).mono ?_; rintro e1 w9 ⟨rfl, hb⟩))
        all_goals
          go_wp2_with fail
          go_meet
          first
            | exact ⟨_, rfl, belowS_al hb, four_alloc, hb.size⟩
            | exact ⟨_, rfl, hb.trans (belowS_set hzb.1), four_set hzb.2.1, hzb.1⟩
      case rest =>
        obtain ⟨m, rfl, hb, gS, hm⟩ := hcut
        obtain ⟨V, hV⟩ : ∃ W, W = wc := ⟨_, rfl⟩
        rw [← hV] at hb gS ⊢
        have B4 := Lib.hid (B3.out.trans (hb.mono B3.out.size))
        have Z4 := Lib.hid (zed4_keep hb A3.out.2)
        have F4 := Lib.hid gS
        have NM : Hid (m ≠ n + 2) := Lib.hid (by have := A3.out.2.1.1; omega)
        have SG := Lib.hid (fun w' (h : Below V.heap.size V w') => calls_fromF (W := V) h (K.out.sgn w' (senAt_below HS.out (B4.out.trans (h.mono B4.out.size)))))
        clear hb gS hm hV A3 B3 v1 v2 v3
        go_upto_region 10 with fail
        go_region_held3 (fun w' => w'.cell? ⟨m, 0, none⟩ = some (.int .i64 p) ∧ w'.cell? ⟨m, 1, none⟩ = some (.int .i64 q) ∧ w'.cell? ⟨m, 2, none⟩ = some (.int .i64 r) ∧ w'.cell? ⟨m, 3, none⟩ = some (.int .i64 u)) (with_reducible first | exact four_cellsF (four_drewF F4.out) | exact four_cellsF (four_keep (by assumption) F4.out) | exact four_cellsF F4.out | exact four_cellsF (four_other NM.out (four_keep (by assumption) F4.out)))
          (first
            | (go_at_call 14; refine (SG.out _ (by with_reducible first | assumption | exact (Below.refl _ _).drew)).mono ?_; rintro e1 w9 ⟨rfl, hb⟩)
            | (go_at_call 12; refine (calls_zed (W := V) Z4.out (by with_reducible first | assumption | exact (Below.refl _ _).drew) (K.out.tim _)).mono ?_; rintro e1 w9 ⟨rfl, hb, hz⟩; obtain ⟨⟨zm, z0, z1, z2, z3⟩, zf⟩ := hz))
        obtain ⟨X, hX, ⟨gm, g0, g1, g2, g3⟩, gb⟩ := zed4_store (w := w) (p := T) (q := H) (r := F) (s := R) (show w.heap.size ≤ n + 2 by have := HN.out; omega) (B4.out.trans (hb.mono B4.out.size)) ⟨zm, z0, z1, z2, z3⟩
        rw [← hX]
        have GB := Lib.hid gb
        clear hX gb z0 z1 z2 z3 zm zf hb
        go_wp2_with fail
        exact bodyPost_ret (v := .tuple #[ivV T H F R, .bool o]) (by simp [results, Tryd.results9, go_sem, g0, g1, g2, g3]) rfl ⟨rfl, HN.out ▸ GB.out⟩
  · have M1 := Lib.hid (fun w => mapOkB h1 w)
    clear h1
    go_enter Tryd.func9, Tryd.ntmps9
    go_upto_region 1 with fail
    obtain ⟨W0, hW0⟩ : ∃ W0, W0 = (((w.alloc (.cells #[.int .i64 a, .int .i64 b, .int .i64 c] 25)).alloc (.cells #[.int .i64 e, .int .i64 f, .int .i64 g] 25)).alloc (.cells #[.int .i64 0, .int .i64 0, .int .i64 0, .int .i64 0] 29)) := ⟨_, rfl⟩
    have A0 := Lib.hid (PRE.out W0 hW0).1
    have B0 := Lib.hid (PRE.out W0 hW0).2
    rw [← hW0]
    clear hW0 PRE
    generalize hn : w.heap.size = n at A0 ⊢
    have HN := Lib.hid hn
    clear hn
    obtain ⟨⟨z0, z1, z2, z3, z4, z5⟩, _⟩ := A0.out
    go_wp2_with fail
    refine (M1.out _).mono ?_
    rintro e9 w1 ⟨rfl, h1⟩
    clear z0 z1 z2 z3 z4 z5
    have A1 := Lib.hid (sm_keep h1 A0.out)
    have B1 := Lib.hid (B0.out.trans (h1.mono B0.out.size))
    clear h1 A0 B0
    obtain ⟨_, ⟨zm, q0, q1, q2, q3⟩, zf⟩ := A1.out
    go_wp2_with fail
    obtain ⟨X, hX, ⟨xm, x0, x1, x2, x3⟩, hB⟩ := zed4_store (p := 0) (q := 0) (r := 0) (s := 0) (show w.heap.size ≤ n + 2 by have := HN.out; omega) B1.out ⟨zm, q0, q1, q2, q3⟩
    rw [← hX]
    exact bodyPost_ret (v := .tuple #[ivV 0 0 0 0, .bool false]) (by simp [results, Tryd.results9, go_sem, x0, x1, x2, x3]) rfl ⟨rfl, HN.out ▸ hB⟩
  · have M1 := Lib.hid (fun w => mapOkB h1 w)
    have M2 := Lib.hid (fun w => mapOkB h2 w)
    clear h1 h2
    go_enter Tryd.func9, Tryd.ntmps9
    go_upto_region 1 with fail
    obtain ⟨W0, hW0⟩ : ∃ W0, W0 = (((w.alloc (.cells #[.int .i64 a, .int .i64 b, .int .i64 c] 25)).alloc (.cells #[.int .i64 e, .int .i64 f, .int .i64 g] 25)).alloc (.cells #[.int .i64 0, .int .i64 0, .int .i64 0, .int .i64 0] 29)) := ⟨_, rfl⟩
    have A0 := Lib.hid (PRE.out W0 hW0).1
    have B0 := Lib.hid (PRE.out W0 hW0).2
    rw [← hW0]
    clear hW0 PRE
    generalize hn : w.heap.size = n at A0 ⊢
    have HN := Lib.hid hn
    clear hn
    obtain ⟨⟨z0, z1, z2, z3, z4, z5⟩, _⟩ := A0.out
    go_wp2_with fail
    refine (M1.out _).mono ?_
    rintro e9 w1 ⟨rfl, h1⟩
    clear z0 z1 z2 z3 z4 z5
    have A1 := Lib.hid (sm_keep h1 A0.out)
    have B1 := Lib.hid (B0.out.trans (h1.mono B0.out.size))
    clear h1 A0 B0
    obtain ⟨⟨z0, z1, z2, z3, z4, z5⟩, _⟩ := A1.out
    go_wp2_with fail
    refine (M2.out _).mono ?_
    rintro e9 w2 ⟨rfl, h1⟩
    clear z0 z1 z2 z3 z4 z5
    have A2 := Lib.hid (sm_keep h1 A1.out)
    have B2 := Lib.hid (B1.out.trans (h1.mono B1.out.size))
    clear h1 A1 B1
    obtain ⟨_, ⟨zm, q0, q1, q2, q3⟩, zf⟩ := A2.out
    go_wp2_with fail
    obtain ⟨X, hX, ⟨xm, x0, x1, x2, x3⟩, hB⟩ := zed4_store (p := 0) (q := 0) (r := 0) (s := 0) (show w.heap.size ≤ n + 2 by have := HN.out; omega) B2.out ⟨zm, q0, q1, q2, q3⟩
    rw [← hX]
    exact bodyPost_ret (v := .tuple #[ivV 0 0 0 0, .bool false]) (by simp [results, Tryd.results9, go_sem, x0, x1, x2, x3]) rfl ⟨rfl, HN.out ▸ hB⟩
end Go.Proofs.YtfhefakacjkmiaaDoor
