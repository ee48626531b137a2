/- The walk of laws.FnCommas. Written by commas.py. -/
import Derived.Test.YtdnlebijmiaclabDoorComsImpl
import Derived.Test.YtdnlebijmiaclabDoorAtWalks
import Derived.Test.YtdnlebijmiaclabDoorTonesMath
import Derived.Deep.RegionWith
namespace Go.Proofs.YtdnlebijmiaclabDoor
open Go.RowKit Go.Joins
set_option linter.unusedVariables false
/-- What the law's calls answer. -/
structure ComSay (a b tx hx fx ty hy fy tz hz fz : Int) : Prop where
  s1 : ∀ w, Calls Tryd.prog 18 #[ivV (-4) 4 (-1) 1, .int .i64 (-1)] w fun en w' => en = .returned (.tuple #[ivV 4 (-4) 1 1, .bool true]) ∧ Below w.heap.size w w'
  s2 : ∀ w, Calls Tryd.prog 19 #[ivV (-19) 12 0 1, ivV 4 (-4) 1 1] w fun en w' => en = .returned (.tuple #[ivV (-15) 8 1 1, .bool true]) ∧ Below w.heap.size w w'
  s3 : ∀ w, Calls Tryd.prog 18 #[ivV (-19) 12 0 1, .int .i64 a] w fun en w' => en = .returned (.tuple #[ivV tx hx fx 1, .bool true]) ∧ Below w.heap.size w w'
  s4 : ∀ w, Calls Tryd.prog 18 #[ivV (-4) 4 (-1) 1, .int .i64 b] w fun en w' => en = .returned (.tuple #[ivV ty hy fy 1, .bool true]) ∧ Below w.heap.size w w'
  s5 : ∀ w, Calls Tryd.prog 19 #[ivV tx hx fx 1, ivV ty hy fy 1] w fun en w' => en = .returned (.tuple #[ivV tz hz fz 1, .bool true]) ∧ Below w.heap.size w w'
  s6 : ∀ w, Calls Tryd.prog 47 #[ivV tz hz fz 1] w fun en w' => en = .returned (.tuple #[.int .i64 a, .int .i64 b, .bool true]) ∧ Below w.heap.size w w'
theorem simOf_one {a b c p q r : Int} (h1 : p = a) (h2 : q = b) (h3 : r = c) : SimOf a b c 1 p q r 1 := by
  subst h1 h2 h3
  unfold SimOf
  simp only [gcdC_one, Int.tdiv_one]
  exact ⟨trivial, trivial, trivial, trivial⟩
theorem sum_one {a b c e f g p q r : Int} (hx : okI a b c 1 = true) (hy : okI e f g 1 = true) (h1 : p = a + e) (h2 : q = b + f) (h3 : r = c + g) (hz : okI p q r 1 = true) (w : World) :
    Calls Tryd.prog 19 #[ivV a b c 1, ivV e f g 1] w fun en w' => en = .returned (.tuple #[ivV p q r 1, .bool true]) ∧ Below w.heap.size w w' :=
  add_of a b c 1 e f g 1 p q r 1 hx hy (by simp only [Int.mul_one]; exact simOf_one h1 h2 h3) hz w
theorem comSay_ex {a b : Int} (ha : -3 ≤ a ∧ a ≤ 3) (hb : -3 ≤ b ∧ b ≤ 3) : ∃ tx hx fx ty hy fy tz hz fz, ComSay a b tx hx fx ty hy fy tz hz fz := by
  have z3 : (0 : Int).tdiv 12 = 0 := by decide
  refine ⟨-19 * a, 12 * a, 0, -4 * b, 4 * b, -b, -19 * a - 4 * b, 12 * a + 4 * b, -b, fun w => ?_, fun w => ?_, fun w => ?_, fun w => ?_, fun w => ?_, fun w => ?_⟩
  · exact times_of (-4) 4 (-1) 1 (-1) 4 (-4) 1 1 (by decide) (by omega) (by omega) (simOf_one (by decide) (by decide) (by decide)) (by decide) w
  · exact sum_one (by decide) (by decide) (by decide) (by decide) (by decide) (by decide) w
  · exact times_of (-19) 12 0 1 a (-19 * a) (12 * a) 0 1 (by decide) (by omega) (by omega) (simOf_one rfl rfl (by omega)) (okI_mk (by omega)) w
  · exact times_of (-4) 4 (-1) 1 b (-4 * b) (4 * b) (-b) 1 (by decide) (by omega) (by omega) (simOf_one rfl rfl (by omega)) (okI_mk (by omega)) w
  · exact sum_one (okI_mk (by omega)) (okI_mk (by omega)) (by omega) (by omega) (by omega) (okI_mk (by omega)) w
  · have hp : pureB (-19 * a - 4 * b) (12 * a + 4 * b) (-b) 1 = true := by unfold pureB; rw [okI_mk (by omega)]; rfl
    obtain ⟨q, r, h1, h2, h3, h4, h5⟩ := tdiv12 (12 * a + 4 * b - 4 * b)
    exact split_impl (.inr ⟨hp, a, b, r, by omega, by rw [h1]; omega, h2, by omega, .inl ⟨by omega, by omega, by omega, by omega, rfl, rfl, rfl⟩⟩) w
/-- The six commas, one by one. -/
theorem com_six {j : Nat} (h1 : 1 ≤ j) (h2 : j ≤ 6) : ∃ a b c x L, ComAt (j : Int) a b c 1 (x :: L) ∧ comB a b c 1 = true := by
  obtain ⟨k1, k2, k3, k4, k5, k6⟩ := six_is
  rcases (show j = 1 ∨ j = 2 ∨ j = 3 ∨ j = 4 ∨ j = 5 ∨ j = 6 by omega) with rfl | rfl | rfl | rfl | rfl | rfl
  · exact ⟨_, _, _, _, _, .inl ⟨rfl, rfl, rfl, rfl, rfl, rfl⟩, k1⟩
  · exact ⟨_, _, _, _, _, .inr (.inl ⟨rfl, rfl, rfl, rfl, rfl, rfl⟩), k2⟩
  · exact ⟨_, _, _, _, _, .inr (.inr (.inl ⟨rfl, rfl, rfl, rfl, rfl, rfl⟩)), k3⟩
  · exact ⟨_, _, _, _, _, .inr (.inr (.inr (.inl ⟨rfl, rfl, rfl, rfl, rfl, rfl⟩))), k4⟩
  · exact ⟨_, _, _, _, _, .inr (.inr (.inr (.inr (.inl ⟨rfl, rfl, rfl, rfl, rfl, rfl⟩)))), k5⟩
  · exact ⟨_, _, _, _, _, .inr (.inr (.inr (.inr (.inr (.inl ⟨rfl, rfl, rfl, rfl, rfl, rfl⟩))))), k6⟩
theorem com4At : ComAt 4 (-15) 8 1 1 [115, 99, 104, 105, 115, 109, 97] := .inr (.inr (.inr (.inl ⟨rfl, rfl, rfl, rfl, rfl, rfl⟩)))
/-- A new block of zeros behind B. -/
def ZedB (B m : Nat) (w : World) : Prop := B ≤ m ∧ Zed4 m w
theorem zedB_alloc {W X : World} {t : TypeId} (h : Below W.heap.size W X) : ZedB W.heap.size X.heap.size (X.alloc (.cells #[.int .i64 0, .int .i64 0, .int .i64 0, .int .i64 0] t)) := ⟨h.size, zed4_alloc⟩
theorem zedB_drew {B m : Nat} {X : World} (h : ZedB B m X) : ZedB B m X.drew := h
theorem belowC_al {W X : World} {o : Obj} (h : Below W.heap.size W X) : Below W.heap.size W (X.alloc o) := h.alloc h.size o
theorem calls_zedB {P : Program} {k : FuncId} {args : Array Value} {W w : World} {v : Value} {B m : Nat} (h : Below W.heap.size W w) (hz : ZedB B m w) (hk : Calls P k args w fun e w' => e = .returned v ∧ Below w.heap.size w w') :
    Calls P k args w fun e w' => e = .returned v ∧ Below W.heap.size W w' ∧ ZedB B m w' :=
  hk.mono fun _ _ ⟨he, hb⟩ => ⟨he, h.trans (hb.mono h.size), hz.1, zed4_keep hb hz.2⟩
theorem belowC_set {w : World} {B m : Nat} {v0 v1 v2 v3 : Value} (hm : B ≤ m) : Below B w ((((w.setCell ⟨m, 0, none⟩ v0).setCell ⟨m, 1, none⟩ v1).setCell ⟨m, 2, none⟩ v2).setCell ⟨m, 3, none⟩ v3) :=
  ((((Below.refl _ _).setCell hm _).setCell hm _).setCell hm _).setCell hm _
def ComC (A : Addr) (a b c d : Int) : Prop := comB a b c d = true
theorem comC_pick {A : Addr} {a b c d : Int} (h : ComC A a b c d) (w : World) (hs : SenAt A w) : Calls Tryd.prog 48 #[ivV a b c d] w fun e w' => e = .returned (.bool true) ∧ Below w.heap.size w w' := by
  have k := isComma_impl A a b c d w hs
  rw [show comB a b c d = true from h] at k
  exact k
/-- A row's elements j and p, where they lie. -/
def TwoC (g j p : Nat) (x y : Iv) (w : World) : Prop := g < w.heap.size ∧ (w.cell? ⟨g, j * 4, none⟩ = some (.int .i64 x.two) ∧ w.cell? ⟨g, j * 4 + 1, none⟩ = some (.int .i64 x.three) ∧ w.cell? ⟨g, j * 4 + 2, none⟩ = some (.int .i64 x.five) ∧ w.cell? ⟨g, j * 4 + 3, none⟩ = some (.int .i64 x.root) ∧ w.cell? ⟨g, p * 4 + 1, none⟩ = some (.int .i64 y.three) ∧ w.cell? ⟨g, p * 4 + 2, none⟩ = some (.int .i64 y.five))
theorem twoC_keep {W w : World} {g j p : Nat} {x y : Iv} (hb : Below W.heap.size W w) (h : TwoC g j p x y W) : TwoC g j p x y w :=
  ⟨Nat.lt_of_lt_of_le h.1 hb.size, (hb.cell h.1).trans h.2.1, (hb.cell h.1).trans h.2.2.1, (hb.cell h.1).trans h.2.2.2.1, (hb.cell h.1).trans h.2.2.2.2.1, (hb.cell h.1).trans h.2.2.2.2.2.1, (hb.cell h.1).trans h.2.2.2.2.2.2⟩
theorem twoC_drew {w : World} {g j p : Nat} {x y : Iv} (h : TwoC g j p x y w) : TwoC g j p x y w.drew := h
/-- The row of the commas within 4, where it lies. -/
def RowC (g : Nat) (w : World) : Prop := g < w.heap.size ∧ ∀ j, j < 6 → w.cell? ⟨g, j * 4, none⟩ = some (.int .i64 (ivAt (comTo 4 9) j).two) ∧ w.cell? ⟨g, j * 4 + 1, none⟩ = some (.int .i64 (ivAt (comTo 4 9) j).three) ∧ w.cell? ⟨g, j * 4 + 2, none⟩ = some (.int .i64 (ivAt (comTo 4 9) j).five) ∧ w.cell? ⟨g, j * 4 + 3, none⟩ = some (.int .i64 (ivAt (comTo 4 9) j).root)
theorem rowC_keep {W w : World} {g : Nat} (hb : Below W.heap.size W w) (h : RowC g W) : RowC g w :=
  ⟨Nat.lt_of_lt_of_le h.1 hb.size, fun j hj => ⟨(hb.cell h.1).trans (h.2 j hj).1, (hb.cell h.1).trans (h.2 j hj).2.1, (hb.cell h.1).trans (h.2 j hj).2.2.1, (hb.cell h.1).trans (h.2 j hj).2.2.2⟩⟩
theorem rowC_two {w : World} {g j p : Nat} {x y : Iv} (h : RowC g w) (hj : j < 6) (hp : p < 6) (hx : x = ivAt (comTo 4 9) j) (hy : y = ivAt (comTo 4 9) p) : TwoC g j p x y w := by
  subst hx hy
  obtain ⟨a0, a1, a2, a3⟩ := h.2 j hj
  obtain ⟨b0, b1, b2, b3⟩ := h.2 p hp
  exact ⟨h.1, a0, a1, a2, a3, b1, b2⟩
theorem four_setC {V w : World} {n m : Nat} {p q r s : Int} {v0 v1 v2 v3 : Value} (hz : ZedB V.heap.size m w) (hb : Below V.heap.size V w) (h : Four n p q r s V) : Four n p q r s ((((w.setCell ⟨m, 0, none⟩ v0).setCell ⟨m, 1, none⟩ v1).setCell ⟨m, 2, none⟩ v2).setCell ⟨m, 3, none⟩ v3) :=
  four_keep (hb.trans (belowC_set hz.1)) h
set_option maxRecDepth 100000 in
set_option maxHeartbeats 16000000 in
theorem walk_FnCommas (P : Addr) (a0 : Option Addr) (len0 cap0 : Nat) (z0 : List Int) (w : World) (hs : SenAt P w) (hr : IsRow .u8 w a0 len0 cap0 z0) :
    Calls Tryd.prog 12 #[.slice a0 len0 cap0] w fun e w' => e = .returned (.bool true) ∧ Below w.heap.size w w' := by
  have hlen := (row_len hr).2
  have HS := Lib.hid hs
  clear hs
  by_cases hbig : 1048576 < len0
  · have t0 : decide (1048576 < (len0 : Int)) = true := by simp; omega
    go_enter Tryd.func12, Tryd.ntmps12
    go_wp2_with fail
    refine (bigA_any _ _ _ _ hlen).mono ?_
    rintro e w' ⟨rfl, rfl⟩
    go_wp2_with fail
    go_ret
    exact ⟨rfl, Below.refl _ _⟩
  · have t0 : decide (1048576 < (len0 : Int)) = false := by simp; omega
    have AT0 := Lib.hid (at_any hr (by omega) 0 (by omega))
    have AT1 := Lib.hid (at_any hr (by omega) 1 (by omega))
    clear hr
    go_enter Tryd.func12, Tryd.ntmps12
    go_wp2_with fail
    refine (bigA_any _ _ _ _ hlen).mono ?_
    rintro e w' ⟨rfl, rfl⟩
    rw [t0]
    go_wp2_with fail
    refine AT0.out.mono ?_
    rintro e w0 ⟨u, hu, rfl, rfl⟩
    obtain ⟨r, hr1, hr2⟩ : ∃ r : Nat, (u : Int) % 7 = (r : Int) ∧ r < 7 := ⟨u % 7, by omega, by omega⟩
    have hm : (u : Int).tmod 7 = (r : Int) := by rw [Int.tmod_eq_emod_of_nonneg (by omega)]; exact hr1
    obtain ⟨a, ha⟩ : ∃ a : Int, a = (r : Int) - 3 := ⟨_, rfl⟩
    have wa : IntKind.i64.wrap ((r : Int) - 3) = a := by rw [IntWalk.i64_in _ (by omega)]; exact ha.symm
    have HA := Lib.hid (show -3 ≤ a ∧ a ≤ 3 by omega)
    clear hr1 hr2 ha hu
    go_wp2_with fail
    clear hm wa
    refine AT1.out.mono ?_
    rintro e w0 ⟨u1, hu1, rfl, rfl⟩
    obtain ⟨r1, hr1, hr2⟩ : ∃ r : Nat, (u1 : Int) % 7 = (r : Int) ∧ r < 7 := ⟨u1 % 7, by omega, by omega⟩
    have hm : (u1 : Int).tmod 7 = (r1 : Int) := by rw [Int.tmod_eq_emod_of_nonneg (by omega)]; exact hr1
    obtain ⟨b, hb⟩ : ∃ a : Int, a = (r1 : Int) - 3 := ⟨_, rfl⟩
    have wa : IntKind.i64.wrap ((r1 : Int) - 3) = b := by rw [IntWalk.i64_in _ (by omega)]; exact hb.symm
    have HB := Lib.hid (show -3 ≤ b ∧ b ≤ 3 by omega)
    obtain ⟨tx, hx, fx, ty, hy, fy, tz, hz, fz, hsay⟩ := comSay_ex HA.out HB.out
    have K := Lib.hid hsay
    have BB := Lib.hid (Below.refl w.heap.size w)
    clear hsay hr1 hr2 hb hu1 hlen hbig t0
    go_wp2_with fail
    clear hm wa
    refine (comma_impl com2 _).mono ?_
    rintro en w1 ⟨rfl, hb⟩
    have bb := BB.out.trans (hb.mono BB.out.size)
    clear hb BB 
    have BB := Lib.hid bb
    clear bb 
    go_wp2_with fail
    refine (K.out.s1 _).mono ?_
    rintro en w2 ⟨rfl, hb⟩
    have bb := BB.out.trans (hb.mono BB.out.size)
    clear hb BB 
    have BB := Lib.hid bb
    clear bb 
    go_upto_region 6 with fail
    obtain ⟨V, hW⟩ : ∃ W, W = w2.alloc (.cells #[.int .i64 4, .int .i64 (-4), .int .i64 1, .int .i64 1] 25) := ⟨_, rfl⟩
    obtain ⟨mM, hm⟩ : ∃ k, k = w2.heap.size := ⟨_, rfl⟩
    have gM : Four mM 4 (-4) 1 1 V := by rw [hW, hm]; exact four_alloc
    have b2 := BB.out.alloc BB.out.size (.cells #[.int .i64 4, .int .i64 (-4), .int .i64 1, .int .i64 1] 25)
    rw [← hW] at b2 
    rw [← hm, ← hW]
    clear hm hW BB 
    have FM := Lib.hid gM
    have BB := Lib.hid b2
    clear b2 gM
    go_cut [7, 8] from 36 to 41 (fun s7 s8 wx => ∃ m : Nat, s7 = .pointer (some ⟨m, 0, none⟩) ∧ s8 = .bool true ∧ Below V.heap.size V wx ∧ Four m (-15) 8 1 1 wx)
    case first =>
      go_region_held3 (fun w' => w'.cell? ⟨mM, 0, none⟩ = some (.int .i64 4) ∧ w'.cell? ⟨mM, 1, none⟩ = some (.int .i64 (-4)) ∧ w'.cell? ⟨mM, 2, none⟩ = some (.int .i64 1) ∧ w'.cell? ⟨mM, 3, none⟩ = some (.int .i64 1)) (with_reducible first | exact four_cells (four_drewF FM.out) | exact four_cells (four_keep (by assumption) FM.out) | exact four_cells FM.out | exact four_cells (four_alF (four_drewF FM.out)) | exact four_cells (four_drewF (four_alF FM.out)) | exact four_cells (four_alF FM.out) | exact four_cells (four_alF (four_keep (by assumption) FM.out)) | exact four_cells (four_setC (by assumption) (by assumption) FM.out))
        (first
          | (go_at_call 46; refine (calls_zedB (W := V) (by with_reducible first | assumption | exact belowC_al (by assumption) | exact (Below.refl _ _).drew | exact (belowC_al (Below.refl _ _)).drew) (by with_reducible first | assumption | exact zedB_alloc (by assumption) | exact zedB_drew (zedB_alloc (Below.refl _ _))) (comma_impl com1 _)).mono ?_; rintro e1 w9 ⟨rfl, hb, hzb⟩; obtain ⟨zb, ⟨zm, z0, z1, z2, z3⟩, zf⟩ := id hzb)
          | (go_at_call 46; refine (calls_fromF (W := V) (by with_reducible first | assumption | exact (Below.refl _ _).drew) (comma_impl com1 _)).mono ?_; rintro e1 w9 ⟨rfl, hb⟩)
          | (go_at_call 19; refine (calls_zedB (W := V) (by with_reducible first | assumption | exact belowC_al (by assumption) | exact (Below.refl _ _).drew | exact (belowC_al (Below.refl _ _)).drew) (by with_reducible first | assumption | exact zedB_alloc (by assumption) | exact zedB_drew (zedB_alloc (Below.refl _ _))) (K.out.s2 _)).mono ?_; rintro e1 w9 ⟨rfl, hb, hzb⟩; obtain ⟨zb, ⟨zm, z0, z1, z2, z3⟩, zf⟩ := id hzb)
          | (go_at_call 19; refine (calls_fromF (W := V) (by with_reducible first | assumption | exact (Below.refl _ _).drew) (K.out.s2 _)).mono ?_; rintro e1 w9 ⟨rfl, hb⟩))
      all_goals
        go_wp2_with fail
        go_meet
        first
          | exact ⟨_, rfl, rfl, belowC_al hb, four_alloc⟩
          | exact ⟨_, rfl, rfl, hb.trans (belowC_set hzb.1), four_set hzb.2.1⟩
    case rest =>
      obtain ⟨mS, rfl, rfl, hb, gS⟩ := hcut
      obtain ⟨V1, hV1⟩ : ∃ W, W = wc := ⟨_, rfl⟩
      rw [← hV1] at hb gS ⊢
      have bb := BB.out.trans (hb.mono BB.out.size)
      clear BB FM hb hV1
      have BB := Lib.hid bb
      have FQ := Lib.hid gS
      clear bb gS
      go_wp2_with fail
      refine (comma_impl com1 _).mono ?_
      rintro en w3 ⟨rfl, hb⟩
      have bb := BB.out.trans (hb.mono BB.out.size)
      have gS := four_keep hb FQ.out
      clear hb BB FQ
      have BB := Lib.hid bb
      have FQ := Lib.hid gS
      clear bb gS
      go_wp2_with fail
      refine (K.out.s3 _).mono ?_
      rintro en w4 ⟨rfl, hb⟩
      have bb := BB.out.trans (hb.mono BB.out.size)
      have gS := four_keep hb FQ.out
      clear hb BB FQ
      have BB := Lib.hid bb
      have FQ := Lib.hid gS
      clear bb gS
      go_upto_region 8 with fail
      obtain ⟨V, hW⟩ : ∃ W, W = w4.alloc (.cells #[.int .i64 tx, .int .i64 hx, .int .i64 fx, .int .i64 1] 25) := ⟨_, rfl⟩
      obtain ⟨mX, hm⟩ : ∃ k, k = w4.heap.size := ⟨_, rfl⟩
      have gS := four_alF (o := (.cells #[.int .i64 tx, .int .i64 hx, .int .i64 fx, .int .i64 1] 25)) FQ.out
      have gX : Four mX tx hx fx 1 V := by rw [hW, hm]; exact four_alloc
      have b2 := BB.out.alloc BB.out.size (.cells #[.int .i64 tx, .int .i64 hx, .int .i64 fx, .int .i64 1] 25)
      rw [← hW] at b2 gS
      rw [← hm, ← hW]
      clear hm hW BB FQ
      have FQ := Lib.hid gS
      have FX := Lib.hid gX
      have BB := Lib.hid b2
      clear b2 gS gX
      go_wp2_with fail
      refine (comma_impl com2 _).mono ?_
      rintro en w5 ⟨rfl, hb⟩
      have bb := BB.out.trans (hb.mono BB.out.size)
      have gS := four_keep hb FQ.out
      have gX := four_keep hb FX.out
      clear hb BB FQ FX
      have BB := Lib.hid bb
      have FQ := Lib.hid gS
      have FX := Lib.hid gX
      clear bb gS gX
      go_wp2_with fail
      refine (K.out.s4 _).mono ?_
      rintro en w6 ⟨rfl, hb⟩
      have bb := BB.out.trans (hb.mono BB.out.size)
      have gS := four_keep hb FQ.out
      have gX := four_keep hb FX.out
      clear hb BB FQ FX
      have BB := Lib.hid bb
      have FQ := Lib.hid gS
      have FX := Lib.hid gX
      clear bb gS gX
      go_upto_region 9 with fail
      obtain ⟨V, hW⟩ : ∃ W, W = w6.alloc (.cells #[.int .i64 ty, .int .i64 hy, .int .i64 fy, .int .i64 1] 25) := ⟨_, rfl⟩
      obtain ⟨mY, hm⟩ : ∃ k, k = w6.heap.size := ⟨_, rfl⟩
      have gS := four_alF (o := (.cells #[.int .i64 ty, .int .i64 hy, .int .i64 fy, .int .i64 1] 25)) FQ.out
      have gX := four_alF (o := (.cells #[.int .i64 ty, .int .i64 hy, .int .i64 fy, .int .i64 1] 25)) FX.out
      have gY : Four mY ty hy fy 1 V := by rw [hW, hm]; exact four_alloc
      have b2 := BB.out.alloc BB.out.size (.cells #[.int .i64 ty, .int .i64 hy, .int .i64 fy, .int .i64 1] 25)
      rw [← hW] at b2 gS gX
      rw [← hm, ← hW]
      clear hm hW BB FQ FX
      have FQ := Lib.hid gS
      have FX := Lib.hid gX
      have FY := Lib.hid gY
      have BB := Lib.hid b2
      clear b2 gS gX gY
      obtain ⟨_, X0, X1, X2, X3⟩ := FX.out
      obtain ⟨_, Y0, Y1, Y2, Y3⟩ := FY.out
      go_wp2_with fail
      refine (K.out.s5 _).mono ?_
      rintro en w7 ⟨rfl, hb⟩
      clear X0 X1 X2 X3 Y0 Y1 Y2 Y3
      have bb := BB.out.trans (hb.mono BB.out.size)
      have gS := four_keep hb FQ.out
      have gX := four_keep hb FX.out
      have gY := four_keep hb FY.out
      clear hb BB FQ FX FY
      have BB := Lib.hid bb
      have FQ := Lib.hid gS
      have FX := Lib.hid gX
      have FY := Lib.hid gY
      clear bb gS gX gY
      go_upto_region 10 with fail
      obtain ⟨V, hW⟩ : ∃ W, W = w7.alloc (.cells #[.int .i64 tz, .int .i64 hz, .int .i64 fz, .int .i64 1] 25) := ⟨_, rfl⟩
      obtain ⟨mZ, hm⟩ : ∃ k, k = w7.heap.size := ⟨_, rfl⟩
      have gS := four_alF (o := (.cells #[.int .i64 tz, .int .i64 hz, .int .i64 fz, .int .i64 1] 25)) FQ.out
      have gX := four_alF (o := (.cells #[.int .i64 tz, .int .i64 hz, .int .i64 fz, .int .i64 1] 25)) FX.out
      have gY := four_alF (o := (.cells #[.int .i64 tz, .int .i64 hz, .int .i64 fz, .int .i64 1] 25)) FY.out
      have gZ : Four mZ tz hz fz 1 V := by rw [hW, hm]; exact four_alloc
      have b2 := BB.out.alloc BB.out.size (.cells #[.int .i64 tz, .int .i64 hz, .int .i64 fz, .int .i64 1] 25)
      rw [← hW] at b2 gS gX gY
      rw [← hm, ← hW]
      clear hm hW BB FQ FX FY
      have FQ := Lib.hid gS
      have FX := Lib.hid gX
      have FY := Lib.hid gY
      have FZ := Lib.hid gZ
      have BB := Lib.hid b2
      clear b2 gS gX gY gZ
      obtain ⟨_, Z0, Z1, Z2, Z3⟩ := FZ.out
      go_wp2_with fail
      refine (K.out.s6 _).mono ?_
      rintro en w8 ⟨rfl, hb⟩
      clear Z0 Z1 Z2 Z3
      have bb := BB.out.trans (hb.mono BB.out.size)
      have gS := four_keep hb FQ.out
      have gX := four_keep hb FX.out
      have gY := four_keep hb FY.out
      have gZ := four_keep hb FZ.out
      clear hb BB FQ FX FY FZ
      have BB := Lib.hid bb
      have FQ := Lib.hid gS
      have FX := Lib.hid gX
      have FY := Lib.hid gY
      have FZ := Lib.hid gZ
      clear bb gS gX gY gZ
      clear FX FY FZ
      go_wp2_with fail
      go_loopw [18] (fun k wr => ∃ j : Nat, 1 ≤ j ∧ j ≤ 7 ∧ k = .int .i64 (j : Int) ∧ Hid (Four mS (-15) 8 1 1 wr) ∧ Hid (Below w.heap.size w wr)) (fun k _ => (7 - intOf k).toNat)
      case atStart => exact ⟨1, by omega, by omega, rfl, FQ, BB⟩
      case round =>
        obtain ⟨j, j1, j2, rfl, GS, GB⟩ := hrel
        clear FQ BB
        by_cases hlt : (j : Int) ≤ 6
        · obtain ⟨ca, cb, cc, cx, cl, CA, CB⟩ := com_six (j := j) j1 (by omega)
          go_wp2_with fail
          refine (comma_impl CA _).mono ?_
          rintro en v1 ⟨rfl, hb1⟩
          have B1 := Lib.hid (GB.out.trans (hb1.mono GB.out.size))
          have S1 := Lib.hid (four_keep hb1 GS.out)
          clear hb1 GB GS
          go_wp2_with fail
          refine (isComma_impl P _ _ _ _ _ (senAt_below HS.out B1.out)).mono ?_
          rintro en v2 ⟨rfl, hb1⟩
          rw [CB]
          have B2 := Lib.hid (B1.out.trans (hb1.mono B1.out.size))
          have S2 := Lib.hid (four_keep hb1 S1.out)
          clear hb1 B1 S1
          go_wp2_with fail
          refine (comName_impl CA _).mono ?_
          rintro en v3 ⟨rfl, hb1⟩
          have B3 := Lib.hid (B2.out.trans (hb1.mono B2.out.size))
          have S3 := Lib.hid (four_keep hb1 S2.out)
          clear hb1 B2 S2
          go_wp2_with fail
          go_roundw
          case rel => exact ⟨j + 1, by omega, by omega, by go_num, S3, B3⟩
          case measure => simp [intOf]; omega
        · obtain rfl : j = 7 := by omega
          clear hlt j1 j2
          go_wp2_with fail
          refine (commas_impl P 4 _ (senAt_below HS.out GB.out)).mono ?_
          rintro en v1 ⟨⟨v, rfl, ho⟩, hb1⟩
          have ho2 : v1.ownsRow wr.heap.size 25 4 v 6 (ivCs (comTo 4 9)) := by
            have h4 : comList 4 = comTo 4 9 := comList_yes (L := 4) (by omega)
            have h5 := ho
            unfold OwnC at h5
            rw [h4, com4_len] at h5
            exact h5
          obtain ⟨g, cap, rfl, _, hgl⟩ := own4_pos ho2 (by omega)
          have B1 := Lib.hid (GB.out.trans (hb1.mono GB.out.size))
          have S1 := Lib.hid (four_keep hb1 GS.out)
          have RC : Hid (RowC g v1) := Lib.hid ⟨hgl, fun j hj => own_iv ho2 com4_len.symm j hj⟩
          clear hb1 ho ho2 hgl GB GS
          go_wp2_with fail
          go_loopw [20] (fun k wr => ∃ j : Nat, j ≤ 6 ∧ k = .int .i64 (j : Int) ∧ Hid (RowC g wr) ∧ Hid (Four mS (-15) 8 1 1 wr) ∧ Hid (Below w.heap.size w wr)) (fun k _ => (6 - intOf k).toNat)
          case atStart => exact ⟨0, by omega, rfl, RC, S1, B1⟩
          case round =>
            obtain ⟨j, j1, rfl, RG, GS, GB⟩ := hrel
            clear RC S1 B1
            by_cases hlt : (j : Int) < 6
            · obtain ⟨x, hx⟩ : ∃ x, x = ivAt (comTo 4 9) j := ⟨_, rfl⟩
              have hj : j < 6 := by omega
              have CQ : ComC P x.two x.three x.five x.root := by rw [hx]; exact com4_is j hj
              have HS1 := Lib.hid (senAt_below HS.out GB.out)
              have HX := Lib.hid hx
              clear hx
              go_upto_region 20 with fail
              obtain ⟨V2, hV2⟩ : ∃ y, y = wr := ⟨_, rfl⟩
              rw [← hV2] at RG GS GB HS1 ⊢
              clear hV2
              rcases (show j = 0 ∨ ∃ p, j = p + 1 from by cases j with | zero => exact .inl rfl | succ p => exact .inr ⟨p, rfl⟩) with h0 | ⟨p, hp⟩
              · have TC := Lib.hid (rowC_two RG.out hj hj HX.out HX.out)
                have t5 : ¬ (0 : Int) < (j : Int) := by omega
                have t6 : decide ((j : Int) > 0) = false := decide_eq_false (by omega)
                clear h0
                refine wp_region_held_drew (S := (fun w' => w'.cell? ⟨g, j * 4, none⟩ = some (.int .i64 x.two) ∧ w'.cell? ⟨g, j * 4 + 1, none⟩ = some (.int .i64 x.three) ∧ w'.cell? ⟨g, j * 4 + 2, none⟩ = some (.int .i64 x.five) ∧ w'.cell? ⟨g, j * 4 + 3, none⟩ = some (.int .i64 x.root) ∧ w'.cell? ⟨g, j * 4 + 1, none⟩ = some (.int .i64 x.three) ∧ w'.cell? ⟨g, j * 4 + 2, none⟩ = some (.int .i64 x.five))) (by kernel_rfl) ?_ (fun hHeld => ?_)
                · exact (twoC_drew TC.out).2
                refine takeD (i := 0) (d := (some 86)) (v := (.slice (some ⟨g, 0, none⟩) 6 cap)) rfl rfl (by kernel_rfl) (by kernel_rfl) (by kernel_rfl) (fun _ _ _ h => h) (Or.inl ⟨by kernel_rfl, ?_⟩) (by assumption) ?_
                · intro wS hSw
                  (try dsimp only at hSw)
                  go_simp
                (try simp only [Act.put]); (try simp only [List.setIfInBounds_toArray]); (try simp only [List.set_cons_succ]); (try simp only [List.set_cons_zero])
                refine takeD (i := 1) (d := (some 87)) (v := (.int .i64 (j : Int))) rfl rfl (by kernel_rfl) (by kernel_rfl) (by kernel_rfl) (fun _ _ _ h => h) (Or.inl ⟨by kernel_rfl, ?_⟩) (by assumption) ?_
                · intro wS hSw
                  (try dsimp only at hSw)
                  go_simp
                (try simp only [Act.put]); (try simp only [List.setIfInBounds_toArray]); (try simp only [List.set_cons_succ]); (try simp only [List.set_cons_zero])
                refine takeD (i := 2) (d := (some 88)) (v := (.pointer (some ⟨g, j * 4, none⟩))) rfl rfl (by kernel_rfl) (by kernel_rfl) (by kernel_rfl) (fun _ _ _ h => h) (Or.inl ⟨by kernel_rfl, ?_⟩) (by assumption) ?_
                · intro wS hSw
                  (try dsimp only at hSw)
                  go_simp
                (try simp only [Act.put]); (try simp only [List.setIfInBounds_toArray]); (try simp only [List.set_cons_succ]); (try simp only [List.set_cons_zero])
                refine takeD (i := 3) (d := (some 89)) (v := (ivV x.two x.three x.five x.root)) rfl rfl (by kernel_rfl) (by kernel_rfl) (by kernel_rfl) (fun _ _ _ h => h) (Or.inl ⟨by kernel_rfl, ?_⟩) (by assumption) ?_
                · intro wS hSw
                  (try dsimp only at hSw)
                  go_simp
                (try simp only [Act.put]); (try simp only [List.setIfInBounds_toArray]); (try simp only [List.set_cons_succ]); (try simp only [List.set_cons_zero])
                refine wpAnyH_ready (rs := [4]) (by kernel_rfl) (by simp) ?_
                refine AllReadyH.cons rfl (fun K hK => ?_) AllReadyH.nil
                go_simp
                refine (calls_fromF (W := V2) (by with_reducible first | assumption | exact (Below.refl _ _).drew) (comC_pick CQ _ (senAt_below HS1.out (by with_reducible first | assumption | exact (Below.refl _ _).drew)))).mono ?_
                rintro e1 w1 ⟨rfl, hb⟩
                go_wp2_with fail
                refine hK.out _ _ ?_ (fun hHeld => ?_)
                · exact (twoC_keep hb TC.out).2
                clear hK K
                (try simp only [Act.put]); (try simp only [List.setIfInBounds_toArray]); (try simp only [List.set_cons_succ]); (try simp only [List.set_cons_zero])
                refine takeD (i := 5) (d := (some 91)) (v := (.bool false)) rfl rfl (by kernel_rfl) (by kernel_rfl) (by kernel_rfl) (fun _ _ _ h => h) (Or.inl ⟨by kernel_rfl, ?_⟩) (by assumption) ?_
                · intro wS hSw
                  (try dsimp only at hSw)
                  go_simp
                (try simp only [Act.put]); (try simp only [List.setIfInBounds_toArray]); (try simp only [List.set_cons_succ]); (try simp only [List.set_cons_zero])
                refine takeD (i := 6) (d := (some 92)) (v := (.bool false)) rfl rfl (by kernel_rfl) (by kernel_rfl) (by kernel_rfl) (fun _ _ _ h => h) (Or.inl ⟨by kernel_rfl, ?_⟩) (by assumption) ?_
                · intro wS hSw
                  (try dsimp only at hSw)
                  go_simp
                (try simp only [Act.put]); (try simp only [List.setIfInBounds_toArray]); (try simp only [List.set_cons_succ]); (try simp only [List.set_cons_zero])
                refine takeD (i := 7) (d := (some 93)) (v := (.int .i64 (j : Int))) rfl rfl (by kernel_rfl) (by kernel_rfl) (by kernel_rfl) (fun _ _ _ h => h) (Or.inl ⟨by kernel_rfl, ?_⟩) (by assumption) ?_
                · intro wS hSw
                  (try dsimp only at hSw)
                  go_simp
                (try simp only [Act.put]); (try simp only [List.setIfInBounds_toArray]); (try simp only [List.set_cons_succ]); (try simp only [List.set_cons_zero])
                refine takeD (i := 8) (d := (some 94)) (v := (.bool false)) rfl rfl (by kernel_rfl) (by kernel_rfl) (by kernel_rfl) (fun _ _ _ h => h) (Or.inl ⟨by kernel_rfl, ?_⟩) (by assumption) ?_
                · intro wS hSw
                  (try dsimp only at hSw)
                  go_simp
                  omega
                (try simp only [Act.put]); (try simp only [List.setIfInBounds_toArray]); (try simp only [List.set_cons_succ]); (try simp only [List.set_cons_zero])
                refine takeD (i := 9) (d := (some 95)) (v := (.bool false)) rfl rfl (by kernel_rfl) (by kernel_rfl) (by kernel_rfl) (fun _ _ _ h => h) (Or.inl ⟨by kernel_rfl, ?_⟩) (by assumption) ?_
                · intro wS hSw
                  (try dsimp only at hSw)
                  go_simp
                (try simp only [Act.put]); (try simp only [List.setIfInBounds_toArray]); (try simp only [List.set_cons_succ]); (try simp only [List.set_cons_zero])
                refine takeD (i := 10) (d := (some 96)) (v := undef) rfl rfl (by kernel_rfl) (by kernel_rfl) (by kernel_rfl) (fun _ _ _ h => h) (Or.inr ⟨by kernel_rfl, rfl⟩) (by assumption) ?_
                (try simp only [Act.put]); (try simp only [List.setIfInBounds_toArray]); (try simp only [List.set_cons_succ]); (try simp only [List.set_cons_zero])
                refine takeD (i := 11) (d := (some 97)) (v := undef) rfl rfl (by kernel_rfl) (by kernel_rfl) (by kernel_rfl) (fun _ _ _ h => h) (Or.inr ⟨by kernel_rfl, rfl⟩) (by assumption) ?_
                (try simp only [Act.put]); (try simp only [List.setIfInBounds_toArray]); (try simp only [List.set_cons_succ]); (try simp only [List.set_cons_zero])
                refine takeD (i := 12) (d := (some 98)) (v := undef) rfl rfl (by kernel_rfl) (by kernel_rfl) (by kernel_rfl) (fun _ _ _ h => h) (Or.inr ⟨by kernel_rfl, rfl⟩) (by assumption) ?_
                (try simp only [Act.put]); (try simp only [List.setIfInBounds_toArray]); (try simp only [List.set_cons_succ]); (try simp only [List.set_cons_zero])
                refine takeD (i := 13) (d := (some 99)) (v := undef) rfl rfl (by kernel_rfl) (by kernel_rfl) (by kernel_rfl) (fun _ _ _ h => h) (Or.inr ⟨by kernel_rfl, rfl⟩) (by assumption) ?_
                (try simp only [Act.put]); (try simp only [List.setIfInBounds_toArray]); (try simp only [List.set_cons_succ]); (try simp only [List.set_cons_zero])
                refine takeD (i := 14) (d := (some 100)) (v := undef) rfl rfl (by kernel_rfl) (by kernel_rfl) (by kernel_rfl) (fun _ _ _ h => h) (Or.inr ⟨by kernel_rfl, rfl⟩) (by assumption) ?_
                (try simp only [Act.put]); (try simp only [List.setIfInBounds_toArray]); (try simp only [List.set_cons_succ]); (try simp only [List.set_cons_zero])
                refine takeD (i := 15) (d := (some 101)) (v := undef) rfl rfl (by kernel_rfl) (by kernel_rfl) (by kernel_rfl) (fun _ _ _ h => h) (Or.inr ⟨by kernel_rfl, rfl⟩) (by assumption) ?_
                (try simp only [Act.put]); (try simp only [List.setIfInBounds_toArray]); (try simp only [List.set_cons_succ]); (try simp only [List.set_cons_zero])
                refine takeD (i := 16) (d := (some 102)) (v := undef) rfl rfl (by kernel_rfl) (by kernel_rfl) (by kernel_rfl) (fun _ _ _ h => h) (Or.inr ⟨by kernel_rfl, rfl⟩) (by assumption) ?_
                (try simp only [Act.put]); (try simp only [List.setIfInBounds_toArray]); (try simp only [List.set_cons_succ]); (try simp only [List.set_cons_zero])
                refine takeD (i := 17) (d := (some 103)) (v := undef) rfl rfl (by kernel_rfl) (by kernel_rfl) (by kernel_rfl) (fun _ _ _ h => h) (Or.inr ⟨by kernel_rfl, rfl⟩) (by assumption) ?_
                (try simp only [Act.put]); (try simp only [List.setIfInBounds_toArray]); (try simp only [List.set_cons_succ]); (try simp only [List.set_cons_zero])
                refine takeD (i := 18) (d := (some 104)) (v := undef) rfl rfl (by kernel_rfl) (by kernel_rfl) (by kernel_rfl) (fun _ _ _ h => h) (Or.inr ⟨by kernel_rfl, rfl⟩) (by assumption) ?_
                (try simp only [Act.put]); (try simp only [List.setIfInBounds_toArray]); (try simp only [List.set_cons_succ]); (try simp only [List.set_cons_zero])
                refine takeD (i := 19) (d := (some 105)) (v := undef) rfl rfl (by kernel_rfl) (by kernel_rfl) (by kernel_rfl) (fun _ _ _ h => h) (Or.inr ⟨by kernel_rfl, rfl⟩) (by assumption) ?_
                (try simp only [Act.put]); (try simp only [List.setIfInBounds_toArray]); (try simp only [List.set_cons_succ]); (try simp only [List.set_cons_zero])
                refine takeD (i := 20) (d := (some 106)) (v := undef) rfl rfl (by kernel_rfl) (by kernel_rfl) (by kernel_rfl) (fun _ _ _ h => h) (Or.inr ⟨by kernel_rfl, rfl⟩) (by assumption) ?_
                (try simp only [Act.put]); (try simp only [List.setIfInBounds_toArray]); (try simp only [List.set_cons_succ]); (try simp only [List.set_cons_zero])
                refine takeD (i := 21) (d := (some 107)) (v := undef) rfl rfl (by kernel_rfl) (by kernel_rfl) (by kernel_rfl) (fun _ _ _ h => h) (Or.inr ⟨by kernel_rfl, rfl⟩) (by assumption) ?_
                (try simp only [Act.put]); (try simp only [List.setIfInBounds_toArray]); (try simp only [List.set_cons_succ]); (try simp only [List.set_cons_zero])
                refine takeD (i := 22) (d := (some 108)) (v := undef) rfl rfl (by kernel_rfl) (by kernel_rfl) (by kernel_rfl) (fun _ _ _ h => h) (Or.inr ⟨by kernel_rfl, rfl⟩) (by assumption) ?_
                (try simp only [Act.put]); (try simp only [List.setIfInBounds_toArray]); (try simp only [List.set_cons_succ]); (try simp only [List.set_cons_zero])
                refine takeD (i := 23) (d := (some 109)) (v := undef) rfl rfl (by kernel_rfl) (by kernel_rfl) (by kernel_rfl) (fun _ _ _ h => h) (Or.inr ⟨by kernel_rfl, rfl⟩) (by assumption) ?_
                (try simp only [Act.put]); (try simp only [List.setIfInBounds_toArray]); (try simp only [List.set_cons_succ]); (try simp only [List.set_cons_zero])
                refine takeD (i := 24) (d := (some 110)) (v := undef) rfl rfl (by kernel_rfl) (by kernel_rfl) (by kernel_rfl) (fun _ _ _ h => h) (Or.inr ⟨by kernel_rfl, rfl⟩) (by assumption) ?_
                (try simp only [Act.put]); (try simp only [List.setIfInBounds_toArray]); (try simp only [List.set_cons_succ]); (try simp only [List.set_cons_zero])
                refine takeD (i := 25) (d := (some 111)) (v := undef) rfl rfl (by kernel_rfl) (by kernel_rfl) (by kernel_rfl) (fun _ _ _ h => h) (Or.inr ⟨by kernel_rfl, rfl⟩) (by assumption) ?_
                (try simp only [Act.put]); (try simp only [List.setIfInBounds_toArray]); (try simp only [List.set_cons_succ]); (try simp only [List.set_cons_zero])
                refine takeD (i := 26) (d := (some 112)) (v := undef) rfl rfl (by kernel_rfl) (by kernel_rfl) (by kernel_rfl) (fun _ _ _ h => h) (Or.inr ⟨by kernel_rfl, rfl⟩) (by assumption) ?_
                (try simp only [Act.put]); (try simp only [List.setIfInBounds_toArray]); (try simp only [List.set_cons_succ]); (try simp only [List.set_cons_zero])
                refine takeD (i := 27) (d := (some 113)) (v := undef) rfl rfl (by kernel_rfl) (by kernel_rfl) (by kernel_rfl) (fun _ _ _ h => h) (Or.inr ⟨by kernel_rfl, rfl⟩) (by assumption) ?_
                (try simp only [Act.put]); (try simp only [List.setIfInBounds_toArray]); (try simp only [List.set_cons_succ]); (try simp only [List.set_cons_zero])
                refine takeD (i := 28) (d := (some 114)) (v := undef) rfl rfl (by kernel_rfl) (by kernel_rfl) (by kernel_rfl) (fun _ _ _ h => h) (Or.inr ⟨by kernel_rfl, rfl⟩) (by assumption) ?_
                (try simp only [Act.put]); (try simp only [List.setIfInBounds_toArray]); (try simp only [List.set_cons_succ]); (try simp only [List.set_cons_zero])
                refine takeD (i := 29) (d := (some 115)) (v := undef) rfl rfl (by kernel_rfl) (by kernel_rfl) (by kernel_rfl) (fun _ _ _ h => h) (Or.inr ⟨by kernel_rfl, rfl⟩) (by assumption) ?_
                (try simp only [Act.put]); (try simp only [List.setIfInBounds_toArray]); (try simp only [List.set_cons_succ]); (try simp only [List.set_cons_zero])
                refine takeD (i := 30) (d := (some 116)) (v := undef) rfl rfl (by kernel_rfl) (by kernel_rfl) (by kernel_rfl) (fun _ _ _ h => h) (Or.inr ⟨by kernel_rfl, rfl⟩) (by assumption) ?_
                (try simp only [Act.put]); (try simp only [List.setIfInBounds_toArray]); (try simp only [List.set_cons_succ]); (try simp only [List.set_cons_zero])
                refine takeD (i := 31) (d := (some 117)) (v := undef) rfl rfl (by kernel_rfl) (by kernel_rfl) (by kernel_rfl) (fun _ _ _ h => h) (Or.inr ⟨by kernel_rfl, rfl⟩) (by assumption) ?_
                (try simp only [Act.put]); (try simp only [List.setIfInBounds_toArray]); (try simp only [List.set_cons_succ]); (try simp only [List.set_cons_zero])
                refine takeD (i := 32) (d := (some 118)) (v := undef) rfl rfl (by kernel_rfl) (by kernel_rfl) (by kernel_rfl) (fun _ _ _ h => h) (Or.inr ⟨by kernel_rfl, rfl⟩) (by assumption) ?_
                (try simp only [Act.put]); (try simp only [List.setIfInBounds_toArray]); (try simp only [List.set_cons_succ]); (try simp only [List.set_cons_zero])
                refine takeD (i := 33) (d := (some 119)) (v := undef) rfl rfl (by kernel_rfl) (by kernel_rfl) (by kernel_rfl) (fun _ _ _ h => h) (Or.inr ⟨by kernel_rfl, rfl⟩) (by assumption) ?_
                (try simp only [Act.put]); (try simp only [List.setIfInBounds_toArray]); (try simp only [List.set_cons_succ]); (try simp only [List.set_cons_zero])
                refine takeD (i := 34) (d := (some 120)) (v := undef) rfl rfl (by kernel_rfl) (by kernel_rfl) (by kernel_rfl) (fun _ _ _ h => h) (Or.inr ⟨by kernel_rfl, rfl⟩) (by assumption) ?_
                (try simp only [Act.put]); (try simp only [List.setIfInBounds_toArray]); (try simp only [List.set_cons_succ]); (try simp only [List.set_cons_zero])
                refine takeD (i := 35) (d := (some 121)) (v := undef) rfl rfl (by kernel_rfl) (by kernel_rfl) (by kernel_rfl) (fun _ _ _ h => h) (Or.inr ⟨by kernel_rfl, rfl⟩) (by assumption) ?_
                (try simp only [Act.put]); (try simp only [List.setIfInBounds_toArray]); (try simp only [List.set_cons_succ]); (try simp only [List.set_cons_zero])
                refine takeD (i := 36) (d := (some 122)) (v := undef) rfl rfl (by kernel_rfl) (by kernel_rfl) (by kernel_rfl) (fun _ _ _ h => h) (Or.inr ⟨by kernel_rfl, rfl⟩) (by assumption) ?_
                (try simp only [Act.put]); (try simp only [List.setIfInBounds_toArray]); (try simp only [List.set_cons_succ]); (try simp only [List.set_cons_zero])
                refine takeD (i := 37) (d := (some 123)) (v := undef) rfl rfl (by kernel_rfl) (by kernel_rfl) (by kernel_rfl) (fun _ _ _ h => h) (Or.inr ⟨by kernel_rfl, rfl⟩) (by assumption) ?_
                (try simp only [Act.put]); (try simp only [List.setIfInBounds_toArray]); (try simp only [List.set_cons_succ]); (try simp only [List.set_cons_zero])
                refine takeD (i := 38) (d := (some 124)) (v := undef) rfl rfl (by kernel_rfl) (by kernel_rfl) (by kernel_rfl) (fun _ _ _ h => h) (Or.inr ⟨by kernel_rfl, rfl⟩) (by assumption) ?_
                (try simp only [Act.put]); (try simp only [List.setIfInBounds_toArray]); (try simp only [List.set_cons_succ]); (try simp only [List.set_cons_zero])
                refine takeD (i := 39) (d := (some 125)) (v := undef) rfl rfl (by kernel_rfl) (by kernel_rfl) (by kernel_rfl) (fun _ _ _ h => h) (Or.inr ⟨by kernel_rfl, rfl⟩) (by assumption) ?_
                (try simp only [Act.put]); (try simp only [List.setIfInBounds_toArray]); (try simp only [List.set_cons_succ]); (try simp only [List.set_cons_zero])
                refine takeD (i := 40) (d := (some 126)) (v := undef) rfl rfl (by kernel_rfl) (by kernel_rfl) (by kernel_rfl) (fun _ _ _ h => h) (Or.inr ⟨by kernel_rfl, rfl⟩) (by assumption) ?_
                (try simp only [Act.put]); (try simp only [List.setIfInBounds_toArray]); (try simp only [List.set_cons_succ]); (try simp only [List.set_cons_zero])
                refine takeD (i := 41) (d := (some 127)) (v := undef) rfl rfl (by kernel_rfl) (by kernel_rfl) (by kernel_rfl) (fun _ _ _ h => h) (Or.inr ⟨by kernel_rfl, rfl⟩) (by assumption) ?_
                (try simp only [Act.put]); (try simp only [List.setIfInBounds_toArray]); (try simp only [List.set_cons_succ]); (try simp only [List.set_cons_zero])
                refine takeD (i := 42) (d := (some 128)) (v := undef) rfl rfl (by kernel_rfl) (by kernel_rfl) (by kernel_rfl) (fun _ _ _ h => h) (Or.inr ⟨by kernel_rfl, rfl⟩) (by assumption) ?_
                (try simp only [Act.put]); (try simp only [List.setIfInBounds_toArray]); (try simp only [List.set_cons_succ]); (try simp only [List.set_cons_zero])
                refine takeD (i := 43) (d := (some 129)) (v := undef) rfl rfl (by kernel_rfl) (by kernel_rfl) (by kernel_rfl) (fun _ _ _ h => h) (Or.inr ⟨by kernel_rfl, rfl⟩) (by assumption) ?_
                (try simp only [Act.put]); (try simp only [List.setIfInBounds_toArray]); (try simp only [List.set_cons_succ]); (try simp only [List.set_cons_zero])
                refine takeD (i := 44) (d := (some 130)) (v := undef) rfl rfl (by kernel_rfl) (by kernel_rfl) (by kernel_rfl) (fun _ _ _ h => h) (Or.inr ⟨by kernel_rfl, rfl⟩) (by assumption) ?_
                (try simp only [Act.put]); (try simp only [List.setIfInBounds_toArray]); (try simp only [List.set_cons_succ]); (try simp only [List.set_cons_zero])
                refine takeD (i := 45) (d := (some 131)) (v := undef) rfl rfl (by kernel_rfl) (by kernel_rfl) (by kernel_rfl) (fun _ _ _ h => h) (Or.inr ⟨by kernel_rfl, rfl⟩) (by assumption) ?_
                (try simp only [Act.put]); (try simp only [List.setIfInBounds_toArray]); (try simp only [List.set_cons_succ]); (try simp only [List.set_cons_zero])
                refine takeD (i := 46) (d := (some 132)) (v := undef) rfl rfl (by kernel_rfl) (by kernel_rfl) (by kernel_rfl) (fun _ _ _ h => h) (Or.inr ⟨by kernel_rfl, rfl⟩) (by assumption) ?_
                (try simp only [Act.put]); (try simp only [List.setIfInBounds_toArray]); (try simp only [List.set_cons_succ]); (try simp only [List.set_cons_zero])
                refine takeD (i := 47) (d := (some 133)) (v := undef) rfl rfl (by kernel_rfl) (by kernel_rfl) (by kernel_rfl) (fun _ _ _ h => h) (Or.inr ⟨by kernel_rfl, rfl⟩) (by assumption) ?_
                (try simp only [Act.put]); (try simp only [List.setIfInBounds_toArray]); (try simp only [List.set_cons_succ]); (try simp only [List.set_cons_zero])
                refine takeD (i := 48) (d := (some 134)) (v := undef) rfl rfl (by kernel_rfl) (by kernel_rfl) (by kernel_rfl) (fun _ _ _ h => h) (Or.inr ⟨by kernel_rfl, rfl⟩) (by assumption) ?_
                (try simp only [Act.put]); (try simp only [List.setIfInBounds_toArray]); (try simp only [List.set_cons_succ]); (try simp only [List.set_cons_zero])
                refine takeD (i := 49) (d := (some 135)) (v := undef) rfl rfl (by kernel_rfl) (by kernel_rfl) (by kernel_rfl) (fun _ _ _ h => h) (Or.inr ⟨by kernel_rfl, rfl⟩) (by assumption) ?_
                (try simp only [Act.put]); (try simp only [List.setIfInBounds_toArray]); (try simp only [List.set_cons_succ]); (try simp only [List.set_cons_zero])
                refine takeD (i := 50) (d := (some 136)) (v := (.bool false)) rfl rfl (by kernel_rfl) (by kernel_rfl) (by kernel_rfl) (fun _ _ _ h => h) (Or.inl ⟨by kernel_rfl, ?_⟩) (by assumption) ?_
                · intro wS hSw
                  (try dsimp only at hSw)
                  go_simp
                (try simp only [Act.put]); (try simp only [List.setIfInBounds_toArray]); (try simp only [List.set_cons_succ]); (try simp only [List.set_cons_zero])
                refine takeD (i := 51) (d := (some 137)) (v := (.bool false)) rfl rfl (by kernel_rfl) (by kernel_rfl) (by kernel_rfl) (fun _ _ _ h => h) (Or.inl ⟨by kernel_rfl, ?_⟩) (by assumption) ?_
                · intro wS hSw
                  (try dsimp only at hSw)
                  go_simp
                (try simp only [Act.put]); (try simp only [List.setIfInBounds_toArray]); (try simp only [List.set_cons_succ]); (try simp only [List.set_cons_zero])
                refine wpAnyH_done (by kernel_rfl) ?_ _
                go_wp2_with fail
                have RG2 := Lib.hid (rowC_keep hb RG.out)
                have GS2 := Lib.hid (four_keep hb GS.out)
                have GB2 := Lib.hid (GB.out.trans (hb.mono GB.out.size))
                go_roundw
                case rel => exact ⟨j + 1, by omega, by go_num, RG2, GS2, GB2⟩
                case measure => simp [intOf]; omega
              · obtain ⟨y, hy⟩ : ∃ y, y = ivAt (comTo 4 9) p := ⟨_, rfl⟩
                have TC := Lib.hid (rowC_two RG.out hj (by omega) HX.out hy)
                have t5 : (0 : Int) < (j : Int) := by omega
                have t6 : decide ((j : Int) > 0) = true := decide_eq_true (by omega)
                have v1 : IntKind.i64.wrap ((j : Int) - 1) = (p : Int) := by rw [IntWalk.i64_in _ (by omega)]; omega
                have t7 : (p : Int) < 6 := by omega
                have lx := com4_lex p (by omega)
                rw [← hp, ← HX.out, ← hy] at lx
                unfold lexB at lx
                simp only [Bool.or_eq_true, Bool.and_eq_true, decide_eq_true_eq] at lx
                rcases lx with lx | ⟨lx, ly⟩
                · have e1 : ¬ x.three < y.three := by omega
                  have e2 : decide (x.three < y.three) = false := decide_eq_false e1
                  have e3 : (x.three == y.three) = false := by rw [beq_eq_false_iff_ne]; omega
                  clear lx hp hy
                  refine wp_region_held_drew (S := (fun w' => w'.cell? ⟨g, j * 4, none⟩ = some (.int .i64 x.two) ∧ w'.cell? ⟨g, j * 4 + 1, none⟩ = some (.int .i64 x.three) ∧ w'.cell? ⟨g, j * 4 + 2, none⟩ = some (.int .i64 x.five) ∧ w'.cell? ⟨g, j * 4 + 3, none⟩ = some (.int .i64 x.root) ∧ w'.cell? ⟨g, p * 4 + 1, none⟩ = some (.int .i64 y.three) ∧ w'.cell? ⟨g, p * 4 + 2, none⟩ = some (.int .i64 y.five))) (by kernel_rfl) ?_ (fun hHeld => ?_)
                  · exact (twoC_drew TC.out).2
                  refine takeD (i := 0) (d := (some 86)) (v := (.slice (some ⟨g, 0, none⟩) 6 cap)) rfl rfl (by kernel_rfl) (by kernel_rfl) (by kernel_rfl) (fun _ _ _ h => h) (Or.inl ⟨by kernel_rfl, ?_⟩) (by assumption) ?_
                  · intro wS hSw
                    (try dsimp only at hSw)
                    go_simp
                  (try simp only [Act.put]); (try simp only [List.setIfInBounds_toArray]); (try simp only [List.set_cons_succ]); (try simp only [List.set_cons_zero])
                  refine takeD (i := 1) (d := (some 87)) (v := (.int .i64 (j : Int))) rfl rfl (by kernel_rfl) (by kernel_rfl) (by kernel_rfl) (fun _ _ _ h => h) (Or.inl ⟨by kernel_rfl, ?_⟩) (by assumption) ?_
                  · intro wS hSw
                    (try dsimp only at hSw)
                    go_simp
                  (try simp only [Act.put]); (try simp only [List.setIfInBounds_toArray]); (try simp only [List.set_cons_succ]); (try simp only [List.set_cons_zero])
                  refine takeD (i := 2) (d := (some 88)) (v := (.pointer (some ⟨g, j * 4, none⟩))) rfl rfl (by kernel_rfl) (by kernel_rfl) (by kernel_rfl) (fun _ _ _ h => h) (Or.inl ⟨by kernel_rfl, ?_⟩) (by assumption) ?_
                  · intro wS hSw
                    (try dsimp only at hSw)
                    go_simp
                  (try simp only [Act.put]); (try simp only [List.setIfInBounds_toArray]); (try simp only [List.set_cons_succ]); (try simp only [List.set_cons_zero])
                  refine takeD (i := 3) (d := (some 89)) (v := (ivV x.two x.three x.five x.root)) rfl rfl (by kernel_rfl) (by kernel_rfl) (by kernel_rfl) (fun _ _ _ h => h) (Or.inl ⟨by kernel_rfl, ?_⟩) (by assumption) ?_
                  · intro wS hSw
                    (try dsimp only at hSw)
                    go_simp
                  (try simp only [Act.put]); (try simp only [List.setIfInBounds_toArray]); (try simp only [List.set_cons_succ]); (try simp only [List.set_cons_zero])
                  refine wpAnyH_ready (rs := [4]) (by kernel_rfl) (by simp) ?_
                  refine AllReadyH.cons rfl (fun K hK => ?_) AllReadyH.nil
                  go_simp
                  refine (calls_fromF (W := V2) (by with_reducible first | assumption | exact (Below.refl _ _).drew) (comC_pick CQ _ (senAt_below HS1.out (by with_reducible first | assumption | exact (Below.refl _ _).drew)))).mono ?_
                  rintro e1 w1 ⟨rfl, hb⟩
                  go_wp2_with fail
                  refine hK.out _ _ ?_ (fun hHeld => ?_)
                  · exact (twoC_keep hb TC.out).2
                  clear hK K
                  (try simp only [Act.put]); (try simp only [List.setIfInBounds_toArray]); (try simp only [List.set_cons_succ]); (try simp only [List.set_cons_zero])
                  refine takeD (i := 5) (d := (some 91)) (v := (.bool false)) rfl rfl (by kernel_rfl) (by kernel_rfl) (by kernel_rfl) (fun _ _ _ h => h) (Or.inl ⟨by kernel_rfl, ?_⟩) (by assumption) ?_
                  · intro wS hSw
                    (try dsimp only at hSw)
                    go_simp
                  (try simp only [Act.put]); (try simp only [List.setIfInBounds_toArray]); (try simp only [List.set_cons_succ]); (try simp only [List.set_cons_zero])
                  refine takeD (i := 6) (d := (some 92)) (v := (.bool false)) rfl rfl (by kernel_rfl) (by kernel_rfl) (by kernel_rfl) (fun _ _ _ h => h) (Or.inl ⟨by kernel_rfl, ?_⟩) (by assumption) ?_
                  · intro wS hSw
                    (try dsimp only at hSw)
                    go_simp
                  (try simp only [Act.put]); (try simp only [List.setIfInBounds_toArray]); (try simp only [List.set_cons_succ]); (try simp only [List.set_cons_zero])
                  refine takeD (i := 7) (d := (some 93)) (v := (.int .i64 (j : Int))) rfl rfl (by kernel_rfl) (by kernel_rfl) (by kernel_rfl) (fun _ _ _ h => h) (Or.inl ⟨by kernel_rfl, ?_⟩) (by assumption) ?_
                  · intro wS hSw
                    (try dsimp only at hSw)
                    go_simp
                  (try simp only [Act.put]); (try simp only [List.setIfInBounds_toArray]); (try simp only [List.set_cons_succ]); (try simp only [List.set_cons_zero])
                  refine takeD (i := 8) (d := (some 94)) (v := (.bool true)) rfl rfl (by kernel_rfl) (by kernel_rfl) (by kernel_rfl) (fun _ _ _ h => h) (Or.inl ⟨by kernel_rfl, ?_⟩) (by assumption) ?_
                  · intro wS hSw
                    (try dsimp only at hSw)
                    go_simp
                    omega
                  (try simp only [Act.put]); (try simp only [List.setIfInBounds_toArray]); (try simp only [List.set_cons_succ]); (try simp only [List.set_cons_zero])
                  refine takeD (i := 9) (d := (some 95)) (v := (.bool true)) rfl rfl (by kernel_rfl) (by kernel_rfl) (by kernel_rfl) (fun _ _ _ h => h) (Or.inl ⟨by kernel_rfl, ?_⟩) (by assumption) ?_
                  · intro wS hSw
                    (try dsimp only at hSw)
                    go_simp
                  (try simp only [Act.put]); (try simp only [List.setIfInBounds_toArray]); (try simp only [List.set_cons_succ]); (try simp only [List.set_cons_zero])
                  refine takeD (i := 10) (d := (some 96)) (v := (.slice (some ⟨g, 0, none⟩) 6 cap)) rfl rfl (by kernel_rfl) (by kernel_rfl) (by kernel_rfl) (fun _ _ _ h => h) (Or.inl ⟨by kernel_rfl, ?_⟩) (by assumption) ?_
                  · intro wS hSw
                    (try dsimp only at hSw)
                    go_simp
                  (try simp only [Act.put]); (try simp only [List.setIfInBounds_toArray]); (try simp only [List.set_cons_succ]); (try simp only [List.set_cons_zero])
                  refine takeD (i := 11) (d := (some 97)) (v := (.int .i64 (j : Int))) rfl rfl (by kernel_rfl) (by kernel_rfl) (by kernel_rfl) (fun _ _ _ h => h) (Or.inl ⟨by kernel_rfl, ?_⟩) (by assumption) ?_
                  · intro wS hSw
                    (try dsimp only at hSw)
                    go_simp
                  (try simp only [Act.put]); (try simp only [List.setIfInBounds_toArray]); (try simp only [List.set_cons_succ]); (try simp only [List.set_cons_zero])
                  refine takeD (i := 12) (d := (some 98)) (v := (.pointer (some ⟨g, j * 4, none⟩))) rfl rfl (by kernel_rfl) (by kernel_rfl) (by kernel_rfl) (fun _ _ _ h => h) (Or.inl ⟨by kernel_rfl, ?_⟩) (by assumption) ?_
                  · intro wS hSw
                    (try dsimp only at hSw)
                    go_simp
                  (try simp only [Act.put]); (try simp only [List.setIfInBounds_toArray]); (try simp only [List.set_cons_succ]); (try simp only [List.set_cons_zero])
                  refine takeD (i := 13) (d := (some 99)) (v := (.pointer (some ⟨g, j * 4 + 1, none⟩))) rfl rfl (by kernel_rfl) (by kernel_rfl) (by kernel_rfl) (fun _ _ _ h => h) (Or.inl ⟨by kernel_rfl, ?_⟩) (by assumption) ?_
                  · intro wS hSw
                    (try dsimp only at hSw)
                    go_simp
                  (try simp only [Act.put]); (try simp only [List.setIfInBounds_toArray]); (try simp only [List.set_cons_succ]); (try simp only [List.set_cons_zero])
                  refine takeD (i := 14) (d := (some 100)) (v := (.int .i64 x.three)) rfl rfl (by kernel_rfl) (by kernel_rfl) (by kernel_rfl) (fun _ _ _ h => h) (Or.inl ⟨by kernel_rfl, ?_⟩) (by assumption) ?_
                  · intro wS hSw
                    (try dsimp only at hSw)
                    go_simp
                  (try simp only [Act.put]); (try simp only [List.setIfInBounds_toArray]); (try simp only [List.set_cons_succ]); (try simp only [List.set_cons_zero])
                  refine takeD (i := 15) (d := (some 101)) (v := (.slice (some ⟨g, 0, none⟩) 6 cap)) rfl rfl (by kernel_rfl) (by kernel_rfl) (by kernel_rfl) (fun _ _ _ h => h) (Or.inl ⟨by kernel_rfl, ?_⟩) (by assumption) ?_
                  · intro wS hSw
                    (try dsimp only at hSw)
                    go_simp
                  (try simp only [Act.put]); (try simp only [List.setIfInBounds_toArray]); (try simp only [List.set_cons_succ]); (try simp only [List.set_cons_zero])
                  refine takeD (i := 16) (d := (some 102)) (v := (.int .i64 (j : Int))) rfl rfl (by kernel_rfl) (by kernel_rfl) (by kernel_rfl) (fun _ _ _ h => h) (Or.inl ⟨by kernel_rfl, ?_⟩) (by assumption) ?_
                  · intro wS hSw
                    (try dsimp only at hSw)
                    go_simp
                  (try simp only [Act.put]); (try simp only [List.setIfInBounds_toArray]); (try simp only [List.set_cons_succ]); (try simp only [List.set_cons_zero])
                  refine takeD (i := 17) (d := (some 103)) (v := (.int .i64 (p : Int))) rfl rfl (by kernel_rfl) (by kernel_rfl) (by kernel_rfl) (fun _ _ _ h => h) (Or.inl ⟨by kernel_rfl, ?_⟩) (by assumption) ?_
                  · intro wS hSw
                    (try dsimp only at hSw)
                    go_simp
                  (try simp only [Act.put]); (try simp only [List.setIfInBounds_toArray]); (try simp only [List.set_cons_succ]); (try simp only [List.set_cons_zero])
                  refine takeD (i := 18) (d := (some 104)) (v := (.pointer (some ⟨g, p * 4, none⟩))) rfl rfl (by kernel_rfl) (by kernel_rfl) (by kernel_rfl) (fun _ _ _ h => h) (Or.inl ⟨by kernel_rfl, ?_⟩) (by assumption) ?_
                  · intro wS hSw
                    (try dsimp only at hSw)
                    go_simp
                  (try simp only [Act.put]); (try simp only [List.setIfInBounds_toArray]); (try simp only [List.set_cons_succ]); (try simp only [List.set_cons_zero])
                  refine takeD (i := 19) (d := (some 105)) (v := (.pointer (some ⟨g, p * 4 + 1, none⟩))) rfl rfl (by kernel_rfl) (by kernel_rfl) (by kernel_rfl) (fun _ _ _ h => h) (Or.inl ⟨by kernel_rfl, ?_⟩) (by assumption) ?_
                  · intro wS hSw
                    (try dsimp only at hSw)
                    go_simp
                  (try simp only [Act.put]); (try simp only [List.setIfInBounds_toArray]); (try simp only [List.set_cons_succ]); (try simp only [List.set_cons_zero])
                  refine takeD (i := 20) (d := (some 106)) (v := (.int .i64 y.three)) rfl rfl (by kernel_rfl) (by kernel_rfl) (by kernel_rfl) (fun _ _ _ h => h) (Or.inl ⟨by kernel_rfl, ?_⟩) (by assumption) ?_
                  · intro wS hSw
                    (try dsimp only at hSw)
                    go_simp
                  (try simp only [Act.put]); (try simp only [List.setIfInBounds_toArray]); (try simp only [List.set_cons_succ]); (try simp only [List.set_cons_zero])
                  refine takeD (i := 21) (d := (some 107)) (v := (.bool false)) rfl rfl (by kernel_rfl) (by kernel_rfl) (by kernel_rfl) (fun _ _ _ h => h) (Or.inl ⟨by kernel_rfl, ?_⟩) (by assumption) ?_
                  · intro wS hSw
                    (try dsimp only at hSw)
                    go_simp
                  (try simp only [Act.put]); (try simp only [List.setIfInBounds_toArray]); (try simp only [List.set_cons_succ]); (try simp only [List.set_cons_zero])
                  refine takeD (i := 22) (d := (some 108)) (v := (.bool false)) rfl rfl (by kernel_rfl) (by kernel_rfl) (by kernel_rfl) (fun _ _ _ h => h) (Or.inl ⟨by kernel_rfl, ?_⟩) (by assumption) ?_
                  · intro wS hSw
                    (try dsimp only at hSw)
                    go_simp
                  (try simp only [Act.put]); (try simp only [List.setIfInBounds_toArray]); (try simp only [List.set_cons_succ]); (try simp only [List.set_cons_zero])
                  refine takeD (i := 23) (d := (some 109)) (v := (.slice (some ⟨g, 0, none⟩) 6 cap)) rfl rfl (by kernel_rfl) (by kernel_rfl) (by kernel_rfl) (fun _ _ _ h => h) (Or.inl ⟨by kernel_rfl, ?_⟩) (by assumption) ?_
                  · intro wS hSw
                    (try dsimp only at hSw)
                    go_simp
                  (try simp only [Act.put]); (try simp only [List.setIfInBounds_toArray]); (try simp only [List.set_cons_succ]); (try simp only [List.set_cons_zero])
                  refine takeD (i := 24) (d := (some 110)) (v := (.int .i64 (j : Int))) rfl rfl (by kernel_rfl) (by kernel_rfl) (by kernel_rfl) (fun _ _ _ h => h) (Or.inl ⟨by kernel_rfl, ?_⟩) (by assumption) ?_
                  · intro wS hSw
                    (try dsimp only at hSw)
                    go_simp
                  (try simp only [Act.put]); (try simp only [List.setIfInBounds_toArray]); (try simp only [List.set_cons_succ]); (try simp only [List.set_cons_zero])
                  refine takeD (i := 25) (d := (some 111)) (v := (.pointer (some ⟨g, j * 4, none⟩))) rfl rfl (by kernel_rfl) (by kernel_rfl) (by kernel_rfl) (fun _ _ _ h => h) (Or.inl ⟨by kernel_rfl, ?_⟩) (by assumption) ?_
                  · intro wS hSw
                    (try dsimp only at hSw)
                    go_simp
                  (try simp only [Act.put]); (try simp only [List.setIfInBounds_toArray]); (try simp only [List.set_cons_succ]); (try simp only [List.set_cons_zero])
                  refine takeD (i := 26) (d := (some 112)) (v := (.pointer (some ⟨g, j * 4 + 1, none⟩))) rfl rfl (by kernel_rfl) (by kernel_rfl) (by kernel_rfl) (fun _ _ _ h => h) (Or.inl ⟨by kernel_rfl, ?_⟩) (by assumption) ?_
                  · intro wS hSw
                    (try dsimp only at hSw)
                    go_simp
                  (try simp only [Act.put]); (try simp only [List.setIfInBounds_toArray]); (try simp only [List.set_cons_succ]); (try simp only [List.set_cons_zero])
                  refine takeD (i := 27) (d := (some 113)) (v := (.int .i64 x.three)) rfl rfl (by kernel_rfl) (by kernel_rfl) (by kernel_rfl) (fun _ _ _ h => h) (Or.inl ⟨by kernel_rfl, ?_⟩) (by assumption) ?_
                  · intro wS hSw
                    (try dsimp only at hSw)
                    go_simp
                  (try simp only [Act.put]); (try simp only [List.setIfInBounds_toArray]); (try simp only [List.set_cons_succ]); (try simp only [List.set_cons_zero])
                  refine takeD (i := 28) (d := (some 114)) (v := (.slice (some ⟨g, 0, none⟩) 6 cap)) rfl rfl (by kernel_rfl) (by kernel_rfl) (by kernel_rfl) (fun _ _ _ h => h) (Or.inl ⟨by kernel_rfl, ?_⟩) (by assumption) ?_
                  · intro wS hSw
                    (try dsimp only at hSw)
                    go_simp
                  (try simp only [Act.put]); (try simp only [List.setIfInBounds_toArray]); (try simp only [List.set_cons_succ]); (try simp only [List.set_cons_zero])
                  refine takeD (i := 29) (d := (some 115)) (v := (.int .i64 (j : Int))) rfl rfl (by kernel_rfl) (by kernel_rfl) (by kernel_rfl) (fun _ _ _ h => h) (Or.inl ⟨by kernel_rfl, ?_⟩) (by assumption) ?_
                  · intro wS hSw
                    (try dsimp only at hSw)
                    go_simp
                  (try simp only [Act.put]); (try simp only [List.setIfInBounds_toArray]); (try simp only [List.set_cons_succ]); (try simp only [List.set_cons_zero])
                  refine takeD (i := 30) (d := (some 116)) (v := (.int .i64 (p : Int))) rfl rfl (by kernel_rfl) (by kernel_rfl) (by kernel_rfl) (fun _ _ _ h => h) (Or.inl ⟨by kernel_rfl, ?_⟩) (by assumption) ?_
                  · intro wS hSw
                    (try dsimp only at hSw)
                    go_simp
                  (try simp only [Act.put]); (try simp only [List.setIfInBounds_toArray]); (try simp only [List.set_cons_succ]); (try simp only [List.set_cons_zero])
                  refine takeD (i := 31) (d := (some 117)) (v := (.pointer (some ⟨g, p * 4, none⟩))) rfl rfl (by kernel_rfl) (by kernel_rfl) (by kernel_rfl) (fun _ _ _ h => h) (Or.inl ⟨by kernel_rfl, ?_⟩) (by assumption) ?_
                  · intro wS hSw
                    (try dsimp only at hSw)
                    go_simp
                  (try simp only [Act.put]); (try simp only [List.setIfInBounds_toArray]); (try simp only [List.set_cons_succ]); (try simp only [List.set_cons_zero])
                  refine takeD (i := 32) (d := (some 118)) (v := (.pointer (some ⟨g, p * 4 + 1, none⟩))) rfl rfl (by kernel_rfl) (by kernel_rfl) (by kernel_rfl) (fun _ _ _ h => h) (Or.inl ⟨by kernel_rfl, ?_⟩) (by assumption) ?_
                  · intro wS hSw
                    (try dsimp only at hSw)
                    go_simp
                  (try simp only [Act.put]); (try simp only [List.setIfInBounds_toArray]); (try simp only [List.set_cons_succ]); (try simp only [List.set_cons_zero])
                  refine takeD (i := 33) (d := (some 119)) (v := (.int .i64 y.three)) rfl rfl (by kernel_rfl) (by kernel_rfl) (by kernel_rfl) (fun _ _ _ h => h) (Or.inl ⟨by kernel_rfl, ?_⟩) (by assumption) ?_
                  · intro wS hSw
                    (try dsimp only at hSw)
                    go_simp
                  (try simp only [Act.put]); (try simp only [List.setIfInBounds_toArray]); (try simp only [List.set_cons_succ]); (try simp only [List.set_cons_zero])
                  refine takeD (i := 34) (d := (some 120)) (v := (.bool false)) rfl rfl (by kernel_rfl) (by kernel_rfl) (by kernel_rfl) (fun _ _ _ h => h) (Or.inl ⟨by kernel_rfl, ?_⟩) (by assumption) ?_
                  · intro wS hSw
                    (try dsimp only at hSw)
                    go_simp
                  (try simp only [Act.put]); (try simp only [List.setIfInBounds_toArray]); (try simp only [List.set_cons_succ]); (try simp only [List.set_cons_zero])
                  refine takeD (i := 35) (d := (some 121)) (v := (.bool false)) rfl rfl (by kernel_rfl) (by kernel_rfl) (by kernel_rfl) (fun _ _ _ h => h) (Or.inl ⟨by kernel_rfl, ?_⟩) (by assumption) ?_
                  · intro wS hSw
                    (try dsimp only at hSw)
                    go_simp
                  (try simp only [Act.put]); (try simp only [List.setIfInBounds_toArray]); (try simp only [List.set_cons_succ]); (try simp only [List.set_cons_zero])
                  refine takeD (i := 36) (d := (some 122)) (v := undef) rfl rfl (by kernel_rfl) (by kernel_rfl) (by kernel_rfl) (fun _ _ _ h => h) (Or.inr ⟨by kernel_rfl, rfl⟩) (by assumption) ?_
                  (try simp only [Act.put]); (try simp only [List.setIfInBounds_toArray]); (try simp only [List.set_cons_succ]); (try simp only [List.set_cons_zero])
                  refine takeD (i := 37) (d := (some 123)) (v := undef) rfl rfl (by kernel_rfl) (by kernel_rfl) (by kernel_rfl) (fun _ _ _ h => h) (Or.inr ⟨by kernel_rfl, rfl⟩) (by assumption) ?_
                  (try simp only [Act.put]); (try simp only [List.setIfInBounds_toArray]); (try simp only [List.set_cons_succ]); (try simp only [List.set_cons_zero])
                  refine takeD (i := 38) (d := (some 124)) (v := undef) rfl rfl (by kernel_rfl) (by kernel_rfl) (by kernel_rfl) (fun _ _ _ h => h) (Or.inr ⟨by kernel_rfl, rfl⟩) (by assumption) ?_
                  (try simp only [Act.put]); (try simp only [List.setIfInBounds_toArray]); (try simp only [List.set_cons_succ]); (try simp only [List.set_cons_zero])
                  refine takeD (i := 39) (d := (some 125)) (v := undef) rfl rfl (by kernel_rfl) (by kernel_rfl) (by kernel_rfl) (fun _ _ _ h => h) (Or.inr ⟨by kernel_rfl, rfl⟩) (by assumption) ?_
                  (try simp only [Act.put]); (try simp only [List.setIfInBounds_toArray]); (try simp only [List.set_cons_succ]); (try simp only [List.set_cons_zero])
                  refine takeD (i := 40) (d := (some 126)) (v := undef) rfl rfl (by kernel_rfl) (by kernel_rfl) (by kernel_rfl) (fun _ _ _ h => h) (Or.inr ⟨by kernel_rfl, rfl⟩) (by assumption) ?_
                  (try simp only [Act.put]); (try simp only [List.setIfInBounds_toArray]); (try simp only [List.set_cons_succ]); (try simp only [List.set_cons_zero])
                  refine takeD (i := 41) (d := (some 127)) (v := undef) rfl rfl (by kernel_rfl) (by kernel_rfl) (by kernel_rfl) (fun _ _ _ h => h) (Or.inr ⟨by kernel_rfl, rfl⟩) (by assumption) ?_
                  (try simp only [Act.put]); (try simp only [List.setIfInBounds_toArray]); (try simp only [List.set_cons_succ]); (try simp only [List.set_cons_zero])
                  refine takeD (i := 42) (d := (some 128)) (v := undef) rfl rfl (by kernel_rfl) (by kernel_rfl) (by kernel_rfl) (fun _ _ _ h => h) (Or.inr ⟨by kernel_rfl, rfl⟩) (by assumption) ?_
                  (try simp only [Act.put]); (try simp only [List.setIfInBounds_toArray]); (try simp only [List.set_cons_succ]); (try simp only [List.set_cons_zero])
                  refine takeD (i := 43) (d := (some 129)) (v := undef) rfl rfl (by kernel_rfl) (by kernel_rfl) (by kernel_rfl) (fun _ _ _ h => h) (Or.inr ⟨by kernel_rfl, rfl⟩) (by assumption) ?_
                  (try simp only [Act.put]); (try simp only [List.setIfInBounds_toArray]); (try simp only [List.set_cons_succ]); (try simp only [List.set_cons_zero])
                  refine takeD (i := 44) (d := (some 130)) (v := undef) rfl rfl (by kernel_rfl) (by kernel_rfl) (by kernel_rfl) (fun _ _ _ h => h) (Or.inr ⟨by kernel_rfl, rfl⟩) (by assumption) ?_
                  (try simp only [Act.put]); (try simp only [List.setIfInBounds_toArray]); (try simp only [List.set_cons_succ]); (try simp only [List.set_cons_zero])
                  refine takeD (i := 45) (d := (some 131)) (v := undef) rfl rfl (by kernel_rfl) (by kernel_rfl) (by kernel_rfl) (fun _ _ _ h => h) (Or.inr ⟨by kernel_rfl, rfl⟩) (by assumption) ?_
                  (try simp only [Act.put]); (try simp only [List.setIfInBounds_toArray]); (try simp only [List.set_cons_succ]); (try simp only [List.set_cons_zero])
                  refine takeD (i := 46) (d := (some 132)) (v := undef) rfl rfl (by kernel_rfl) (by kernel_rfl) (by kernel_rfl) (fun _ _ _ h => h) (Or.inr ⟨by kernel_rfl, rfl⟩) (by assumption) ?_
                  (try simp only [Act.put]); (try simp only [List.setIfInBounds_toArray]); (try simp only [List.set_cons_succ]); (try simp only [List.set_cons_zero])
                  refine takeD (i := 47) (d := (some 133)) (v := undef) rfl rfl (by kernel_rfl) (by kernel_rfl) (by kernel_rfl) (fun _ _ _ h => h) (Or.inr ⟨by kernel_rfl, rfl⟩) (by assumption) ?_
                  (try simp only [Act.put]); (try simp only [List.setIfInBounds_toArray]); (try simp only [List.set_cons_succ]); (try simp only [List.set_cons_zero])
                  refine takeD (i := 48) (d := (some 134)) (v := (.bool false)) rfl rfl (by kernel_rfl) (by kernel_rfl) (by kernel_rfl) (fun _ _ _ h => h) (Or.inl ⟨by kernel_rfl, ?_⟩) (by assumption) ?_
                  · intro wS hSw
                    (try dsimp only at hSw)
                    go_simp
                  (try simp only [Act.put]); (try simp only [List.setIfInBounds_toArray]); (try simp only [List.set_cons_succ]); (try simp only [List.set_cons_zero])
                  refine takeD (i := 49) (d := (some 135)) (v := (.bool false)) rfl rfl (by kernel_rfl) (by kernel_rfl) (by kernel_rfl) (fun _ _ _ h => h) (Or.inl ⟨by kernel_rfl, ?_⟩) (by assumption) ?_
                  · intro wS hSw
                    (try dsimp only at hSw)
                    go_simp
                  (try simp only [Act.put]); (try simp only [List.setIfInBounds_toArray]); (try simp only [List.set_cons_succ]); (try simp only [List.set_cons_zero])
                  refine takeD (i := 50) (d := (some 136)) (v := (.bool false)) rfl rfl (by kernel_rfl) (by kernel_rfl) (by kernel_rfl) (fun _ _ _ h => h) (Or.inl ⟨by kernel_rfl, ?_⟩) (by assumption) ?_
                  · intro wS hSw
                    (try dsimp only at hSw)
                    go_simp
                  (try simp only [Act.put]); (try simp only [List.setIfInBounds_toArray]); (try simp only [List.set_cons_succ]); (try simp only [List.set_cons_zero])
                  refine takeD (i := 51) (d := (some 137)) (v := (.bool false)) rfl rfl (by kernel_rfl) (by kernel_rfl) (by kernel_rfl) (fun _ _ _ h => h) (Or.inl ⟨by kernel_rfl, ?_⟩) (by assumption) ?_
                  · intro wS hSw
                    (try dsimp only at hSw)
                    go_simp
                  (try simp only [Act.put]); (try simp only [List.setIfInBounds_toArray]); (try simp only [List.set_cons_succ]); (try simp only [List.set_cons_zero])
                  refine wpAnyH_done (by kernel_rfl) ?_ _
                  go_wp2_with fail
                  have RG2 := Lib.hid (rowC_keep hb RG.out)
                  have GS2 := Lib.hid (four_keep hb GS.out)
                  have GB2 := Lib.hid (GB.out.trans (hb.mono GB.out.size))
                  go_roundw
                  case rel => exact ⟨j + 1, by omega, by go_num, RG2, GS2, GB2⟩
                  case measure => simp [intOf]; omega
                · have e1 : ¬ x.three < y.three := by omega
                  have e2 : decide (x.three < y.three) = false := decide_eq_false e1
                  have e3 : (x.three == y.three) = true := by rw [beq_iff_eq]; exact lx
                  have e4 : ¬ x.five ≤ y.five := by omega
                  have e5 : decide (x.five ≤ y.five) = false := decide_eq_false e4
                  clear lx ly hp hy
                  refine wp_region_held_drew (S := (fun w' => w'.cell? ⟨g, j * 4, none⟩ = some (.int .i64 x.two) ∧ w'.cell? ⟨g, j * 4 + 1, none⟩ = some (.int .i64 x.three) ∧ w'.cell? ⟨g, j * 4 + 2, none⟩ = some (.int .i64 x.five) ∧ w'.cell? ⟨g, j * 4 + 3, none⟩ = some (.int .i64 x.root) ∧ w'.cell? ⟨g, p * 4 + 1, none⟩ = some (.int .i64 y.three) ∧ w'.cell? ⟨g, p * 4 + 2, none⟩ = some (.int .i64 y.five))) (by kernel_rfl) ?_ (fun hHeld => ?_)
                  · exact (twoC_drew TC.out).2
                  refine takeD (i := 0) (d := (some 86)) (v := (.slice (some ⟨g, 0, none⟩) 6 cap)) rfl rfl (by kernel_rfl) (by kernel_rfl) (by kernel_rfl) (fun _ _ _ h => h) (Or.inl ⟨by kernel_rfl, ?_⟩) (by assumption) ?_
                  · intro wS hSw
                    (try dsimp only at hSw)
                    go_simp
                  (try simp only [Act.put]); (try simp only [List.setIfInBounds_toArray]); (try simp only [List.set_cons_succ]); (try simp only [List.set_cons_zero])
                  refine takeD (i := 1) (d := (some 87)) (v := (.int .i64 (j : Int))) rfl rfl (by kernel_rfl) (by kernel_rfl) (by kernel_rfl) (fun _ _ _ h => h) (Or.inl ⟨by kernel_rfl, ?_⟩) (by assumption) ?_
                  · intro wS hSw
                    (try dsimp only at hSw)
                    go_simp
                  (try simp only [Act.put]); (try simp only [List.setIfInBounds_toArray]); (try simp only [List.set_cons_succ]); (try simp only [List.set_cons_zero])
                  refine takeD (i := 2) (d := (some 88)) (v := (.pointer (some ⟨g, j * 4, none⟩))) rfl rfl (by kernel_rfl) (by kernel_rfl) (by kernel_rfl) (fun _ _ _ h => h) (Or.inl ⟨by kernel_rfl, ?_⟩) (by assumption) ?_
                  · intro wS hSw
                    (try dsimp only at hSw)
                    go_simp
                  (try simp only [Act.put]); (try simp only [List.setIfInBounds_toArray]); (try simp only [List.set_cons_succ]); (try simp only [List.set_cons_zero])
                  refine takeD (i := 3) (d := (some 89)) (v := (ivV x.two x.three x.five x.root)) rfl rfl (by kernel_rfl) (by kernel_rfl) (by kernel_rfl) (fun _ _ _ h => h) (Or.inl ⟨by kernel_rfl, ?_⟩) (by assumption) ?_
                  · intro wS hSw
                    (try dsimp only at hSw)
                    go_simp
                  (try simp only [Act.put]); (try simp only [List.setIfInBounds_toArray]); (try simp only [List.set_cons_succ]); (try simp only [List.set_cons_zero])
                  refine wpAnyH_ready (rs := [4]) (by kernel_rfl) (by simp) ?_
                  refine AllReadyH.cons rfl (fun K hK => ?_) AllReadyH.nil
                  go_simp
                  refine (calls_fromF (W := V2) (by with_reducible first | assumption | exact (Below.refl _ _).drew) (comC_pick CQ _ (senAt_below HS1.out (by with_reducible first | assumption | exact (Below.refl _ _).drew)))).mono ?_
                  rintro e1 w1 ⟨rfl, hb⟩
                  go_wp2_with fail
                  refine hK.out _ _ ?_ (fun hHeld => ?_)
                  · exact (twoC_keep hb TC.out).2
                  clear hK K
                  (try simp only [Act.put]); (try simp only [List.setIfInBounds_toArray]); (try simp only [List.set_cons_succ]); (try simp only [List.set_cons_zero])
                  refine takeD (i := 5) (d := (some 91)) (v := (.bool false)) rfl rfl (by kernel_rfl) (by kernel_rfl) (by kernel_rfl) (fun _ _ _ h => h) (Or.inl ⟨by kernel_rfl, ?_⟩) (by assumption) ?_
                  · intro wS hSw
                    (try dsimp only at hSw)
                    go_simp
                  (try simp only [Act.put]); (try simp only [List.setIfInBounds_toArray]); (try simp only [List.set_cons_succ]); (try simp only [List.set_cons_zero])
                  refine takeD (i := 6) (d := (some 92)) (v := (.bool false)) rfl rfl (by kernel_rfl) (by kernel_rfl) (by kernel_rfl) (fun _ _ _ h => h) (Or.inl ⟨by kernel_rfl, ?_⟩) (by assumption) ?_
                  · intro wS hSw
                    (try dsimp only at hSw)
                    go_simp
                  (try simp only [Act.put]); (try simp only [List.setIfInBounds_toArray]); (try simp only [List.set_cons_succ]); (try simp only [List.set_cons_zero])
                  refine takeD (i := 7) (d := (some 93)) (v := (.int .i64 (j : Int))) rfl rfl (by kernel_rfl) (by kernel_rfl) (by kernel_rfl) (fun _ _ _ h => h) (Or.inl ⟨by kernel_rfl, ?_⟩) (by assumption) ?_
                  · intro wS hSw
                    (try dsimp only at hSw)
                    go_simp
                  (try simp only [Act.put]); (try simp only [List.setIfInBounds_toArray]); (try simp only [List.set_cons_succ]); (try simp only [List.set_cons_zero])
                  refine takeD (i := 8) (d := (some 94)) (v := (.bool true)) rfl rfl (by kernel_rfl) (by kernel_rfl) (by kernel_rfl) (fun _ _ _ h => h) (Or.inl ⟨by kernel_rfl, ?_⟩) (by assumption) ?_
                  · intro wS hSw
                    (try dsimp only at hSw)
                    go_simp
                    omega
                  (try simp only [Act.put]); (try simp only [List.setIfInBounds_toArray]); (try simp only [List.set_cons_succ]); (try simp only [List.set_cons_zero])
                  refine takeD (i := 9) (d := (some 95)) (v := (.bool true)) rfl rfl (by kernel_rfl) (by kernel_rfl) (by kernel_rfl) (fun _ _ _ h => h) (Or.inl ⟨by kernel_rfl, ?_⟩) (by assumption) ?_
                  · intro wS hSw
                    (try dsimp only at hSw)
                    go_simp
                  (try simp only [Act.put]); (try simp only [List.setIfInBounds_toArray]); (try simp only [List.set_cons_succ]); (try simp only [List.set_cons_zero])
                  refine takeD (i := 10) (d := (some 96)) (v := (.slice (some ⟨g, 0, none⟩) 6 cap)) rfl rfl (by kernel_rfl) (by kernel_rfl) (by kernel_rfl) (fun _ _ _ h => h) (Or.inl ⟨by kernel_rfl, ?_⟩) (by assumption) ?_
                  · intro wS hSw
                    (try dsimp only at hSw)
                    go_simp
                  (try simp only [Act.put]); (try simp only [List.setIfInBounds_toArray]); (try simp only [List.set_cons_succ]); (try simp only [List.set_cons_zero])
                  refine takeD (i := 11) (d := (some 97)) (v := (.int .i64 (j : Int))) rfl rfl (by kernel_rfl) (by kernel_rfl) (by kernel_rfl) (fun _ _ _ h => h) (Or.inl ⟨by kernel_rfl, ?_⟩) (by assumption) ?_
                  · intro wS hSw
                    (try dsimp only at hSw)
                    go_simp
                  (try simp only [Act.put]); (try simp only [List.setIfInBounds_toArray]); (try simp only [List.set_cons_succ]); (try simp only [List.set_cons_zero])
                  refine takeD (i := 12) (d := (some 98)) (v := (.pointer (some ⟨g, j * 4, none⟩))) rfl rfl (by kernel_rfl) (by kernel_rfl) (by kernel_rfl) (fun _ _ _ h => h) (Or.inl ⟨by kernel_rfl, ?_⟩) (by assumption) ?_
                  · intro wS hSw
                    (try dsimp only at hSw)
                    go_simp
                  (try simp only [Act.put]); (try simp only [List.setIfInBounds_toArray]); (try simp only [List.set_cons_succ]); (try simp only [List.set_cons_zero])
                  refine takeD (i := 13) (d := (some 99)) (v := (.pointer (some ⟨g, j * 4 + 1, none⟩))) rfl rfl (by kernel_rfl) (by kernel_rfl) (by kernel_rfl) (fun _ _ _ h => h) (Or.inl ⟨by kernel_rfl, ?_⟩) (by assumption) ?_
                  · intro wS hSw
                    (try dsimp only at hSw)
                    go_simp
                  (try simp only [Act.put]); (try simp only [List.setIfInBounds_toArray]); (try simp only [List.set_cons_succ]); (try simp only [List.set_cons_zero])
                  refine takeD (i := 14) (d := (some 100)) (v := (.int .i64 x.three)) rfl rfl (by kernel_rfl) (by kernel_rfl) (by kernel_rfl) (fun _ _ _ h => h) (Or.inl ⟨by kernel_rfl, ?_⟩) (by assumption) ?_
                  · intro wS hSw
                    (try dsimp only at hSw)
                    go_simp
                  (try simp only [Act.put]); (try simp only [List.setIfInBounds_toArray]); (try simp only [List.set_cons_succ]); (try simp only [List.set_cons_zero])
                  refine takeD (i := 15) (d := (some 101)) (v := (.slice (some ⟨g, 0, none⟩) 6 cap)) rfl rfl (by kernel_rfl) (by kernel_rfl) (by kernel_rfl) (fun _ _ _ h => h) (Or.inl ⟨by kernel_rfl, ?_⟩) (by assumption) ?_
                  · intro wS hSw
                    (try dsimp only at hSw)
                    go_simp
                  (try simp only [Act.put]); (try simp only [List.setIfInBounds_toArray]); (try simp only [List.set_cons_succ]); (try simp only [List.set_cons_zero])
                  refine takeD (i := 16) (d := (some 102)) (v := (.int .i64 (j : Int))) rfl rfl (by kernel_rfl) (by kernel_rfl) (by kernel_rfl) (fun _ _ _ h => h) (Or.inl ⟨by kernel_rfl, ?_⟩) (by assumption) ?_
                  · intro wS hSw
                    (try dsimp only at hSw)
                    go_simp
                  (try simp only [Act.put]); (try simp only [List.setIfInBounds_toArray]); (try simp only [List.set_cons_succ]); (try simp only [List.set_cons_zero])
                  refine takeD (i := 17) (d := (some 103)) (v := (.int .i64 (p : Int))) rfl rfl (by kernel_rfl) (by kernel_rfl) (by kernel_rfl) (fun _ _ _ h => h) (Or.inl ⟨by kernel_rfl, ?_⟩) (by assumption) ?_
                  · intro wS hSw
                    (try dsimp only at hSw)
                    go_simp
                  (try simp only [Act.put]); (try simp only [List.setIfInBounds_toArray]); (try simp only [List.set_cons_succ]); (try simp only [List.set_cons_zero])
                  refine takeD (i := 18) (d := (some 104)) (v := (.pointer (some ⟨g, p * 4, none⟩))) rfl rfl (by kernel_rfl) (by kernel_rfl) (by kernel_rfl) (fun _ _ _ h => h) (Or.inl ⟨by kernel_rfl, ?_⟩) (by assumption) ?_
                  · intro wS hSw
                    (try dsimp only at hSw)
                    go_simp
                  (try simp only [Act.put]); (try simp only [List.setIfInBounds_toArray]); (try simp only [List.set_cons_succ]); (try simp only [List.set_cons_zero])
                  refine takeD (i := 19) (d := (some 105)) (v := (.pointer (some ⟨g, p * 4 + 1, none⟩))) rfl rfl (by kernel_rfl) (by kernel_rfl) (by kernel_rfl) (fun _ _ _ h => h) (Or.inl ⟨by kernel_rfl, ?_⟩) (by assumption) ?_
                  · intro wS hSw
                    (try dsimp only at hSw)
                    go_simp
                  (try simp only [Act.put]); (try simp only [List.setIfInBounds_toArray]); (try simp only [List.set_cons_succ]); (try simp only [List.set_cons_zero])
                  refine takeD (i := 20) (d := (some 106)) (v := (.int .i64 y.three)) rfl rfl (by kernel_rfl) (by kernel_rfl) (by kernel_rfl) (fun _ _ _ h => h) (Or.inl ⟨by kernel_rfl, ?_⟩) (by assumption) ?_
                  · intro wS hSw
                    (try dsimp only at hSw)
                    go_simp
                  (try simp only [Act.put]); (try simp only [List.setIfInBounds_toArray]); (try simp only [List.set_cons_succ]); (try simp only [List.set_cons_zero])
                  refine takeD (i := 21) (d := (some 107)) (v := (.bool false)) rfl rfl (by kernel_rfl) (by kernel_rfl) (by kernel_rfl) (fun _ _ _ h => h) (Or.inl ⟨by kernel_rfl, ?_⟩) (by assumption) ?_
                  · intro wS hSw
                    (try dsimp only at hSw)
                    go_simp
                  (try simp only [Act.put]); (try simp only [List.setIfInBounds_toArray]); (try simp only [List.set_cons_succ]); (try simp only [List.set_cons_zero])
                  refine takeD (i := 22) (d := (some 108)) (v := (.bool false)) rfl rfl (by kernel_rfl) (by kernel_rfl) (by kernel_rfl) (fun _ _ _ h => h) (Or.inl ⟨by kernel_rfl, ?_⟩) (by assumption) ?_
                  · intro wS hSw
                    (try dsimp only at hSw)
                    go_simp
                  (try simp only [Act.put]); (try simp only [List.setIfInBounds_toArray]); (try simp only [List.set_cons_succ]); (try simp only [List.set_cons_zero])
                  refine takeD (i := 23) (d := (some 109)) (v := (.slice (some ⟨g, 0, none⟩) 6 cap)) rfl rfl (by kernel_rfl) (by kernel_rfl) (by kernel_rfl) (fun _ _ _ h => h) (Or.inl ⟨by kernel_rfl, ?_⟩) (by assumption) ?_
                  · intro wS hSw
                    (try dsimp only at hSw)
                    go_simp
                  (try simp only [Act.put]); (try simp only [List.setIfInBounds_toArray]); (try simp only [List.set_cons_succ]); (try simp only [List.set_cons_zero])
                  refine takeD (i := 24) (d := (some 110)) (v := (.int .i64 (j : Int))) rfl rfl (by kernel_rfl) (by kernel_rfl) (by kernel_rfl) (fun _ _ _ h => h) (Or.inl ⟨by kernel_rfl, ?_⟩) (by assumption) ?_
                  · intro wS hSw
                    (try dsimp only at hSw)
                    go_simp
                  (try simp only [Act.put]); (try simp only [List.setIfInBounds_toArray]); (try simp only [List.set_cons_succ]); (try simp only [List.set_cons_zero])
                  refine takeD (i := 25) (d := (some 111)) (v := (.pointer (some ⟨g, j * 4, none⟩))) rfl rfl (by kernel_rfl) (by kernel_rfl) (by kernel_rfl) (fun _ _ _ h => h) (Or.inl ⟨by kernel_rfl, ?_⟩) (by assumption) ?_
                  · intro wS hSw
                    (try dsimp only at hSw)
                    go_simp
                  (try simp only [Act.put]); (try simp only [List.setIfInBounds_toArray]); (try simp only [List.set_cons_succ]); (try simp only [List.set_cons_zero])
                  refine takeD (i := 26) (d := (some 112)) (v := (.pointer (some ⟨g, j * 4 + 1, none⟩))) rfl rfl (by kernel_rfl) (by kernel_rfl) (by kernel_rfl) (fun _ _ _ h => h) (Or.inl ⟨by kernel_rfl, ?_⟩) (by assumption) ?_
                  · intro wS hSw
                    (try dsimp only at hSw)
                    go_simp
                  (try simp only [Act.put]); (try simp only [List.setIfInBounds_toArray]); (try simp only [List.set_cons_succ]); (try simp only [List.set_cons_zero])
                  refine takeD (i := 27) (d := (some 113)) (v := (.int .i64 x.three)) rfl rfl (by kernel_rfl) (by kernel_rfl) (by kernel_rfl) (fun _ _ _ h => h) (Or.inl ⟨by kernel_rfl, ?_⟩) (by assumption) ?_
                  · intro wS hSw
                    (try dsimp only at hSw)
                    go_simp
                  (try simp only [Act.put]); (try simp only [List.setIfInBounds_toArray]); (try simp only [List.set_cons_succ]); (try simp only [List.set_cons_zero])
                  refine takeD (i := 28) (d := (some 114)) (v := (.slice (some ⟨g, 0, none⟩) 6 cap)) rfl rfl (by kernel_rfl) (by kernel_rfl) (by kernel_rfl) (fun _ _ _ h => h) (Or.inl ⟨by kernel_rfl, ?_⟩) (by assumption) ?_
                  · intro wS hSw
                    (try dsimp only at hSw)
                    go_simp
                  (try simp only [Act.put]); (try simp only [List.setIfInBounds_toArray]); (try simp only [List.set_cons_succ]); (try simp only [List.set_cons_zero])
                  refine takeD (i := 29) (d := (some 115)) (v := (.int .i64 (j : Int))) rfl rfl (by kernel_rfl) (by kernel_rfl) (by kernel_rfl) (fun _ _ _ h => h) (Or.inl ⟨by kernel_rfl, ?_⟩) (by assumption) ?_
                  · intro wS hSw
                    (try dsimp only at hSw)
                    go_simp
                  (try simp only [Act.put]); (try simp only [List.setIfInBounds_toArray]); (try simp only [List.set_cons_succ]); (try simp only [List.set_cons_zero])
                  refine takeD (i := 30) (d := (some 116)) (v := (.int .i64 (p : Int))) rfl rfl (by kernel_rfl) (by kernel_rfl) (by kernel_rfl) (fun _ _ _ h => h) (Or.inl ⟨by kernel_rfl, ?_⟩) (by assumption) ?_
                  · intro wS hSw
                    (try dsimp only at hSw)
                    go_simp
                  (try simp only [Act.put]); (try simp only [List.setIfInBounds_toArray]); (try simp only [List.set_cons_succ]); (try simp only [List.set_cons_zero])
                  refine takeD (i := 31) (d := (some 117)) (v := (.pointer (some ⟨g, p * 4, none⟩))) rfl rfl (by kernel_rfl) (by kernel_rfl) (by kernel_rfl) (fun _ _ _ h => h) (Or.inl ⟨by kernel_rfl, ?_⟩) (by assumption) ?_
                  · intro wS hSw
                    (try dsimp only at hSw)
                    go_simp
                  (try simp only [Act.put]); (try simp only [List.setIfInBounds_toArray]); (try simp only [List.set_cons_succ]); (try simp only [List.set_cons_zero])
                  refine takeD (i := 32) (d := (some 118)) (v := (.pointer (some ⟨g, p * 4 + 1, none⟩))) rfl rfl (by kernel_rfl) (by kernel_rfl) (by kernel_rfl) (fun _ _ _ h => h) (Or.inl ⟨by kernel_rfl, ?_⟩) (by assumption) ?_
                  · intro wS hSw
                    (try dsimp only at hSw)
                    go_simp
                  (try simp only [Act.put]); (try simp only [List.setIfInBounds_toArray]); (try simp only [List.set_cons_succ]); (try simp only [List.set_cons_zero])
                  refine takeD (i := 33) (d := (some 119)) (v := (.int .i64 y.three)) rfl rfl (by kernel_rfl) (by kernel_rfl) (by kernel_rfl) (fun _ _ _ h => h) (Or.inl ⟨by kernel_rfl, ?_⟩) (by assumption) ?_
                  · intro wS hSw
                    (try dsimp only at hSw)
                    go_simp
                  (try simp only [Act.put]); (try simp only [List.setIfInBounds_toArray]); (try simp only [List.set_cons_succ]); (try simp only [List.set_cons_zero])
                  refine takeD (i := 34) (d := (some 120)) (v := (.bool true)) rfl rfl (by kernel_rfl) (by kernel_rfl) (by kernel_rfl) (fun _ _ _ h => h) (Or.inl ⟨by kernel_rfl, ?_⟩) (by assumption) ?_
                  · intro wS hSw
                    (try dsimp only at hSw)
                    go_simp
                  (try simp only [Act.put]); (try simp only [List.setIfInBounds_toArray]); (try simp only [List.set_cons_succ]); (try simp only [List.set_cons_zero])
                  refine takeD (i := 35) (d := (some 121)) (v := (.bool true)) rfl rfl (by kernel_rfl) (by kernel_rfl) (by kernel_rfl) (fun _ _ _ h => h) (Or.inl ⟨by kernel_rfl, ?_⟩) (by assumption) ?_
                  · intro wS hSw
                    (try dsimp only at hSw)
                    go_simp
                  (try simp only [Act.put]); (try simp only [List.setIfInBounds_toArray]); (try simp only [List.set_cons_succ]); (try simp only [List.set_cons_zero])
                  refine takeD (i := 36) (d := (some 122)) (v := (.slice (some ⟨g, 0, none⟩) 6 cap)) rfl rfl (by kernel_rfl) (by kernel_rfl) (by kernel_rfl) (fun _ _ _ h => h) (Or.inl ⟨by kernel_rfl, ?_⟩) (by assumption) ?_
                  · intro wS hSw
                    (try dsimp only at hSw)
                    go_simp
                  (try simp only [Act.put]); (try simp only [List.setIfInBounds_toArray]); (try simp only [List.set_cons_succ]); (try simp only [List.set_cons_zero])
                  refine takeD (i := 37) (d := (some 123)) (v := (.int .i64 (j : Int))) rfl rfl (by kernel_rfl) (by kernel_rfl) (by kernel_rfl) (fun _ _ _ h => h) (Or.inl ⟨by kernel_rfl, ?_⟩) (by assumption) ?_
                  · intro wS hSw
                    (try dsimp only at hSw)
                    go_simp
                  (try simp only [Act.put]); (try simp only [List.setIfInBounds_toArray]); (try simp only [List.set_cons_succ]); (try simp only [List.set_cons_zero])
                  refine takeD (i := 38) (d := (some 124)) (v := (.pointer (some ⟨g, j * 4, none⟩))) rfl rfl (by kernel_rfl) (by kernel_rfl) (by kernel_rfl) (fun _ _ _ h => h) (Or.inl ⟨by kernel_rfl, ?_⟩) (by assumption) ?_
                  · intro wS hSw
                    (try dsimp only at hSw)
                    go_simp
                  (try simp only [Act.put]); (try simp only [List.setIfInBounds_toArray]); (try simp only [List.set_cons_succ]); (try simp only [List.set_cons_zero])
                  refine takeD (i := 39) (d := (some 125)) (v := (.pointer (some ⟨g, j * 4 + 2, none⟩))) rfl rfl (by kernel_rfl) (by kernel_rfl) (by kernel_rfl) (fun _ _ _ h => h) (Or.inl ⟨by kernel_rfl, ?_⟩) (by assumption) ?_
                  · intro wS hSw
                    (try dsimp only at hSw)
                    go_simp
                  (try simp only [Act.put]); (try simp only [List.setIfInBounds_toArray]); (try simp only [List.set_cons_succ]); (try simp only [List.set_cons_zero])
                  refine takeD (i := 40) (d := (some 126)) (v := (.int .i64 x.five)) rfl rfl (by kernel_rfl) (by kernel_rfl) (by kernel_rfl) (fun _ _ _ h => h) (Or.inl ⟨by kernel_rfl, ?_⟩) (by assumption) ?_
                  · intro wS hSw
                    (try dsimp only at hSw)
                    go_simp
                  (try simp only [Act.put]); (try simp only [List.setIfInBounds_toArray]); (try simp only [List.set_cons_succ]); (try simp only [List.set_cons_zero])
                  refine takeD (i := 41) (d := (some 127)) (v := (.slice (some ⟨g, 0, none⟩) 6 cap)) rfl rfl (by kernel_rfl) (by kernel_rfl) (by kernel_rfl) (fun _ _ _ h => h) (Or.inl ⟨by kernel_rfl, ?_⟩) (by assumption) ?_
                  · intro wS hSw
                    (try dsimp only at hSw)
                    go_simp
                  (try simp only [Act.put]); (try simp only [List.setIfInBounds_toArray]); (try simp only [List.set_cons_succ]); (try simp only [List.set_cons_zero])
                  refine takeD (i := 42) (d := (some 128)) (v := (.int .i64 (j : Int))) rfl rfl (by kernel_rfl) (by kernel_rfl) (by kernel_rfl) (fun _ _ _ h => h) (Or.inl ⟨by kernel_rfl, ?_⟩) (by assumption) ?_
                  · intro wS hSw
                    (try dsimp only at hSw)
                    go_simp
                  (try simp only [Act.put]); (try simp only [List.setIfInBounds_toArray]); (try simp only [List.set_cons_succ]); (try simp only [List.set_cons_zero])
                  refine takeD (i := 43) (d := (some 129)) (v := (.int .i64 (p : Int))) rfl rfl (by kernel_rfl) (by kernel_rfl) (by kernel_rfl) (fun _ _ _ h => h) (Or.inl ⟨by kernel_rfl, ?_⟩) (by assumption) ?_
                  · intro wS hSw
                    (try dsimp only at hSw)
                    go_simp
                  (try simp only [Act.put]); (try simp only [List.setIfInBounds_toArray]); (try simp only [List.set_cons_succ]); (try simp only [List.set_cons_zero])
                  refine takeD (i := 44) (d := (some 130)) (v := (.pointer (some ⟨g, p * 4, none⟩))) rfl rfl (by kernel_rfl) (by kernel_rfl) (by kernel_rfl) (fun _ _ _ h => h) (Or.inl ⟨by kernel_rfl, ?_⟩) (by assumption) ?_
                  · intro wS hSw
                    (try dsimp only at hSw)
                    go_simp
                  (try simp only [Act.put]); (try simp only [List.setIfInBounds_toArray]); (try simp only [List.set_cons_succ]); (try simp only [List.set_cons_zero])
                  refine takeD (i := 45) (d := (some 131)) (v := (.pointer (some ⟨g, p * 4 + 2, none⟩))) rfl rfl (by kernel_rfl) (by kernel_rfl) (by kernel_rfl) (fun _ _ _ h => h) (Or.inl ⟨by kernel_rfl, ?_⟩) (by assumption) ?_
                  · intro wS hSw
                    (try dsimp only at hSw)
                    go_simp
                  (try simp only [Act.put]); (try simp only [List.setIfInBounds_toArray]); (try simp only [List.set_cons_succ]); (try simp only [List.set_cons_zero])
                  refine takeD (i := 46) (d := (some 132)) (v := (.int .i64 y.five)) rfl rfl (by kernel_rfl) (by kernel_rfl) (by kernel_rfl) (fun _ _ _ h => h) (Or.inl ⟨by kernel_rfl, ?_⟩) (by assumption) ?_
                  · intro wS hSw
                    (try dsimp only at hSw)
                    go_simp
                  (try simp only [Act.put]); (try simp only [List.setIfInBounds_toArray]); (try simp only [List.set_cons_succ]); (try simp only [List.set_cons_zero])
                  refine takeD (i := 47) (d := (some 133)) (v := (.bool false)) rfl rfl (by kernel_rfl) (by kernel_rfl) (by kernel_rfl) (fun _ _ _ h => h) (Or.inl ⟨by kernel_rfl, ?_⟩) (by assumption) ?_
                  · intro wS hSw
                    (try dsimp only at hSw)
                    go_simp
                  (try simp only [Act.put]); (try simp only [List.setIfInBounds_toArray]); (try simp only [List.set_cons_succ]); (try simp only [List.set_cons_zero])
                  refine takeD (i := 48) (d := (some 134)) (v := (.bool false)) rfl rfl (by kernel_rfl) (by kernel_rfl) (by kernel_rfl) (fun _ _ _ h => h) (Or.inl ⟨by kernel_rfl, ?_⟩) (by assumption) ?_
                  · intro wS hSw
                    (try dsimp only at hSw)
                    go_simp
                  (try simp only [Act.put]); (try simp only [List.setIfInBounds_toArray]); (try simp only [List.set_cons_succ]); (try simp only [List.set_cons_zero])
                  refine takeD (i := 49) (d := (some 135)) (v := (.bool false)) rfl rfl (by kernel_rfl) (by kernel_rfl) (by kernel_rfl) (fun _ _ _ h => h) (Or.inl ⟨by kernel_rfl, ?_⟩) (by assumption) ?_
                  · intro wS hSw
                    (try dsimp only at hSw)
                    go_simp
                  (try simp only [Act.put]); (try simp only [List.setIfInBounds_toArray]); (try simp only [List.set_cons_succ]); (try simp only [List.set_cons_zero])
                  refine takeD (i := 50) (d := (some 136)) (v := (.bool false)) rfl rfl (by kernel_rfl) (by kernel_rfl) (by kernel_rfl) (fun _ _ _ h => h) (Or.inl ⟨by kernel_rfl, ?_⟩) (by assumption) ?_
                  · intro wS hSw
                    (try dsimp only at hSw)
                    go_simp
                  (try simp only [Act.put]); (try simp only [List.setIfInBounds_toArray]); (try simp only [List.set_cons_succ]); (try simp only [List.set_cons_zero])
                  refine takeD (i := 51) (d := (some 137)) (v := (.bool false)) rfl rfl (by kernel_rfl) (by kernel_rfl) (by kernel_rfl) (fun _ _ _ h => h) (Or.inl ⟨by kernel_rfl, ?_⟩) (by assumption) ?_
                  · intro wS hSw
                    (try dsimp only at hSw)
                    go_simp
                  (try simp only [Act.put]); (try simp only [List.setIfInBounds_toArray]); (try simp only [List.set_cons_succ]); (try simp only [List.set_cons_zero])
                  refine wpAnyH_done (by kernel_rfl) ?_ _
                  go_wp2_with fail
                  have RG2 := Lib.hid (rowC_keep hb RG.out)
                  have GS2 := Lib.hid (four_keep hb GS.out)
                  have GB2 := Lib.hid (GB.out.trans (hb.mono GB.out.size))
                  go_roundw
                  case rel => exact ⟨j + 1, by omega, by go_num, RG2, GS2, GB2⟩
                  case measure => simp [intOf]; omega
            · obtain rfl : j = 6 := by omega
              clear hlt j1
              have HS1 := Lib.hid (senAt_below HS.out GB.out)
              have ea : (a == a) = true := by simp
              have eb : (b == b) = true := by simp
              go_upto_region 22 with fail
              obtain ⟨V3, hV3⟩ : ∃ y, y = wr := ⟨_, rfl⟩
              rw [← hV3] at GS GB ⊢
              clear hV3 RG
              go_region_held3 (fun w' => w'.cell? ⟨mS, 0, none⟩ = some (.int .i64 (-15)) ∧ w'.cell? ⟨mS, 1, none⟩ = some (.int .i64 8) ∧ w'.cell? ⟨mS, 2, none⟩ = some (.int .i64 1) ∧ w'.cell? ⟨mS, 3, none⟩ = some (.int .i64 1)) (with_reducible first | exact four_cells (four_drewF GS.out) | exact four_cells (four_keep (by assumption) GS.out) | exact four_cells GS.out)
                (first
                  | (go_at_call 46; refine (calls_fromF (W := V3) (by with_reducible first | assumption | exact (Below.refl _ _).drew) (comma_impl com4At _)).mono ?_; rintro e1 w9 ⟨rfl, hb⟩))
              all_goals
                go_wp2_with fail
                go_ret
                exact ⟨rfl, GB.out.trans (hb.mono GB.out.size)⟩
end Go.Proofs.YtdnlebijmiaclabDoor
