/- The walk of laws.FnFifths. -/
import Derived.Test.YtdnlebijmiaclabDoorFifMath
import Derived.Test.YtdnlebijmiaclabDoorAtWalks
import Derived.Test.YtdnlebijmiaclabDoorTonesMath
import Derived.Deep.RegionWith
namespace Go.Proofs.YtdnlebijmiaclabDoor
open Go.RowKit Go.Joins
set_option linter.unusedVariables false
/-- What the law's calls answer. -/
structure FifSay (P : Addr) (a b c tx ty tz ts z : Int) (y : Bool) : Prop where
  s1 : ∀ w, Calls Tryd.prog 39 #[.int .i64 a] w fun en w' => en = .returned (.tuple #[ivV tx a 0 1, .bool true]) ∧ Below w.heap.size w w'
  s2 : ∀ w, Calls Tryd.prog 39 #[.int .i64 b] w fun en w' => en = .returned (.tuple #[ivV ty b 0 1, .bool true]) ∧ Below w.heap.size w w'
  s3 : ∀ w, Calls Tryd.prog 39 #[.int .i64 c] w fun en w' => en = .returned (.tuple #[ivV tz c 0 1, .bool true]) ∧ Below w.heap.size w w'
  s4 : ∀ w, Calls Tryd.prog 19 #[ivV tx a 0 1, ivV ty b 0 1] w fun en w' => en = .returned (.tuple #[ivV ts c 0 1, .bool true]) ∧ Below w.heap.size w w'
  s5 : ∀ w, Calls Tryd.prog 39 #[.int .i64 12] w fun en w' => en = .returned (.tuple #[ivV (-19) 12 0 1, .bool true]) ∧ Below w.heap.size w w'
  s6 : ∀ w, Calls Tryd.prog 37 #[ivV ts c 0 1, ivV tz c 0 1] w fun en w' => en = .returned (.bool true) ∧ Below w.heap.size w w'
  s7 : ∀ w, Calls Tryd.prog 34 #[.int .i64 (-19), .int .i64 12, .int .i64 0] w fun en w' => en = .returned (ivV (-19) 12 0 1) ∧ Below w.heap.size w w'
  s8 : ∀ w, SenAt P w → Calls Tryd.prog 20 #[ivV tx a 0 1] w fun en w' => en = .returned (.int .i64 z) ∧ Below w.heap.size w w'
  z0 : (z == 0) = y
  a0 : (a == 0) = y
theorem fifSay_ex (P : Addr) {a b c : Int} (ha : -20 ≤ a ∧ a ≤ 20) (hb : -20 ≤ b ∧ b ≤ 20) (hc : c = a + b) : ∃ tx ty tz ts z y, FifSay P a b c tx ty tz ts z y := by
  have a2 := fif_bd (n := a) (by omega)
  have b2 := fif_bd (n := b) (by omega)
  have c2 := fif_bd (n := c) (by omega)
  have bt : ∀ n : Int, -20 ≤ n ∧ n ≤ 20 → -200 ≤ (fifV n).two ∧ (fifV n).two ≤ 200 := fun n hn => by
    obtain ⟨i, hi, hm, hp⟩ := fif_place (n := n) (by omega)
    have e : (fifV n).two = fifTs.getD i 0 := by unfold fifV; rw [hp]
    rw [e]
    exact (show ∀ i, i < 81 → -200 ≤ fifTs.getD i 0 ∧ fifTs.getD i 0 ≤ 200 from by decide +kernel) i hi
  have a3 := bt a ha
  have b3 := bt b hb
  have ad := fif_add (a := a) (b := b) (by omega) (by omega) (by omega)
  refine ⟨(fifV a).two, (fifV b).two, (fifV c).two, (fifV a).two + (fifV b).two, cmp8 (fifV a).two a 0 1 0 0 0 1, decide (a = 0),
    fun w => fifths_impl (fif_at (n := a) (by omega)) w, fun w => fifths_impl (fif_at (n := b) (by omega)) w, fun w => fifths_impl (fif_at (n := c) (by omega)) w, fun w => ?_,
    fun w => fifths_impl (fif_at (n := 12) (by omega)) w, fun w => ?_, fun w => pure_impl_yes (-19) 12 0 w (by decide), fun w hs => sign_impl P _ _ _ _ w hs, ?_, by rw [Bool.eq_iff_iff]; simp⟩
  · have h := add_total (fifV a) (fifV b) w
    rw [ad, ← hc] at h
    exact h
  · have h := pc_impl (fif_within (n := c) (t := (fifV a).two + (fifV b).two) (by omega) (by omega)) (fif_within (n := c) (t := (fifV c).two) (by omega) (by omega)) w
    simpa using h
  · have e : cmp8 (fifV a).two a 0 1 0 0 0 1 = sgnV (fifV a) := cmpV_prime (x := fifV a) a2.2.2
    rw [e, Bool.eq_iff_iff]
    simp [fif_sgn (n := a) (by omega)]
/-- Four intervals in four blocks. -/
def QuadF (m1 m2 m3 m4 : Nat) (tx a tz c ts : Int) (w : World) : Prop := Four m1 tx a 0 1 w ∧ Four m2 tz c 0 1 w ∧ Four m3 ts c 0 1 w ∧ Four m4 (-19) 12 0 1 w
theorem quadF_keep {W w : World} {m1 m2 m3 m4 : Nat} {tx a tz c ts : Int} (hb : Below W.heap.size W w) (h : QuadF m1 m2 m3 m4 tx a tz c ts W) : QuadF m1 m2 m3 m4 tx a tz c ts w := ⟨four_keep hb h.1, four_keep hb h.2.1, four_keep hb h.2.2.1, four_keep hb h.2.2.2⟩
theorem quadF_drew {w : World} {m1 m2 m3 m4 : Nat} {tx a tz c ts : Int} (h : QuadF m1 m2 m3 m4 tx a tz c ts w) : QuadF m1 m2 m3 m4 tx a tz c ts w.drew := h
theorem quadF_cells {w : World} {m1 m2 m3 m4 : Nat} {tx a tz c ts : Int} (h : QuadF m1 m2 m3 m4 tx a tz c ts w) : w.cell? ⟨m1, 0, none⟩ = some (.int .i64 tx) ∧ w.cell? ⟨m1, 1, none⟩ = some (.int .i64 a) ∧ w.cell? ⟨m1, 2, none⟩ = some (.int .i64 0) ∧ w.cell? ⟨m1, 3, none⟩ = some (.int .i64 1) ∧ w.cell? ⟨m2, 0, none⟩ = some (.int .i64 tz) ∧ w.cell? ⟨m2, 1, none⟩ = some (.int .i64 c) ∧ w.cell? ⟨m2, 2, none⟩ = some (.int .i64 0) ∧ w.cell? ⟨m2, 3, none⟩ = some (.int .i64 1) ∧ w.cell? ⟨m3, 0, none⟩ = some (.int .i64 ts) ∧ w.cell? ⟨m3, 1, none⟩ = some (.int .i64 c) ∧ w.cell? ⟨m3, 2, none⟩ = some (.int .i64 0) ∧ w.cell? ⟨m3, 3, none⟩ = some (.int .i64 1) ∧ w.cell? ⟨m4, 0, none⟩ = some (.int .i64 (-19)) ∧ w.cell? ⟨m4, 1, none⟩ = some (.int .i64 12) ∧ w.cell? ⟨m4, 2, none⟩ = some (.int .i64 0) ∧ w.cell? ⟨m4, 3, none⟩ = some (.int .i64 1) :=
  ⟨h.1.2.1, h.1.2.2.1, h.1.2.2.2.1, h.1.2.2.2.2, h.2.1.2.1, h.2.1.2.2.1, h.2.1.2.2.2.1, h.2.1.2.2.2.2, h.2.2.1.2.1, h.2.2.1.2.2.1, h.2.2.1.2.2.2.1, h.2.2.1.2.2.2.2, h.2.2.2.2⟩
set_option maxRecDepth 100000 in
set_option maxHeartbeats 16000000 in
theorem walk_FnFifths (P : Addr) (a0 : Option Addr) (len0 cap0 : Nat) (z0 : List Int) (w : World) (hs : SenAt P w) (hr : IsRow .u8 w a0 len0 cap0 z0) :
    Calls Tryd.prog 9 #[.slice a0 len0 cap0] w fun e w' => e = .returned (.bool true) ∧ Below w.heap.size w w' := by
  have hlen := (row_len hr).2
  have HS := Lib.hid hs
  clear hs
  by_cases hbig : 1048576 < len0
  · have t0 : decide (1048576 < (len0 : Int)) = true := by simp; omega
    go_enter Tryd.func9, Tryd.ntmps9
    go_wp2_with fail
    refine (bigA_any _ _ _ _ hlen).mono ?_
    rintro e w' ⟨rfl, rfl⟩
    go_wp2_with fail
    go_ret
    exact ⟨rfl, Below.refl _ _⟩
  · have t0 : decide (1048576 < (len0 : Int)) = false := by simp; omega
    have AT0 := Lib.hid (at_any hr (by omega) 0 (by omega))
    have AT1 := Lib.hid (at_any hr (by omega) 1 (by omega))
    clear hr
    go_enter Tryd.func9, Tryd.ntmps9
    go_wp2_with fail
    refine (bigA_any _ _ _ _ hlen).mono ?_
    rintro e w' ⟨rfl, rfl⟩
    rw [t0]
    go_wp2_with fail
    refine AT0.out.mono ?_
    rintro e w0 ⟨u, hu, rfl, rfl⟩
    obtain ⟨r, hr1, hr2⟩ : ∃ r : Nat, (u : Int) % 41 = (r : Int) ∧ r < 41 := ⟨u % 41, by omega, by omega⟩
    have hm : (u : Int).tmod 41 = (r : Int) := by rw [Int.tmod_eq_emod_of_nonneg (by omega)]; exact hr1
    obtain ⟨a, ha⟩ : ∃ a : Int, a = (r : Int) - 20 := ⟨_, rfl⟩
    have wa : IntKind.i64.wrap ((r : Int) - 20) = a := by rw [IntWalk.i64_in _ (by omega)]; exact ha.symm
    have HA := Lib.hid (show -20 ≤ a ∧ a ≤ 20 by omega)
    clear hr1 hr2 ha hu
    go_wp2_with fail
    clear hm wa
    refine AT1.out.mono ?_
    rintro e w0 ⟨u1, hu1, rfl, rfl⟩
    obtain ⟨r1, hr1, hr2⟩ : ∃ r : Nat, (u1 : Int) % 41 = (r : Int) ∧ r < 41 := ⟨u1 % 41, by omega, by omega⟩
    have hm : (u1 : Int).tmod 41 = (r1 : Int) := by rw [Int.tmod_eq_emod_of_nonneg (by omega)]; exact hr1
    obtain ⟨b, hb⟩ : ∃ a : Int, a = (r1 : Int) - 20 := ⟨_, rfl⟩
    have wa : IntKind.i64.wrap ((r1 : Int) - 20) = b := by rw [IntWalk.i64_in _ (by omega)]; exact hb.symm
    have HB := Lib.hid (show -20 ≤ b ∧ b ≤ 20 by omega)
    obtain ⟨c, hc⟩ : ∃ c : Int, c = a + b := ⟨_, rfl⟩
    have wc : IntKind.i64.wrap (a + b) = c := by have := HA.out; have := HB.out; rw [IntWalk.i64_in _ (by omega)]; exact hc.symm
    obtain ⟨tx, ty, tz, ts, z, y, hsay⟩ := fifSay_ex P HA.out HB.out hc
    have K := Lib.hid hsay
    have BB := Lib.hid (Below.refl w.heap.size w)
    have WC := Lib.hid wc
    clear hsay hr1 hr2 hb hu1 hc wc hlen hbig t0
    go_wp2_with fail
    clear hm wa
    refine (K.out.s1 _).mono ?_
    rintro en w2 ⟨rfl, hb⟩
    go_upto_region 6 with fail
    obtain ⟨V, hW⟩ : ∃ W, W = w2.alloc (.cells #[.int .i64 tx, .int .i64 a, .int .i64 0, .int .i64 1] 25) := ⟨_, rfl⟩
    obtain ⟨mX, hm⟩ : ∃ k, k = w2.heap.size := ⟨_, rfl⟩
    have gX : Four mX tx a 0 1 V := by rw [hW, hm]; exact four_alloc
    have bb := BB.out.trans (hb.mono BB.out.size)
    have b2 := bb.alloc bb.size (.cells #[.int .i64 tx, .int .i64 a, .int .i64 0, .int .i64 1] 25)
    rw [← hW] at b2
    rw [← hm, ← hW]
    clear hm hW hb bb BB 
    have FX := Lib.hid gX
    have BB := Lib.hid b2
    clear b2 gX
    go_wp2_with fail
    refine (K.out.s2 _).mono ?_
    rintro en w3 ⟨rfl, hb⟩
    go_upto_region 7 with fail
    obtain ⟨V, hW⟩ : ∃ W, W = w3.alloc (.cells #[.int .i64 ty, .int .i64 b, .int .i64 0, .int .i64 1] 25) := ⟨_, rfl⟩
    obtain ⟨mY, hm⟩ : ∃ k, k = w3.heap.size := ⟨_, rfl⟩
    have gX := four_alF (o := (.cells #[.int .i64 ty, .int .i64 b, .int .i64 0, .int .i64 1] 25)) (four_keep hb FX.out)
    have gY : Four mY ty b 0 1 V := by rw [hW, hm]; exact four_alloc
    have bb := BB.out.trans (hb.mono BB.out.size)
    have b2 := bb.alloc bb.size (.cells #[.int .i64 ty, .int .i64 b, .int .i64 0, .int .i64 1] 25)
    rw [← hW] at gX b2
    rw [← hm, ← hW]
    clear hm hW hb bb BB FX
    have FX := Lib.hid gX
    have FY := Lib.hid gY
    have BB := Lib.hid b2
    clear b2 gX gY
    have wc := WC.out
    go_wp2_with fail
    refine (K.out.s3 _).mono ?_
    rintro en w4 ⟨rfl, hb⟩
    go_upto_region 8 with fail
    obtain ⟨V, hW⟩ : ∃ W, W = w4.alloc (.cells #[.int .i64 tz, .int .i64 c, .int .i64 0, .int .i64 1] 25) := ⟨_, rfl⟩
    obtain ⟨mZ, hm⟩ : ∃ k, k = w4.heap.size := ⟨_, rfl⟩
    have gX := four_alF (o := (.cells #[.int .i64 tz, .int .i64 c, .int .i64 0, .int .i64 1] 25)) (four_keep hb FX.out)
    have gY := four_alF (o := (.cells #[.int .i64 tz, .int .i64 c, .int .i64 0, .int .i64 1] 25)) (four_keep hb FY.out)
    have gZ : Four mZ tz c 0 1 V := by rw [hW, hm]; exact four_alloc
    have bb := BB.out.trans (hb.mono BB.out.size)
    have b2 := bb.alloc bb.size (.cells #[.int .i64 tz, .int .i64 c, .int .i64 0, .int .i64 1] 25)
    rw [← hW] at gX gY b2
    rw [← hm, ← hW]
    clear hm hW hb bb BB FX FY
    have FX := Lib.hid gX
    have FY := Lib.hid gY
    have FZ := Lib.hid gZ
    have BB := Lib.hid b2
    clear b2 gX gY gZ
    clear wc
    obtain ⟨_, X0, X1, X2, X3⟩ := FX.out
    obtain ⟨_, Y0, Y1, Y2, Y3⟩ := FY.out
    go_wp2_with fail
    refine (K.out.s4 _).mono ?_
    rintro en w5 ⟨rfl, hb⟩
    clear X0 X1 X2 X3 Y0 Y1 Y2 Y3
    go_upto_region 9 with fail
    obtain ⟨V, hW⟩ : ∃ W, W = w5.alloc (.cells #[.int .i64 ts, .int .i64 c, .int .i64 0, .int .i64 1] 25) := ⟨_, rfl⟩
    obtain ⟨mS, hm⟩ : ∃ k, k = w5.heap.size := ⟨_, rfl⟩
    have gX := four_alF (o := (.cells #[.int .i64 ts, .int .i64 c, .int .i64 0, .int .i64 1] 25)) (four_keep hb FX.out)
    have gY := four_alF (o := (.cells #[.int .i64 ts, .int .i64 c, .int .i64 0, .int .i64 1] 25)) (four_keep hb FY.out)
    have gZ := four_alF (o := (.cells #[.int .i64 ts, .int .i64 c, .int .i64 0, .int .i64 1] 25)) (four_keep hb FZ.out)
    have gS : Four mS ts c 0 1 V := by rw [hW, hm]; exact four_alloc
    have bb := BB.out.trans (hb.mono BB.out.size)
    have b2 := bb.alloc bb.size (.cells #[.int .i64 ts, .int .i64 c, .int .i64 0, .int .i64 1] 25)
    rw [← hW] at gX gY gZ b2
    rw [← hm, ← hW]
    clear hm hW hb bb BB FX FY FZ
    have FX := Lib.hid gX
    have FY := Lib.hid gY
    have FZ := Lib.hid gZ
    have FQ := Lib.hid gS
    have BB := Lib.hid b2
    clear b2 gX gY gZ gS
    go_wp2_with fail
    refine (K.out.s5 _).mono ?_
    rintro en w6 ⟨rfl, hb⟩
    go_upto_region 10 with fail
    obtain ⟨V, hW⟩ : ∃ W, W = w6.alloc (.cells #[.int .i64 (-19), .int .i64 12, .int .i64 0, .int .i64 1] 25) := ⟨_, rfl⟩
    obtain ⟨mC, hm⟩ : ∃ k, k = w6.heap.size := ⟨_, rfl⟩
    have gX := four_alF (o := (.cells #[.int .i64 (-19), .int .i64 12, .int .i64 0, .int .i64 1] 25)) (four_keep hb FX.out)
    have gY := four_alF (o := (.cells #[.int .i64 (-19), .int .i64 12, .int .i64 0, .int .i64 1] 25)) (four_keep hb FY.out)
    have gZ := four_alF (o := (.cells #[.int .i64 (-19), .int .i64 12, .int .i64 0, .int .i64 1] 25)) (four_keep hb FZ.out)
    have gS := four_alF (o := (.cells #[.int .i64 (-19), .int .i64 12, .int .i64 0, .int .i64 1] 25)) (four_keep hb FQ.out)
    have gC : Four mC (-19) 12 0 1 V := by rw [hW, hm]; exact four_alloc
    have bb := BB.out.trans (hb.mono BB.out.size)
    have b2 := bb.alloc bb.size (.cells #[.int .i64 (-19), .int .i64 12, .int .i64 0, .int .i64 1] 25)
    rw [← hW] at gX gY gZ gS b2
    rw [← hm, ← hW]
    clear hm hW hb bb BB FX FY FZ FQ
    have FX := Lib.hid gX
    have FY := Lib.hid gY
    have FZ := Lib.hid gZ
    have FQ := Lib.hid gS
    have FC := Lib.hid gC
    have BB := Lib.hid b2
    clear b2 gX gY gZ gS gC
    have F4 : Hid (QuadF mX mZ mS mC tx a tz c ts V) := Lib.hid ⟨FX.out, FZ.out, FQ.out, FC.out⟩
    have HS1 := Lib.hid (senAt_below HS.out BB.out)
    have z9 := K.out.z0
    have a9 := K.out.a0
    clear FX FY FZ FQ FC HS
    go_region_held3 (fun w' => w'.cell? ⟨mX, 0, none⟩ = some (.int .i64 tx) ∧ w'.cell? ⟨mX, 1, none⟩ = some (.int .i64 a) ∧ w'.cell? ⟨mX, 2, none⟩ = some (.int .i64 0) ∧ w'.cell? ⟨mX, 3, none⟩ = some (.int .i64 1) ∧ w'.cell? ⟨mZ, 0, none⟩ = some (.int .i64 tz) ∧ w'.cell? ⟨mZ, 1, none⟩ = some (.int .i64 c) ∧ w'.cell? ⟨mZ, 2, none⟩ = some (.int .i64 0) ∧ w'.cell? ⟨mZ, 3, none⟩ = some (.int .i64 1) ∧ w'.cell? ⟨mS, 0, none⟩ = some (.int .i64 ts) ∧ w'.cell? ⟨mS, 1, none⟩ = some (.int .i64 c) ∧ w'.cell? ⟨mS, 2, none⟩ = some (.int .i64 0) ∧ w'.cell? ⟨mS, 3, none⟩ = some (.int .i64 1) ∧ w'.cell? ⟨mC, 0, none⟩ = some (.int .i64 (-19)) ∧ w'.cell? ⟨mC, 1, none⟩ = some (.int .i64 12) ∧ w'.cell? ⟨mC, 2, none⟩ = some (.int .i64 0) ∧ w'.cell? ⟨mC, 3, none⟩ = some (.int .i64 1)) (with_reducible first | exact quadF_cells (quadF_drew F4.out) | exact quadF_cells (quadF_keep (by assumption) F4.out) | exact quadF_cells F4.out)
      (first
        | (go_at_call 37; refine (calls_fromF (W := V) (by with_reducible first | assumption | exact (Below.refl _ _).drew) (K.out.s6 _)).mono ?_; rintro e1 wy ⟨rfl, hb⟩)
        | (go_at_call 34; refine (calls_fromF (W := V) (by with_reducible first | assumption | exact (Below.refl _ _).drew) (K.out.s7 _)).mono ?_; rintro e1 wy ⟨rfl, hb⟩)
        | (go_at_call 20; refine (calls_fromF (W := V) (by with_reducible first | assumption | exact (Below.refl _ _).drew) (K.out.s8 _ (senAt_below HS1.out (by with_reducible first | assumption | exact (Below.refl _ _).drew)))).mono ?_; rintro e1 wy ⟨rfl, hb⟩)
      )
    all_goals
      go_wp2_with fail
      go_ret
      exact ⟨rfl, BB.out.trans (hb.mono BB.out.size)⟩
end Go.Proofs.YtdnlebijmiaclabDoor
