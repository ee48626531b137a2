/- The walk of laws.FnOctaves. -/
import Derived.Test.YtdnlebijmiaclabDoorOctSay
import Derived.Test.YtdnlebijmiaclabDoorBigWalk
namespace Go.Proofs.YtdnlebijmiaclabDoor
open Go.RowKit Go.Joins
set_option linter.unusedVariables false
/-- Three drawn intervals in three new blocks: the first one. -/
theorem box3 (w : World) (a b c d e f g h i j k l : Int) (T : TypeId) : ∃ W, W = ((w.alloc (.cells #[.int .i64 a, .int .i64 b, .int .i64 c, .int .i64 d] T)).alloc (.cells #[.int .i64 e, .int .i64 f, .int .i64 g, .int .i64 h] T)).alloc (.cells #[.int .i64 i, .int .i64 j, .int .i64 k, .int .i64 l] T) ∧ Four w.heap.size a b c d W ∧ Below w.heap.size w W :=
  ⟨_, rfl, four_alF (four_alF four_alloc), below_alloc3 w _ _ _⟩
/-- A new block of zeros, behind B. -/
def ZeroB (B m : Nat) (w : World) : Prop := B ≤ m ∧ Zero4 m w
theorem zeroB_alloc {W X : World} {t : TypeId} (h : Below W.heap.size W X) : ZeroB W.heap.size X.heap.size (X.alloc (.cells #[.int .i64 0, .int .i64 0, .int .i64 0, .int .i64 0] t)) := ⟨h.size, zero4_alloc⟩
theorem zeroB_drew {B m : Nat} {X : World} (h : ZeroB B m X) : ZeroB B m X.drew := h
theorem belowO_al {W X : World} {o : Obj} (h : Below W.heap.size W X) : Below W.heap.size W (X.alloc o) := h.alloc h.size o
theorem calls_zeroB {P : Program} {k : FuncId} {args : Array Value} {W w : World} {v : Value} {B m : Nat} (h : Below W.heap.size W w) (hz : ZeroB B m w) (hk : Calls P k args w fun e w' => e = .returned v ∧ Below w.heap.size w w') :
    Calls P k args w fun e w' => e = .returned v ∧ Below W.heap.size W w' ∧ ZeroB B m w' :=
  hk.mono fun _ _ ⟨he, hb⟩ => ⟨he, h.trans (hb.mono h.size), hz.1, zero4_keep hb hz.2⟩
/-- Six intervals in six blocks. -/
def Six (m1 m2 m3 m4 m5 m6 : Nat) (a b c d p q r s i j k l : Int) (w : World) : Prop := Four m1 a b c d w ∧ Four m2 p q r s w ∧ Four m3 p q r s w ∧ Four m4 p q r s w ∧ Four m5 1 0 0 1 w ∧ Four m6 i j k l w
theorem six_keep {W w : World} {m1 m2 m3 m4 m5 m6 : Nat} {a b c d p q r s i j k l : Int} (hb : Below W.heap.size W w) (h : Six m1 m2 m3 m4 m5 m6 a b c d p q r s i j k l W) : Six m1 m2 m3 m4 m5 m6 a b c d p q r s i j k l w :=
  ⟨four_keep hb h.1, four_keep hb h.2.1, four_keep hb h.2.2.1, four_keep hb h.2.2.2.1, four_keep hb h.2.2.2.2.1, four_keep hb h.2.2.2.2.2⟩
theorem six_drew {w : World} {m1 m2 m3 m4 m5 m6 : Nat} {a b c d p q r s i j k l : Int} (h : Six m1 m2 m3 m4 m5 m6 a b c d p q r s i j k l w) : Six m1 m2 m3 m4 m5 m6 a b c d p q r s i j k l w.drew := h
theorem six_cells {w : World} {m1 m2 m3 m4 m5 m6 : Nat} {a b c d p q r s i j k l : Int} (h : Six m1 m2 m3 m4 m5 m6 a b c d p q r s i j k l w) : w.cell? ⟨m1, 0, none⟩ = some (.int .i64 a) ∧ w.cell? ⟨m1, 1, none⟩ = some (.int .i64 b) ∧ w.cell? ⟨m1, 2, none⟩ = some (.int .i64 c) ∧ w.cell? ⟨m1, 3, none⟩ = some (.int .i64 d) ∧ w.cell? ⟨m2, 0, none⟩ = some (.int .i64 p) ∧ w.cell? ⟨m2, 1, none⟩ = some (.int .i64 q) ∧ w.cell? ⟨m2, 2, none⟩ = some (.int .i64 r) ∧ w.cell? ⟨m2, 3, none⟩ = some (.int .i64 s) ∧ w.cell? ⟨m3, 0, none⟩ = some (.int .i64 p) ∧ w.cell? ⟨m3, 1, none⟩ = some (.int .i64 q) ∧ w.cell? ⟨m3, 2, none⟩ = some (.int .i64 r) ∧ w.cell? ⟨m3, 3, none⟩ = some (.int .i64 s) ∧ w.cell? ⟨m4, 0, none⟩ = some (.int .i64 p) ∧ w.cell? ⟨m4, 1, none⟩ = some (.int .i64 q) ∧ w.cell? ⟨m4, 2, none⟩ = some (.int .i64 r) ∧ w.cell? ⟨m4, 3, none⟩ = some (.int .i64 s) ∧ w.cell? ⟨m5, 0, none⟩ = some (.int .i64 1) ∧ w.cell? ⟨m5, 1, none⟩ = some (.int .i64 0) ∧ w.cell? ⟨m5, 2, none⟩ = some (.int .i64 0) ∧ w.cell? ⟨m5, 3, none⟩ = some (.int .i64 1) ∧ w.cell? ⟨m6, 0, none⟩ = some (.int .i64 i) ∧ w.cell? ⟨m6, 1, none⟩ = some (.int .i64 j) ∧ w.cell? ⟨m6, 2, none⟩ = some (.int .i64 k) ∧ w.cell? ⟨m6, 3, none⟩ = some (.int .i64 l) :=
  ⟨h.1.2.1, h.1.2.2.1, h.1.2.2.2.1, h.1.2.2.2.2, h.2.1.2.1, h.2.1.2.2.1, h.2.1.2.2.2.1, h.2.1.2.2.2.2, h.2.2.1.2.1, h.2.2.1.2.2.1, h.2.2.1.2.2.2.1, h.2.2.1.2.2.2.2, h.2.2.2.1.2.1, h.2.2.2.1.2.2.1, h.2.2.2.1.2.2.2.1, h.2.2.2.1.2.2.2.2, h.2.2.2.2.1.2.1, h.2.2.2.2.1.2.2.1, h.2.2.2.2.1.2.2.2.1, h.2.2.2.2.1.2.2.2.2, h.2.2.2.2.2.2⟩
set_option maxRecDepth 100000 in
set_option maxHeartbeats 16000000 in
theorem walk_FnOctaves (P : Addr) (a0 : Option Addr) (len0 cap0 : Nat) (z0 : List Int) (w : World) (hs : SenAt P w) (hr : IsRow .u8 w a0 len0 cap0 z0) :
    Calls Tryd.prog 8 #[.slice a0 len0 cap0] w fun e w' => e = .returned (.bool true) ∧ Below w.heap.size w w' := by
  have hlen := (row_len hr).2
  have HS := Lib.hid hs
  clear hs
  by_cases hbig : 1048576 < len0
  · have t0 : decide (1048576 < (len0 : Int)) = true := by simp; omega
    go_enter Tryd.func8, Tryd.ntmps8
    go_wp2_with fail
    refine (bigW_any _ _ _ _ hlen).mono ?_
    rintro e w' ⟨rfl, rfl⟩
    go_wp2_with fail
    go_ret
    exact ⟨rfl, Below.refl _ _⟩
  · have t0 : decide (1048576 < (len0 : Int)) = false := by simp; omega
    have HR := Lib.hid hr
    clear hr
    go_enter Tryd.func8, Tryd.ntmps8
    go_wp2_with fail
    refine (bigW_any _ _ _ _ hlen).mono ?_
    rintro e w' ⟨rfl, rfl⟩
    go_wp2_with fail
    refine (drawTones_any HR.out).mono ?_
    rintro en w1 ⟨a, b, c, d, a2, b2, c2, d2, a3, b3, c3, d3, hT1, _, _, rfl, hb1⟩
    obtain ⟨p, q, r, s, e, f, g, h, i, j, k, l, n, z, y, hsay⟩ := octSay_ex P hT1
    have K := Lib.hid hsay
    have HB := Lib.hid hb1
    clear hsay hT1 hb1 HR hlen hbig t0
    obtain ⟨W0, hW, E0, EB⟩ := box3 w1 a b c d a2 b2 c2 d2 a3 b3 c3 d3 25
    have HW := Lib.hid hW
    have FA := Lib.hid E0
    have BB := Lib.hid (HB.out.trans (EB.mono HB.out.size))
    clear hW E0 EB HB
    go_upto_region 4 with fail
    rw [← HW.out]
    clear HW
    obtain ⟨mA, hm⟩ : ∃ n, n = w1.heap.size := ⟨_, rfl⟩
    rw [← hm] at FA ⊢
    clear hm
    obtain ⟨_, A0, A1, A2, A3⟩ := FA.out
    go_wp2_with fail
    refine (K.out.s1 _).mono ?_
    rintro en w2 ⟨rfl, hb⟩
    clear A0 A1 A2 A3
    go_upto_region 5 with fail
    obtain ⟨V, hW⟩ : ∃ W, W = w2.alloc (.cells #[.int .i64 p, .int .i64 q, .int .i64 r, .int .i64 s] 25) := ⟨_, rfl⟩
    obtain ⟨mX, hm⟩ : ∃ k, k = w2.heap.size := ⟨_, rfl⟩
    have gA := four_alF (o := (.cells #[.int .i64 p, .int .i64 q, .int .i64 r, .int .i64 s] 25)) (four_keep hb FA.out)
    have gX : Four mX p q r s V := by rw [hW, hm]; exact four_alloc
    have bb := BB.out.trans (hb.mono BB.out.size)
    have b2 := bb.alloc bb.size (.cells #[.int .i64 p, .int .i64 q, .int .i64 r, .int .i64 s] 25)
    rw [← hW] at gA b2
    rw [← hm, ← hW]
    clear hm hW hb bb BB FA
    have FA := Lib.hid gA
    have FX := Lib.hid gX
    have BB := Lib.hid b2
    clear b2 gA gX
    obtain ⟨_, X0, X1, X2, X3⟩ := FX.out
    go_wp2_with fail
    refine (K.out.s2 _).mono ?_
    rintro en w3 ⟨rfl, hb⟩
    clear X0 X1 X2 X3
    go_upto_region 6 with fail
    obtain ⟨V, hW⟩ : ∃ W, W = w3.alloc (.cells #[.int .i64 p, .int .i64 q, .int .i64 r, .int .i64 s] 25) := ⟨_, rfl⟩
    obtain ⟨mY, hm⟩ : ∃ k, k = w3.heap.size := ⟨_, rfl⟩
    have gA := four_alF (o := (.cells #[.int .i64 p, .int .i64 q, .int .i64 r, .int .i64 s] 25)) (four_keep hb FA.out)
    have gX := four_alF (o := (.cells #[.int .i64 p, .int .i64 q, .int .i64 r, .int .i64 s] 25)) (four_keep hb FX.out)
    have gY : Four mY p q r s V := by rw [hW, hm]; exact four_alloc
    have bb := BB.out.trans (hb.mono BB.out.size)
    have b2 := bb.alloc bb.size (.cells #[.int .i64 p, .int .i64 q, .int .i64 r, .int .i64 s] 25)
    rw [← hW] at gA gX b2
    rw [← hm, ← hW]
    clear hm hW hb bb BB FA FX
    have FA := Lib.hid gA
    have FX := Lib.hid gX
    have FY := Lib.hid gY
    have BB := Lib.hid b2
    clear b2 gA gX gY
    obtain ⟨_, X0, X1, X2, X3⟩ := FX.out
    go_wp2_with fail
    refine (K.out.s3 _).mono ?_
    rintro en w4 ⟨rfl, hb⟩
    clear X0 X1 X2 X3
    go_upto_region 7 with fail
    obtain ⟨V, hW⟩ : ∃ W, W = w4.alloc (.cells #[.int .i64 e, .int .i64 f, .int .i64 g, .int .i64 h] 25) := ⟨_, rfl⟩
    obtain ⟨mI, hm⟩ : ∃ k, k = w4.heap.size := ⟨_, rfl⟩
    have gA := four_alF (o := (.cells #[.int .i64 e, .int .i64 f, .int .i64 g, .int .i64 h] 25)) (four_keep hb FA.out)
    have gX := four_alF (o := (.cells #[.int .i64 e, .int .i64 f, .int .i64 g, .int .i64 h] 25)) (four_keep hb FX.out)
    have gY := four_alF (o := (.cells #[.int .i64 e, .int .i64 f, .int .i64 g, .int .i64 h] 25)) (four_keep hb FY.out)
    have gI : Four mI e f g h V := by rw [hW, hm]; exact four_alloc
    have bb := BB.out.trans (hb.mono BB.out.size)
    have b2 := bb.alloc bb.size (.cells #[.int .i64 e, .int .i64 f, .int .i64 g, .int .i64 h] 25)
    rw [← hW] at gA gX gY b2
    rw [← hm, ← hW]
    clear hm hW hb bb BB FA FX FY
    have FA := Lib.hid gA
    have FX := Lib.hid gX
    have FY := Lib.hid gY
    have FI := Lib.hid gI
    have BB := Lib.hid b2
    clear b2 gA gX gY gI
    obtain ⟨_, I0, I1, I2, I3⟩ := FI.out
    go_wp2_with fail
    refine (K.out.s4 _).mono ?_
    rintro en w5 ⟨rfl, hb⟩
    clear I0 I1 I2 I3
    go_upto_region 8 with fail
    obtain ⟨V, hW⟩ : ∃ W, W = w5.alloc (.cells #[.int .i64 p, .int .i64 q, .int .i64 r, .int .i64 s] 25) := ⟨_, rfl⟩
    obtain ⟨mJ, hm⟩ : ∃ k, k = w5.heap.size := ⟨_, rfl⟩
    have gA := four_alF (o := (.cells #[.int .i64 p, .int .i64 q, .int .i64 r, .int .i64 s] 25)) (four_keep hb FA.out)
    have gX := four_alF (o := (.cells #[.int .i64 p, .int .i64 q, .int .i64 r, .int .i64 s] 25)) (four_keep hb FX.out)
    have gY := four_alF (o := (.cells #[.int .i64 p, .int .i64 q, .int .i64 r, .int .i64 s] 25)) (four_keep hb FY.out)
    have gI := four_alF (o := (.cells #[.int .i64 p, .int .i64 q, .int .i64 r, .int .i64 s] 25)) (four_keep hb FI.out)
    have gJ : Four mJ p q r s V := by rw [hW, hm]; exact four_alloc
    have bb := BB.out.trans (hb.mono BB.out.size)
    have b2 := bb.alloc bb.size (.cells #[.int .i64 p, .int .i64 q, .int .i64 r, .int .i64 s] 25)
    rw [← hW] at gA gX gY gI b2
    rw [← hm, ← hW]
    clear hm hW hb bb BB FA FX FY FI
    have FA := Lib.hid gA
    have FX := Lib.hid gX
    have FY := Lib.hid gY
    have FI := Lib.hid gI
    have FJ := Lib.hid gJ
    have BB := Lib.hid b2
    clear b2 gA gX gY gI gJ
    obtain ⟨_, X0, X1, X2, X3⟩ := FX.out
    obtain ⟨_, I0, I1, I2, I3⟩ := FI.out
    go_wp2_with fail
    refine (K.out.s5 _).mono ?_
    rintro en w6 ⟨rfl, hb⟩
    clear X0 X1 X2 X3 I0 I1 I2 I3
    go_upto_region 9 with fail
    obtain ⟨V, hW⟩ : ∃ W, W = w6.alloc (.cells #[.int .i64 1, .int .i64 0, .int .i64 0, .int .i64 1] 25) := ⟨_, rfl⟩
    obtain ⟨mS, hm⟩ : ∃ k, k = w6.heap.size := ⟨_, rfl⟩
    have gA := four_alF (o := (.cells #[.int .i64 1, .int .i64 0, .int .i64 0, .int .i64 1] 25)) (four_keep hb FA.out)
    have gX := four_alF (o := (.cells #[.int .i64 1, .int .i64 0, .int .i64 0, .int .i64 1] 25)) (four_keep hb FX.out)
    have gY := four_alF (o := (.cells #[.int .i64 1, .int .i64 0, .int .i64 0, .int .i64 1] 25)) (four_keep hb FY.out)
    have gI := four_alF (o := (.cells #[.int .i64 1, .int .i64 0, .int .i64 0, .int .i64 1] 25)) (four_keep hb FI.out)
    have gJ := four_alF (o := (.cells #[.int .i64 1, .int .i64 0, .int .i64 0, .int .i64 1] 25)) (four_keep hb FJ.out)
    have gS : Four mS 1 0 0 1 V := by rw [hW, hm]; exact four_alloc
    have bb := BB.out.trans (hb.mono BB.out.size)
    have b2 := bb.alloc bb.size (.cells #[.int .i64 1, .int .i64 0, .int .i64 0, .int .i64 1] 25)
    rw [← hW] at gA gX gY gI gJ b2
    rw [← hm, ← hW]
    clear hm hW hb bb BB FA FX FY FI FJ
    have FA := Lib.hid gA
    have FX := Lib.hid gX
    have FY := Lib.hid gY
    have FI := Lib.hid gI
    have FJ := Lib.hid gJ
    have FQ := Lib.hid gS
    have BB := Lib.hid b2
    clear b2 gA gX gY gI gJ gS
    have F0 := Lib.hid FA.out
    go_cut [16, 17] (fun s16 s17 wx => ∃ m : Nat, s16 = .pointer (some ⟨m, 0, none⟩) ∧ s17 = .bool true ∧ Below V.heap.size V wx ∧ Four m n 0 0 1 wx)
    case first =>
      go_region_held3 (fun w' => w'.cell? ⟨mA, 0, none⟩ = some (.int .i64 a) ∧ w'.cell? ⟨mA, 1, none⟩ = some (.int .i64 b) ∧ w'.cell? ⟨mA, 2, none⟩ = some (.int .i64 c) ∧ w'.cell? ⟨mA, 3, none⟩ = some (.int .i64 d)) (with_reducible first | exact four_cellsF (four_drewF FA.out) | exact four_cellsF (four_keep (by assumption) FA.out) | exact four_cellsF FA.out | exact four_cellsF (four_alF (four_drewF FA.out)) | exact four_cellsF (four_drewF (four_alF FA.out)) | exact four_cellsF (four_alF (four_keep (by assumption) FA.out)) | exact four_cellsF (four_keep (by assumption) FA.out) | exact four_cellsF (four_keep (below_set4w (by assumption) (by assumption)) FA.out))
        (first
          | (go_at_call 34; refine (calls_zeroB (W := V) (B := V.heap.size) (by with_reducible first | assumption | exact belowO_al (by assumption) | exact (Below.refl _ _).drew | exact (belowO_al (Below.refl _ _)).drew) (by with_reducible first | assumption | exact zeroB_alloc (by assumption) | exact zeroB_drew (zeroB_alloc (Below.refl _ _))) (octave_one _)).mono ?_; rintro e1 wy ⟨rfl, hb, hzb⟩; obtain ⟨zb, ⟨⟨zm, z0, z1, z2, z3⟩, zf⟩⟩ := id hzb)
          | (go_at_call 34; refine (calls_fromF (W := V) (by with_reducible first | assumption | exact (Below.refl _ _).drew) (octave_one _)).mono ?_; rintro e1 wy ⟨rfl, hb⟩)
          | (go_at_call 35; refine (calls_zeroB (W := V) (B := V.heap.size) (by with_reducible first | assumption | exact belowO_al (by assumption) | exact (Below.refl _ _).drew | exact (belowO_al (Below.refl _ _)).drew) (by with_reducible first | assumption | exact zeroB_alloc (by assumption) | exact zeroB_drew (zeroB_alloc (Below.refl _ _))) (K.out.s6 _)).mono ?_; rintro e1 wy ⟨rfl, hb, hzb⟩; obtain ⟨zb, ⟨⟨zm, z0, z1, z2, z3⟩, zf⟩⟩ := id hzb)
          | (go_at_call 35; refine (calls_fromF (W := V) (by with_reducible first | assumption | exact (Below.refl _ _).drew) (K.out.s6 _)).mono ?_; rintro e1 wy ⟨rfl, hb⟩)
          | (go_at_call 18; refine (calls_zeroB (W := V) (B := V.heap.size) (by with_reducible first | assumption | exact belowO_al (by assumption) | exact (Below.refl _ _).drew | exact (belowO_al (Below.refl _ _)).drew) (by with_reducible first | assumption | exact zeroB_alloc (by assumption) | exact zeroB_drew (zeroB_alloc (Below.refl _ _))) (K.out.s7 _)).mono ?_; rintro e1 wy ⟨rfl, hb, hzb⟩; obtain ⟨zb, ⟨⟨zm, z0, z1, z2, z3⟩, zf⟩⟩ := id hzb)
          | (go_at_call 18; refine (calls_fromF (W := V) (by with_reducible first | assumption | exact (Below.refl _ _).drew) (K.out.s7 _)).mono ?_; rintro e1 wy ⟨rfl, hb⟩)
        )
      all_goals
        go_wp2_with fail
        go_meet
        first
          | exact ⟨_, rfl, rfl, belowO_al hb, four_alloc⟩
          | exact ⟨_, rfl, rfl, below_set4w hzb.1 hb, four_set ⟨zm, z0, z1, z2, z3⟩⟩
    case rest =>
      obtain ⟨mO, rfl, rfl, hbO, hO⟩ := hcut
      obtain ⟨W9, hW9⟩ : ∃ W, W = wc := ⟨_, rfl⟩
      rw [← hW9] at hbO hO ⊢
      clear hW9
      have gA := four_keep hbO FA.out
      have gX := four_keep hbO FX.out
      have gY := four_keep hbO FY.out
      have gJ := four_keep hbO FJ.out
      have gS := four_keep hbO FQ.out
      have bb := BB.out.trans (hbO.mono BB.out.size)
      clear BB F0 FI hbO FA FX FY FJ FQ
      have FA := Lib.hid gA
      have FX := Lib.hid gX
      have FY := Lib.hid gY
      have FJ := Lib.hid gJ
      have FQ := Lib.hid gS
      have FO := Lib.hid hO
      have BB := Lib.hid bb
      clear bb hO gA gX gY gJ gS
      obtain ⟨_, X0, X1, X2, X3⟩ := FX.out
      obtain ⟨_, O0, O1, O2, O3⟩ := FO.out
      go_wp2_with fail
      refine (K.out.s8 _).mono ?_
      rintro en w7 ⟨rfl, hb⟩
      clear X0 X1 X2 X3 O0 O1 O2 O3
      go_upto_region 11 with fail
      obtain ⟨V, hW⟩ : ∃ W, W = w7.alloc (.cells #[.int .i64 i, .int .i64 j, .int .i64 k, .int .i64 l] 25) := ⟨_, rfl⟩
      obtain ⟨mT, hm⟩ : ∃ k, k = w7.heap.size := ⟨_, rfl⟩
      have gA := four_alF (o := (.cells #[.int .i64 i, .int .i64 j, .int .i64 k, .int .i64 l] 25)) (four_keep hb FA.out)
      have gX := four_alF (o := (.cells #[.int .i64 i, .int .i64 j, .int .i64 k, .int .i64 l] 25)) (four_keep hb FX.out)
      have gY := four_alF (o := (.cells #[.int .i64 i, .int .i64 j, .int .i64 k, .int .i64 l] 25)) (four_keep hb FY.out)
      have gJ := four_alF (o := (.cells #[.int .i64 i, .int .i64 j, .int .i64 k, .int .i64 l] 25)) (four_keep hb FJ.out)
      have gS := four_alF (o := (.cells #[.int .i64 i, .int .i64 j, .int .i64 k, .int .i64 l] 25)) (four_keep hb FQ.out)
      have gT : Four mT i j k l V := by rw [hW, hm]; exact four_alloc
      have bb := BB.out.trans (hb.mono BB.out.size)
      have b2 := bb.alloc bb.size (.cells #[.int .i64 i, .int .i64 j, .int .i64 k, .int .i64 l] 25)
      rw [← hW] at gA gX gY gJ gS b2
      rw [← hm, ← hW]
      clear hm hW hb bb BB FA FX FY FJ FQ
      have FA := Lib.hid gA
      have FX := Lib.hid gX
      have FY := Lib.hid gY
      have FJ := Lib.hid gJ
      have FQ := Lib.hid gS
      have FT := Lib.hid gT
      have BB := Lib.hid b2
      clear b2 gA gX gY gJ gS gT
      have F6 : Hid (Six mA mX mY mJ mS mT a b c d p q r s i j k l V) := Lib.hid ⟨FA.out, FX.out, FY.out, FJ.out, FQ.out, FT.out⟩
      have HS1 := Lib.hid (senAt_below HS.out BB.out)
      have z9 := K.out.z0
      have y9 := K.out.y0
      clear FA FX FY FJ FQ FT FO HS
      go_region_held3 (fun w' => w'.cell? ⟨mA, 0, none⟩ = some (.int .i64 a) ∧ w'.cell? ⟨mA, 1, none⟩ = some (.int .i64 b) ∧ w'.cell? ⟨mA, 2, none⟩ = some (.int .i64 c) ∧ w'.cell? ⟨mA, 3, none⟩ = some (.int .i64 d) ∧ w'.cell? ⟨mX, 0, none⟩ = some (.int .i64 p) ∧ w'.cell? ⟨mX, 1, none⟩ = some (.int .i64 q) ∧ w'.cell? ⟨mX, 2, none⟩ = some (.int .i64 r) ∧ w'.cell? ⟨mX, 3, none⟩ = some (.int .i64 s) ∧ w'.cell? ⟨mY, 0, none⟩ = some (.int .i64 p) ∧ w'.cell? ⟨mY, 1, none⟩ = some (.int .i64 q) ∧ w'.cell? ⟨mY, 2, none⟩ = some (.int .i64 r) ∧ w'.cell? ⟨mY, 3, none⟩ = some (.int .i64 s) ∧ w'.cell? ⟨mJ, 0, none⟩ = some (.int .i64 p) ∧ w'.cell? ⟨mJ, 1, none⟩ = some (.int .i64 q) ∧ w'.cell? ⟨mJ, 2, none⟩ = some (.int .i64 r) ∧ w'.cell? ⟨mJ, 3, none⟩ = some (.int .i64 s) ∧ w'.cell? ⟨mS, 0, none⟩ = some (.int .i64 1) ∧ w'.cell? ⟨mS, 1, none⟩ = some (.int .i64 0) ∧ w'.cell? ⟨mS, 2, none⟩ = some (.int .i64 0) ∧ w'.cell? ⟨mS, 3, none⟩ = some (.int .i64 1) ∧ w'.cell? ⟨mT, 0, none⟩ = some (.int .i64 i) ∧ w'.cell? ⟨mT, 1, none⟩ = some (.int .i64 j) ∧ w'.cell? ⟨mT, 2, none⟩ = some (.int .i64 k) ∧ w'.cell? ⟨mT, 3, none⟩ = some (.int .i64 l)) (with_reducible first | exact six_cells (six_drew F6.out) | exact six_cells (six_keep (by assumption) F6.out) | exact six_cells F6.out)
        (first
          | (go_at_call 34; refine (calls_fromF (W := V) (by with_reducible first | assumption | exact (Below.refl _ _).drew) (octave_one _)).mono ?_; rintro e1 wy ⟨rfl, hb⟩)
          | (go_at_call 20; refine (calls_fromF (W := V) (by with_reducible first | assumption | exact (Below.refl _ _).drew) (K.out.s9 _ (senAt_below HS1.out (by with_reducible first | assumption | exact (Below.refl _ _).drew)))).mono ?_; rintro e1 wy ⟨rfl, hb⟩)
          | (go_at_call 17; refine (calls_fromF (W := V) (by with_reducible first | assumption | exact (Below.refl _ _).drew) (K.out.s10 _ (senAt_below HS1.out (by with_reducible first | assumption | exact (Below.refl _ _).drew)))).mono ?_; rintro e1 wy ⟨rfl, hb⟩)
          | (go_at_call 36; refine (calls_fromF (W := V) (by with_reducible first | assumption | exact (Below.refl _ _).drew) (K.out.s11 _)).mono ?_; rintro e1 wy ⟨rfl, hb⟩)
          | (go_at_call 37; refine (calls_fromF (W := V) (by with_reducible first | assumption | exact (Below.refl _ _).drew) (K.out.s12 _)).mono ?_; rintro e1 wy ⟨rfl, hb⟩)
        )
      all_goals
        go_wp2_with fail
        go_ret
        exact ⟨rfl, BB.out.trans (hb.mono BB.out.size)⟩
end Go.Proofs.YtdnlebijmiaclabDoor
