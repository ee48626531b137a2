/- The walks of laws.FnExactPitchOk, MakePitch, ComparePitches and TimesPitch over the program's contracts. -/
import Derived.Test.YtgoaofkbegfinaaSPitch
namespace Go.Proofs.Ytgoaofkbegfinaa
open Go.RowKit Go.Joins
set_option linter.unusedVariables false
theorem below_growP {w w1 : World} (h : Below w.heap.size w w1) (o : Obj) : Below w.heap.size w (w1.alloc o) := h.trans ((below_alloc1 w1 o).mono h.size)
theorem twoD_cells {m k : Nat} {a b c d : Int} {w : World} (h : TwoD m k a b c d w) : (w.cell? ⟨m, 0, none⟩ = some (.int .i64 a) ∧ w.cell? ⟨m, 1, none⟩ = some (.int .i64 b)) ∧ w.cell? ⟨k, 0, none⟩ = some (.int .i64 c) ∧ w.cell? ⟨k, 1, none⟩ = some (.int .i64 d) := ⟨h.1.2, h.2.2⟩
theorem toPitch_from {W w : World} {a b : Int} (h : Below W.heap.size W w) : Calls Try.prog 16 #[pchV a b] w fun e w' => e = .returned (pchV a b) ∧ Below W.heap.size W w' :=
  (toPitch_any a b w).mono fun _ _ ⟨he, hb⟩ => ⟨he, h.trans (hb.mono h.size)⟩
theorem ans_from {P : Program} {f : FuncId} {args : Array Value} {v : Value} {W w : World} (hc : Calls P f args w fun e w' => e = .returned v ∧ Below w.heap.size w w') (h : Below W.heap.size W w) : Calls P f args w fun e w' => e = .returned v ∧ Below W.heap.size W w' :=
  hc.mono fun _ _ ⟨he, hb⟩ => ⟨he, h.trans (hb.mono h.size)⟩
def PkImpl : Prop := ∀ (n d : Int) (w : World), Calls Try.prog 14 #[pchV n d] w fun e w' => e = .returned (.bool (pkB n d)) ∧ Below w.heap.size w w'
def MkImpl : Prop := ∀ (n d x y : Int) (z : Bool), MakeAt n d x y z → ∀ (w : World), Calls Try.prog 18 #[.int .i64 n, .int .i64 d] w (PairP x y z w)
def CmpImpl17 : Prop := ∀ (an ad bn bd c : Int), CmpAt an ad bn bd c → ∀ (w : World), Calls Try.prog 13 #[pchV an ad, pchV bn bd] w fun e w' => e = .returned (.int .i64 c) ∧ Below w.heap.size w w'
def TpImpl17 : Prop := ∀ (n d u v x y : Int) (z : Bool), TimesAt17 n d u v x y z → ∀ (w : World), Calls Try.prog 12 #[pchV n d, .int .i64 u, .int .i64 v] w (PairP x y z w)
def BtImpl : Prop := ∀ (an ad bn bd p q x y : Int) (z : Bool), BeatAt an ad bn bd p q x y z → ∀ (w : World), Calls Try.prog 11 #[pchV an ad, pchV bn bd, .int .i64 p, .int .i64 q] w (PairP x y z w)
set_option maxHeartbeats 1000000 in
theorem walk_PitchOkBy (PI : PkImpl) (n d : Int) (w : World) :
    Calls Try.prog 4 #[pchV n d] w fun e w' => e = .returned (.bool true) ∧ Below w.heap.size w w' := by
  have CP := Lib.hid (fun w => PI n d w)
  have CS := Lib.hid (fun w => pitchOk_spec n d w)
  obtain ⟨k, hk⟩ : ∃ k, k = pkB n d := ⟨_, rfl⟩
  rw [← hk] at CP CS
  clear hk
  obtain ⟨W0, hW0⟩ : ∃ W, W = w.alloc (.cells #[.int .i64 n, .int .i64 d] 34) := ⟨_, rfl⟩
  have D0 : Hid (Duo w.heap.size n d W0) := Lib.hid (by rw [hW0]; exact duo_alloc)
  have B0 : Hid (Below w.heap.size w W0) := Lib.hid (by rw [hW0]; exact below_alloc1 w _)
  go_enter Try.func4, Try.ntmps4
  go_upto_region 1 with fail
  rw [← hW0]
  obtain ⟨m, hm⟩ : ∃ m, m = w.heap.size := ⟨_, rfl⟩
  rw [← hm] at D0 ⊢
  clear hW0 hm
  obtain ⟨_, c0, c1⟩ := D0.out
  go_wp2_with fail
  refine (toPitch_any _ _ _).mono ?_
  rintro e w1 ⟨rfl, hb⟩
  have D1 := Lib.hid (duo_keep hb D0.out)
  have B1 := Lib.hid (B0.out.trans (hb.mono B0.out.size))
  clear hb c0 c1 B0 D0
  obtain ⟨_, c0, c1⟩ := D1.out
  go_wp2_with fail
  refine (CS.out _).mono ?_
  rintro e w2 ⟨rfl, hb⟩
  have D2 := Lib.hid (duo_keep hb D1.out)
  have B2 := Lib.hid (B1.out.trans (hb.mono B1.out.size))
  clear hb c0 c1 B1 D1
  obtain ⟨_, c0, c1⟩ := D2.out
  go_wp2_with fail
  refine (toPitch_any _ _ _).mono ?_
  rintro e w3 ⟨rfl, hb⟩
  have D3 := Lib.hid (duo_keep hb D2.out)
  have B3 := Lib.hid (B2.out.trans (hb.mono B2.out.size))
  clear hb c0 c1 B2 D2
  obtain ⟨_, c0, c1⟩ := D3.out
  go_wp2_with fail
  refine (CP.out _).mono ?_
  rintro e w4 ⟨rfl, hb⟩
  have D4 := Lib.hid (duo_keep hb D3.out)
  have B4 := Lib.hid (B3.out.trans (hb.mono B3.out.size))
  clear hb c0 c1 B3 D3
  obtain ⟨_, c0, c1⟩ := D4.out
  cases k
  all_goals
    go_wp2_with fail
    go_ret
    exact ⟨rfl, B4.out⟩
set_option maxHeartbeats 1000000 in
theorem walk_MakePitchBy (MI : MkImpl) (n d : Int) (w : World) :
    Calls Try.prog 5 #[.int .i64 n, .int .i64 d] w fun e w' => e = .returned (.bool true) ∧ Below w.heap.size w w' := by
  obtain ⟨x, y, z, hf⟩ := make_ex n d
  have CS := Lib.hid (fun w => make_spec hf w)
  have CP := Lib.hid (fun w => MI n d x y z hf w)
  clear hf
  go_enter Try.func5, Try.ntmps5
  go_wp2_with fail
  refine (CS.out _).mono ?_
  rintro e w2 ⟨rfl, hb⟩
  have B2 := Lib.hid (below_growP (hb) (.cells #[.int .i64 x, .int .i64 y] 25))
  go_upto_region 2 with fail
  obtain ⟨W2, hW⟩ : ∃ W, W = w2.alloc (.cells #[.int .i64 x, .int .i64 y] 25) := ⟨_, rfl⟩
  have G2 : Hid (Duo w2.heap.size x y W2) := Lib.hid (by rw [hW]; exact duo_alloc)
  rw [← hW] at B2 ⊢
  generalize w2.heap.size = m2 at G2 ⊢
  clear hb hW
  go_wp2_with fail
  refine (CP.out _).mono ?_
  rintro e w4 ⟨rfl, hb⟩
  have B4 := Lib.hid (below_growP (B2.out.trans (hb.mono B2.out.size)) (.cells #[.int .i64 x, .int .i64 y] 25))
  have G4 := Lib.hid (duo_al (o := .cells #[.int .i64 x, .int .i64 y] 25) (duo_keep hb G2.out))
  have K4 := Lib.hid (duo_alloc (w := w4) (p := x) (q := y) (t := 25))
  clear hb B2 G2
  go_upto_region 3 with fail
  obtain ⟨W4, hW⟩ : ∃ W, W = w4.alloc (.cells #[.int .i64 x, .int .i64 y] 25) := ⟨_, rfl⟩
  rw [← hW] at B4 G4 K4 ⊢
  clear hW
  generalize w4.heap.size = m4 at K4 ⊢
  obtain ⟨_, c0, c1⟩ := G4.out
  obtain ⟨_, d0, d1⟩ := K4.out
  go_wp2_with fail
  refine (eqPitch_same _ _ _).mono ?_
  rintro e w5 ⟨rfl, hb⟩
  have B5 := Lib.hid (B4.out.trans (hb.mono B4.out.size))
  clear hb B4
  cases z
  all_goals
    go_wp2_with fail
    go_ret
    exact ⟨rfl, B5.out⟩
set_option maxHeartbeats 1000000 in
theorem walk_CompareBy17 (CI : CmpImpl17) (an ad bn bd : Int) (w : World) :
    Calls Try.prog 6 #[pchV an ad, pchV bn bd] w fun e w' => e = .returned (.bool true) ∧ Below w.heap.size w w' := by
  obtain ⟨c, hf⟩ := cmp_ex17 an ad bn bd
  have CS := Lib.hid (fun w => cmp17_spec hf w)
  have CP := Lib.hid (fun w => CI an ad bn bd c hf w)
  clear hf
  obtain ⟨W0, hW0⟩ : ∃ W, W = (w.alloc (.cells #[.int .i64 an, .int .i64 ad] 34)).alloc (.cells #[.int .i64 bn, .int .i64 bd] 34) := ⟨_, rfl⟩
  have D0 : Hid (TwoD w.heap.size (w.heap.size + 1) an ad bn bd W0) := Lib.hid (by rw [hW0]; exact twoD_alloc w an ad bn bd _)
  have B0 : Hid (Below w.heap.size w W0) := Lib.hid (by rw [hW0]; exact below_alloc2 w _ _)
  go_enter Try.func6, Try.ntmps6
  go_upto_region 1 with fail
  rw [← hW0]
  obtain ⟨m, hm⟩ : ∃ m, m = w.heap.size := ⟨_, rfl⟩
  rw [← hm] at D0 ⊢
  clear hW0 hm
  obtain ⟨⟨_, c0, c1⟩, _, c2, c3⟩ := D0.out
  go_upto_region 1 with fail
  go_region_held3 (fun w' => (w'.cell? ⟨m, 0, none⟩ = some (.int .i64 an) ∧ w'.cell? ⟨m, 1, none⟩ = some (.int .i64 ad)) ∧ w'.cell? ⟨m + 1, 0, none⟩ = some (.int .i64 bn) ∧ w'.cell? ⟨m + 1, 1, none⟩ = some (.int .i64 bd)) (with_reducible first | exact twoD_cells (twoD_keep (by assumption) D0.out) | exact twoD_cells (twoD_keep (Below.refl _ _).drew D0.out) | exact twoD_cells D0.out)
    (first
      | (go_at_call 16; refine (toPitch_from (by with_reducible first | assumption | exact (Below.refl _ _).drew)).mono ?_; rintro e1 w3 ⟨rfl, hb⟩)
      | (go_at_call 20; refine (ans_from (CS.out _) (by with_reducible assumption)).mono ?_; rintro e1 w10 ⟨rfl, hb10⟩))
  all_goals
    have D1 := Lib.hid (twoD_keep hb10 D0.out)
    have B1 := Lib.hid (B0.out.trans (hb10.mono B0.out.size))
    clear c0 c1 c2 c3 hb10 B0 D0
    obtain ⟨⟨_, c0, c1⟩, _, c2, c3⟩ := D1.out
    go_upto_region 2 with fail
    go_region_held3 (fun w' => (w'.cell? ⟨m, 0, none⟩ = some (.int .i64 an) ∧ w'.cell? ⟨m, 1, none⟩ = some (.int .i64 ad)) ∧ w'.cell? ⟨m + 1, 0, none⟩ = some (.int .i64 bn) ∧ w'.cell? ⟨m + 1, 1, none⟩ = some (.int .i64 bd)) (with_reducible first | exact twoD_cells (twoD_keep (by assumption) D1.out) | exact twoD_cells (twoD_keep (Below.refl _ _).drew D1.out) | exact twoD_cells D1.out)
      (first
        | (go_at_call 16; refine (toPitch_from (by with_reducible first | assumption | exact (Below.refl _ _).drew)).mono ?_; rintro e1 w3 ⟨rfl, hb⟩)
        | (go_at_call 13; refine (ans_from (CP.out _) (by with_reducible assumption)).mono ?_; rintro e1 w11 ⟨rfl, hb11⟩))
    all_goals
      have D2 := Lib.hid (twoD_keep hb11 D1.out)
      have B2 := Lib.hid (B1.out.trans (hb11.mono B1.out.size))
      clear c0 c1 c2 c3 hb11 B1 D1
      obtain ⟨⟨_, c0, c1⟩, _, c2, c3⟩ := D2.out
      have t0 : (c != c) = false := by simp
      go_wp2_with fail
      go_ret
      exact ⟨rfl, B2.out⟩
set_option maxHeartbeats 1000000 in
theorem walk_TimesBy17 (TI : TpImpl17) (n d u v : Int) (w : World) :
    Calls Try.prog 7 #[pchV n d, .int .i64 u, .int .i64 v] w fun e w' => e = .returned (.bool true) ∧ Below w.heap.size w w' := by
  obtain ⟨x, y, z, hf⟩ := times_ex17 n d u v
  have CS := Lib.hid (fun w => times17_spec hf w)
  have CP := Lib.hid (fun w => TI n d u v x y z hf w)
  clear hf
  obtain ⟨W0, hW0⟩ : ∃ W, W = w.alloc (.cells #[.int .i64 n, .int .i64 d] 34) := ⟨_, rfl⟩
  have D0 : Hid (Duo w.heap.size n d W0) := Lib.hid (by rw [hW0]; exact duo_alloc)
  have B0 : Hid (Below w.heap.size w W0) := Lib.hid (by rw [hW0]; exact below_alloc1 w _)
  go_enter Try.func7, Try.ntmps7
  go_upto_region 1 with fail
  rw [← hW0]
  obtain ⟨m, hm⟩ : ∃ m, m = w.heap.size := ⟨_, rfl⟩
  rw [← hm] at D0 ⊢
  clear hW0 hm
  obtain ⟨_, c0, c1⟩ := D0.out
  go_wp2_with fail
  refine (toPitch_any _ _ _).mono ?_
  rintro e w1 ⟨rfl, hb⟩
  have D1 := Lib.hid (duo_keep hb D0.out)
  have B1 := Lib.hid (B0.out.trans (hb.mono B0.out.size))
  clear hb c0 c1 B0 D0
  obtain ⟨_, c0, c1⟩ := D1.out
  go_wp2_with fail
  refine (CS.out _).mono ?_
  rintro e w2 ⟨rfl, hb⟩
  have B2 := Lib.hid (below_growP (B1.out.trans (hb.mono B1.out.size)) (.cells #[.int .i64 x, .int .i64 y] 25))
  have D2 := Lib.hid (duo_al (o := .cells #[.int .i64 x, .int .i64 y] 25) (duo_keep hb D1.out))
  go_upto_region 2 with fail
  obtain ⟨W2, hW⟩ : ∃ W, W = w2.alloc (.cells #[.int .i64 x, .int .i64 y] 25) := ⟨_, rfl⟩
  have G2 : Hid (Duo w2.heap.size x y W2) := Lib.hid (by rw [hW]; exact duo_alloc)
  rw [← hW] at B2 D2 ⊢
  generalize w2.heap.size = m2 at G2 ⊢
  clear hb c0 c1 B1 D1 hW
  obtain ⟨_, c0, c1⟩ := D2.out
  go_wp2_with fail
  refine (toPitch_any _ _ _).mono ?_
  rintro e w3 ⟨rfl, hb⟩
  have G3 := Lib.hid (duo_keep hb G2.out)
  have B3 := Lib.hid (B2.out.trans (hb.mono B2.out.size))
  clear hb c0 c1 B2 D2 G2
  go_wp2_with fail
  refine (CP.out _).mono ?_
  rintro e w4 ⟨rfl, hb⟩
  have B4 := Lib.hid (below_growP (B3.out.trans (hb.mono B3.out.size)) (.cells #[.int .i64 x, .int .i64 y] 25))
  have G4 := Lib.hid (duo_al (o := .cells #[.int .i64 x, .int .i64 y] 25) (duo_keep hb G3.out))
  have K4 := Lib.hid (duo_alloc (w := w4) (p := x) (q := y) (t := 25))
  clear hb B3 G3
  go_upto_region 3 with fail
  obtain ⟨W4, hW⟩ : ∃ W, W = w4.alloc (.cells #[.int .i64 x, .int .i64 y] 25) := ⟨_, rfl⟩
  rw [← hW] at B4 G4 K4 ⊢
  clear hW
  generalize w4.heap.size = m4 at K4 ⊢
  obtain ⟨_, c0, c1⟩ := G4.out
  obtain ⟨_, d0, d1⟩ := K4.out
  go_wp2_with fail
  refine (eqPitch_same _ _ _).mono ?_
  rintro e w5 ⟨rfl, hb⟩
  have B5 := Lib.hid (B4.out.trans (hb.mono B4.out.size))
  clear hb B4
  cases z
  all_goals
    go_wp2_with fail
    go_ret
    exact ⟨rfl, B5.out⟩
end Go.Proofs.Ytgoaofkbegfinaa
