/- The walk of laws.FnExactDifferenceOf over the program's contract. -/
import Derived.Test.YtohfepcdgbgojabSDiff
import Derived.Test.YtohfepcdgbgojabEqCirLaw
import Derived.Test.YtohfepcdgbgojabCirOkLaw
import Derived.Deep.RegionWith
namespace Go.Proofs.Ytohfepcdgbgojab
open Go.RowKit Go.Joins
set_option linter.unusedVariables false
/-- The program's DifferenceOf answers as the model's. -/
def DiffImpl : Prop := ∀ (xs ys : List Int) (d : Int), DiffAt xs ys d → ∀ (w : World) (b1 b2 : Nat) (e1 e2 : TypeId) (v1 v2 : Value), xs.length ≤ 2000000 → ys.length ≤ 2000000 → w.ownsRow b1 e1 1 v1 xs.length (intCs xs) → w.ownsRow b2 e2 1 v2 ys.length (intCs ys) →
    Calls Try.prog 41 #[cirV v1, cirV v2] w fun e w' => e = .returned (.int .i64 d) ∧ Below w.heap.size w w'
theorem szCir_at (a : Option Addr) (len cap : Nat) (z : Int) (w : World) (hz : 0 ≤ z ∧ z ≤ 1048576) (hl : len ≤ 9223372036854775807) (h : (len : Int) ≤ z) :
    Calls Try.prog 24 #[cirV (.slice a len cap), .int .i64 z] w fun e w' => e = .returned (.int .i64 (z - len)) ∧ Below w.heap.size w w' := by
  go_enter Try.func24, Try.ntmps24
  go_wp2
  go_ret
  exact ⟨rfl, below_alloc1 w _⟩
theorem szCir_no (a : Option Addr) (len cap : Nat) (z : Int) (w : World) (hz : 0 ≤ z ∧ z ≤ 1048576) (hl : len ≤ 9223372036854775807) (h : z < (len : Int)) :
    Calls Try.prog 24 #[cirV (.slice a len cap), .int .i64 z] w fun e w' => e = .returned (.int .i64 (-1)) ∧ Below w.heap.size w w' := by
  go_enter Try.func24, Try.ntmps24
  go_wp2
  go_ret
  exact ⟨rfl, below_alloc1 w _⟩
/-- A circle's parts in a row; toCircle behind a world that is named. -/
def CRow (v : Value) (xs : List Int) (w : World) : Prop := ∃ b, w.ownsRow b 3 1 v xs.length (intCs xs)
theorem crow_keep {v : Value} {xs : List Int} {w w' : World} (h : CRow v xs w) (hb : Below w.heap.size w w') : CRow v xs w' := h.elim fun b o => ⟨b, own_below o hb⟩
def TcSay (u : Value) (xs : List Int) (W : World) : Prop := ∀ X, Below W.heap.size W X → Calls Try.prog 27 #[cirV u] X fun e w' => ∃ v, e = .returned (cirV v) ∧ CRow v xs w' ∧ Below X.heap.size X w' ∧ Below W.heap.size W w'
theorem tc_run {u : Value} {xs : List Int} {W : World} (h : TcSay u xs W) (X : World) (hX : Below W.heap.size W X) : Calls Try.prog 27 #[cirV u] X fun e w' => ∃ v, e = .returned (cirV v) ∧ CRow v xs w' ∧ Below X.heap.size X w' ∧ Below W.heap.size W w' := h X hX
theorem tc_says {a : Option Addr} {len cap : Nat} {zs xs : List Int} {W : World} (hr : IsRow .i64 W a len cap zs) (hl : len ≤ 1048576) (hx : Hid (xs = zs.take len)) : TcSay (.slice a len cap) xs W := fun X hX => by
  refine (calls_toCir (Below.refl _ _) (hr.below hX) hl hx).mono ?_
  rintro e w' ⟨v, rfl, o, b⟩
  exact ⟨v, rfl, ⟨_, o⟩, b, hX.trans (b.mono hX.size)⟩
theorem dif_run {xs ys : List Int} {d : Int} (hf : DiffAt xs ys d) (hx : xs.length ≤ 2000000) (hy : ys.length ≤ 2000000) {v1 v2 : Value} {w : World} (h1 : CRow v1 xs w) (h2 : CRow v2 ys w) {W : World} (hW : Below W.heap.size W w) :
    Calls Try.prog 52 #[cirV v1, cirV v2] w fun e w' => e = .returned (.int .i64 d) ∧ Below W.heap.size W w' := by
  obtain ⟨b1, o1⟩ := h1
  obtain ⟨b2, o2⟩ := h2
  exact (diff_spec hf w b1 b2 _ _ v1 v2 hx hy o1 o2).mono fun _ _ ⟨he, hb⟩ => ⟨he, hW.trans (hb.mono hW.size)⟩
set_option maxRecDepth 100000 in
set_option maxHeartbeats 8000000 in
theorem walk_DifferenceBy (DI : DiffImpl) (a : Option Addr) (len cap : Nat) (zs : List Int) (a' : Option Addr) (len' cap' : Nat) (zs' : List Int) (w : World) (hr : IsRow .i64 w a len cap zs) (hr' : IsRow .i64 w a' len' cap' zs') :
    Calls Try.prog 12 #[cirV (.slice a len cap), cirV (.slice a' len' cap')] w fun e w' => e = .returned (.bool true) ∧ Below w.heap.size w w' := by
  have HL := Lib.hid (row_len hr)
  have HL' := Lib.hid (row_len hr')
  have HR := Lib.hid hr
  have HR' := Lib.hid hr'
  have hl0 := HL.out.2
  have hl0' := HL'.out.2
  obtain ⟨W0, hW0⟩ : ∃ W, W = (w.alloc (.cells #[.slice a len cap] 40)).alloc (.cells #[.slice a' len' cap'] 40) := ⟨_, rfl⟩
  have B0 : Hid (Below w.heap.size w W0) := Lib.hid (by rw [hW0]; exact below_alloc2 w _ _)
  have T0 : Hid (TwoB w.heap.size (w.heap.size + 1) (.slice a len cap) (.slice a' len' cap') W0) := Lib.hid (by
    rw [hW0]
    refine ⟨one_al one_alloc, ?_⟩
    have h := one_alloc (w := w.alloc (.cells #[.slice a len cap] 40)) (v := .slice a' len' cap') (t := 40)
    rwa [World.size_alloc] at h)
  clear hr hr'
  go_enter Try.func12, Try.ntmps12
  go_upto_region 1 with fail
  rw [← hW0]
  clear hW0
  obtain ⟨m, hm⟩ : ∃ m, m = w.heap.size := ⟨_, rfl⟩
  rw [← hm] at T0 ⊢
  clear hm
  obtain ⟨c0, c1⟩ := twoB_cells T0.out
  by_cases h1 : 1048576 < len
  · go_wp2_with fail
    refine (szCir_high a len cap _ h1 hl0).mono ?_
    rintro e w1 ⟨rfl, b1⟩
    go_wp2_with fail
    go_ret
    exact ⟨rfl, B0.out.trans (b1.mono B0.out.size)⟩
  · obtain ⟨xs, hxs⟩ : ∃ xs, xs = zs.take len := ⟨_, rfl⟩
    have HX := Lib.hid hxs
    have HXL := Lib.hid (show xs.length ≤ 2000000 from by have := HL.out.1; rw [hxs]; omega)
    have hl1 : len ≤ 1048576 := by omega
    have hl2 : ¬ (1048576 : Int) - len < 0 := by omega
    clear hxs h1
    go_wp2_with fail
    refine (szCir_low a len cap _ hl1).mono ?_
    rintro e w1 ⟨rfl, b1⟩
    have T1 := Lib.hid (twoB_keep b1 T0.out)
    have B1 := Lib.hid (B0.out.trans (b1.mono B0.out.size))
    clear c0 c1 T0 B0 b1
    obtain ⟨c0, c1⟩ := twoB_cells T1.out
    obtain ⟨z, hz⟩ : ∃ z, z = (1048576 : Int) - len := ⟨_, rfl⟩
    rw [← hz] at hl2 ⊢
    have hz2 : 0 ≤ z ∧ z ≤ 1048576 := by omega
    clear hz
    by_cases h2 : z < (len' : Int)
    · go_wp2_with fail
      refine (szCir_no a' len' cap' z _ hz2 hl0' h2).mono ?_
      rintro e w2 ⟨rfl, b2⟩
      go_wp2_with fail
      go_ret
      exact ⟨rfl, B1.out.trans (b2.mono B1.out.size)⟩
    · obtain ⟨ys, hys⟩ : ∃ ys, ys = zs'.take len' := ⟨_, rfl⟩
      have HY := Lib.hid hys
      have hl3 : len' ≤ 1048576 := by omega
      have HYL := Lib.hid (show ys.length ≤ 2000000 from by have := HL'.out.1; rw [hys]; omega)
      have hl4 : ¬ z - (len' : Int) < 0 := by omega
      have SZ := Lib.hid (fun w => szCir_at a' len' cap' z w hz2 hl0' (by omega))
      obtain ⟨d, hf⟩ := diffAt_ex xs ys
      have HF := Lib.hid hf
      clear hys h2 hz2 hf
      go_wp2_with fail
      refine (SZ.out _).mono ?_
      rintro e w2 ⟨rfl, b2⟩
      have T2 := Lib.hid (twoB_keep b2 T1.out)
      have B2 := Lib.hid (B1.out.trans (b2.mono B1.out.size))
      clear c0 c1 T1 B1 b2 SZ
      have S1 := tc_says (cap := cap) (HR.out.below B2.out) hl1 HX
      have S2 := tc_says (cap := cap') (HR'.out.below B2.out) hl3 HY
      go_upto_region 8 with fail
      go_region_held3 (fun w' => w'.cell? ⟨m, 0, none⟩ = some (.slice a len cap) ∧ w'.cell? ⟨m + 1, 0, none⟩ = some (.slice a' len' cap')) (first | exact twoB_cells (T2.out : TwoB m (m + 1) (.slice a len cap) (.slice a' len' cap') w2) | exact twoB_cells (twoB_keep (by assumption) T2.out))
        (first
          | (go_at_call 27; refine (tc_run (W := w2) (by with_reducible assumption) _ (by with_reducible first | assumption | exact (Below.refl _ _).drew)).mono ?_; rintro e1 w3 ⟨v3, rfl, hcr, hbx, hb⟩)
          | (go_at_call 52; refine (dif_run (W := w2) HF.out HXL.out HYL.out (by with_reducible first | assumption | exact crow_keep (by assumption) (by assumption)) (by with_reducible first | assumption | exact crow_keep (by assumption) (by assumption)) (by with_reducible assumption)).mono ?_; rintro e1 w3 ⟨rfl, hb⟩))
      all_goals
        have T3 := Lib.hid (twoB_keep hb T2.out)
        have B3 := Lib.hid (B2.out.trans (hb.mono B2.out.size))
        have td : (d != d) = false := by simp
        obtain ⟨lx, hlx⟩ : ∃ l, l = xs.length := ⟨_, rfl⟩
        obtain ⟨ly, hly⟩ : ∃ l, l = ys.length := ⟨_, rfl⟩
        have HLX := Lib.hid hlx.symm
        have HLY := Lib.hid hly.symm
        clear hlx hly
        obtain ⟨W3, hW3⟩ : ∃ W, W = w3 := ⟨_, rfl⟩
        rw [← hW3] at T3 B3 ⊢
        clear hW3
        obtain ⟨c0, c1⟩ := twoB_cells T3.out
        go_wp2_with fail
        refine (calls_toCir (Below.refl _ _) (HR.out.below B3.out) hl1 HX).mono ?_
        rintro e w4 ⟨v4, rfl, o4, b4⟩
        obtain ⟨p4, k4, rfl, x4, o4, l4⟩ := cir_laid (n := lx) b4.size HLX.out o4
        have A4 := below_alloc1 w4 (.cells #[.slice p4 lx k4] 29)
        have X4 := Lib.hid x4
        have O4 := Lib.hid o4
        have T4 := Lib.hid (twoB_keep A4 (twoB_keep b4 T3.out))
        have B4 := Lib.hid ((B3.out.trans (b4.mono B3.out.size)).trans (A4.mono (Nat.le_trans B3.out.size b4.size)))
        clear x4 o4 l4 b4 A4 c0 c1 T3 B3
        go_upto_region 10 with fail
        obtain ⟨W4, hW⟩ : ∃ W, W = w4.alloc (.cells #[.slice p4 lx k4] 29) := ⟨_, rfl⟩
        obtain ⟨m4, hm⟩ : ∃ m, m = w4.heap.size := ⟨_, rfl⟩
        rw [← hW] at X4 O4 T4 B4 ⊢
        rw [← hm] at X4 ⊢
        clear hW hm
        obtain ⟨c0, c1⟩ := twoB_cells T4.out
        go_wp2_with fail
        refine (calls_toCir (Below.refl _ _) (HR'.out.below B4.out) hl3 HY).mono ?_
        rintro e w5 ⟨v5, rfl, o5, b5⟩
        obtain ⟨p5, k5, rfl, x5, o5, l5⟩ := cir_laid (n := ly) b5.size HLY.out o5
        have A5 := below_alloc1 w5 (.cells #[.slice p5 ly k5] 29)
        have X5 := Lib.hid x5
        have O5 := Lib.hid o5
        have Y5 := Lib.hid (one_keep A5 (one_keep b5 X4.out))
        have P5 := Lib.hid (own_below (own_below O4.out b5) A5)
        have T5 := Lib.hid (twoB_keep A5 (twoB_keep b5 T4.out))
        have B5 := Lib.hid ((B4.out.trans (b5.mono B4.out.size)).trans (A5.mono (Nat.le_trans B4.out.size b5.size)))
        clear x5 o5 l5 b5 A5 c0 c1 T4 B4 X4 O4
        go_upto_region 11 with fail
        obtain ⟨W5, hW⟩ : ∃ W, W = w5.alloc (.cells #[.slice p5 ly k5] 29) := ⟨_, rfl⟩
        obtain ⟨m5, hm⟩ : ∃ m, m = w5.heap.size := ⟨_, rfl⟩
        rw [← hW] at X5 O5 Y5 P5 T5 B5 ⊢
        rw [← hm] at X5 ⊢
        clear hW hm
        obtain ⟨_, d4, _⟩ := Y5.out
        obtain ⟨_, d5, _⟩ := X5.out
        go_wp2_with fail
        refine (DI xs ys d HF.out W5 _ _ _ _ _ _ HXL.out HYL.out (own_eq P5.out (rfl : xs = xs) HLX.out.symm) (own_eq O5.out (rfl : ys = ys) HLY.out.symm)).mono ?_
        rintro e w6 ⟨rfl, b6⟩
        have X6 := Lib.hid (one_keep b6 X5.out)
        have O6 := Lib.hid (own_below O5.out b6)
        have Y6 := Lib.hid (one_keep b6 Y5.out)
        have P6 := Lib.hid (own_below P5.out b6)
        have T6 := Lib.hid (twoB_keep b6 T5.out)
        have B6 := Lib.hid (B5.out.trans (b6.mono B5.out.size))
        clear b6 d4 d5 X5 O5 Y5 P5 T5 B5
        have HR6 := Lib.hid (HR.out.below B6.out)
        obtain ⟨c0, c1⟩ := twoB_cells T6.out
        obtain ⟨_, d4, _⟩ := Y6.out
        obtain ⟨_, d5, _⟩ := X6.out
        go_upto_region 14 with fail
        go_cut [39] (fun s wx => s = .bool false ∧ Below w6.heap.size w6 wx)
        case first =>
          go_region_with (first
            | (go_at_call 27; refine (calls_toCir (W := w6) (by with_reducible first | assumption | exact (Below.refl _ _).drew) HR6.out hl1 HX).mono ?_; rintro e1 w7 ⟨v7, rfl, o7, b7⟩; obtain ⟨q0, q1⟩ := twoB_cells (twoB_keep b7 T6.out); obtain ⟨_, q4, _⟩ := one_keep b7 Y6.out)
            | (go_at_call 29; refine (calls_eqCir (W := w6) (by with_reducible assumption) HXL.out (own_eq P6.out (rfl : xs = xs) HLX.out.symm) (by with_reducible assumption)).mono ?_; rintro e1 w8 ⟨rfl, b8⟩))
          all_goals
            go_wp2_with fail
            go_meet
            exact ⟨rfl, b8⟩
        case rest =>
          obtain ⟨rfl, b7⟩ := hcut
          obtain ⟨W7, hW⟩ : ∃ W, W = wc := ⟨_, rfl⟩
          rw [← hW] at b7 ⊢
          have X7 := Lib.hid (one_keep b7 X6.out)
          have O7 := Lib.hid (own_below O6.out b7)
          have T7 := Lib.hid (twoB_keep b7 T6.out)
          have B7 := Lib.hid (B6.out.trans (b7.mono B6.out.size))
          clear hW b7 c0 c1 d4 d5 X6 O6 Y6 P6 T6 B6 HR6
          have HR7 := Lib.hid (HR'.out.below B7.out)
          obtain ⟨c0, c1⟩ := twoB_cells T7.out
          obtain ⟨_, d5, _⟩ := X7.out
          go_upto_region 16 with fail
          go_region_with (first
            | (go_at_call 27; refine (calls_toCir (W := W7) (by with_reducible first | assumption | exact (Below.refl _ _).drew) HR7.out hl3 HY).mono ?_; rintro e1 w7 ⟨v7, rfl, o7, b7⟩; obtain ⟨q0, q1⟩ := twoB_cells (twoB_keep b7 T7.out); obtain ⟨_, q5, _⟩ := one_keep b7 X7.out)
            | (go_at_call 29; refine (calls_eqCir (W := W7) (by with_reducible assumption) HYL.out (own_eq O7.out (rfl : ys = ys) HLY.out.symm) (by with_reducible assumption)).mono ?_; rintro e1 w8 ⟨rfl, b8⟩))
          all_goals
            have B8 := Lib.hid (B7.out.trans (b8.mono B7.out.size))
            go_wp2_with fail
            go_ret
            exact ⟨rfl, B8.out⟩
end Go.Proofs.Ytohfepcdgbgojab
