/- What WithinOctave and InvertInterval answer, told without a look inside; a block of zeros kept over calls. -/
import Derived.Test.YtjfeeppbbckneabOctImpl
import Derived.Test.YtjfeeppbbckneabToneWalks
import Derived.Test.YtjfeeppbbckneabSameTone
import Derived.Deep.DeepCutAuto
import Derived.Deep.RegionWith
namespace Go.Proofs.Ytjfeeppbbckneab
open Go.RowKit Go.Joins
set_option linter.unusedVariables false
/-- The simplest form, if it is valid. -/
def CheckAt (a b c d p q r s : Int) (y : Bool) : Prop :=
  (-1000000 ≤ a ∧ a ≤ 1000000 ∧ -1000000 ≤ b ∧ b ≤ 1000000 ∧ -1000000 ≤ c ∧ c ≤ 1000000 ∧ 1 ≤ d ∧ d ≤ 1000000) ∧
  ((y = true ∧ okI (a.tdiv (gcd4 a b c d)) (b.tdiv (gcd4 a b c d)) (c.tdiv (gcd4 a b c d)) (d.tdiv (gcd4 a b c d)) = true ∧ p = a.tdiv (gcd4 a b c d) ∧ q = b.tdiv (gcd4 a b c d) ∧ r = c.tdiv (gcd4 a b c d) ∧ s = d.tdiv (gcd4 a b c d)) ∨
   (y = false ∧ okI (a.tdiv (gcd4 a b c d)) (b.tdiv (gcd4 a b c d)) (c.tdiv (gcd4 a b c d)) (d.tdiv (gcd4 a b c d)) = false ∧ p = 0 ∧ q = 0 ∧ r = 0 ∧ s = 0))
theorem checkAt_ex {a b c d : Int} (h : -1000000 ≤ a ∧ a ≤ 1000000 ∧ -1000000 ≤ b ∧ b ≤ 1000000 ∧ -1000000 ≤ c ∧ c ≤ 1000000 ∧ 1 ≤ d ∧ d ≤ 1000000) : ∃ p q r s y, CheckAt a b c d p q r s y := by
  obtain ⟨x, hx⟩ : ∃ x : Bool, okI (a.tdiv (gcd4 a b c d)) (b.tdiv (gcd4 a b c d)) (c.tdiv (gcd4 a b c d)) (d.tdiv (gcd4 a b c d)) = x := ⟨_, rfl⟩
  cases x
  · exact ⟨0, 0, 0, 0, false, h, Or.inr ⟨rfl, hx, rfl, rfl, rfl, rfl⟩⟩
  · exact ⟨_, _, _, _, true, h, Or.inl ⟨rfl, hx, rfl, rfl, rfl, rfl⟩⟩
theorem checkAt_impl {a b c d p q r s : Int} {y : Bool} (h : CheckAt a b c d p q r s y) (w : World) :
    Calls Try.prog 79 #[ivV a b c d] w fun e w' => e = .returned (.tuple #[ivV p q r s, .bool y]) ∧ Below w.heap.size w w' := by
  obtain ⟨⟨h1, h2, h3, h4, h5, h6, h7, h8⟩, ⟨rfl, hx, rfl, rfl, rfl, rfl⟩ | ⟨rfl, hx, rfl, rfl, rfl, rfl⟩⟩ := h
  · exact ifOk_yes a b c d _ w rfl h1 h2 h3 h4 h5 h6 h7 h8 hx
  · exact ifOk_no a b c d _ w rfl h1 h2 h3 h4 h5 h6 h7 h8 hx
theorem checkAt_spec {a b c d p q r s : Int} {y : Bool} (h : CheckAt a b c d p q r s y) (w : World) :
    Calls Try.prog 74 #[ivV a b c d] w fun e w' => e = .returned (.tuple #[ivV p q r s, .bool y]) ∧ Below w.heap.size w w' := by
  obtain ⟨⟨h1, h2, h3, h4, h5, h6, h7, h8⟩, ⟨rfl, hx, rfl, rfl, rfl, rfl⟩ | ⟨rfl, hx, rfl, rfl, rfl, rfl⟩⟩ := h
  · exact checked_yes a b c d _ w rfl h1 h2 h3 h4 h5 h6 h7 h8 hx
  · exact checked_no a b c d _ w rfl h1 h2 h3 h4 h5 h6 h7 h8 hx
/-- A block of four zeros that may be written. -/
def Zero4 (m : Nat) (w : World) : Prop := Four m 0 0 0 0 w ∧ ∀ o, w.frozen? ⟨m, o, none⟩ = false
theorem zero4_keep {W w : World} {m : Nat} (hb : Below W.heap.size W w) (h : Zero4 m W) : Zero4 m w :=
  ⟨four_keep hb h.1, fun o => (hb.frozen (p := ⟨m, o, none⟩) h.1.1).trans (h.2 o)⟩
theorem zero4_alloc {w : World} {t : TypeId} : Zero4 w.heap.size (w.alloc (.cells #[.int .i64 0, .int .i64 0, .int .i64 0, .int .i64 0] t)) := ⟨four_alloc, fun o => by simp [go_sem]⟩
theorem calls_zero {P : Program} {k : FuncId} {args : Array Value} {W w : World} {v : Value} {m : Nat} (hz : Zero4 m W) (h : Below W.heap.size W w) (hk : Calls P k args w fun e w' => e = .returned v ∧ Below w.heap.size w w') :
    Calls P k args w fun e w' => e = .returned v ∧ Below W.heap.size W w' ∧ Zero4 m w' :=
  hk.mono fun _ _ ⟨he, hb⟩ => ⟨he, h.trans (hb.mono h.size), zero4_keep (h.trans (hb.mono h.size)) hz⟩
theorem below_set4w {w w' : World} {B m : Nat} {v0 v1 v2 v3 : Value} (hm : B ≤ m) (h : Below B w w') : Below B w ((((w'.setCell ⟨m, 0, none⟩ v0).setCell ⟨m, 1, none⟩ v1).setCell ⟨m, 2, none⟩ v2).setCell ⟨m, 3, none⟩ v3) :=
  (((h.setCell hm _).setCell hm _).setCell hm _).setCell hm _
/-- The results, in their block, behind the region's store. -/
theorem stored4 {W w2 : World} {B z : Nat} {p q r s : Int} (hB : B ≤ W.heap.size) (hz : B ≤ z) (hb : Below W.heap.size W w2) (h4 : Four z 0 0 0 0 w2) :
    ∃ X, X = ((((w2.setCell ⟨z, 0, none⟩ (.int .i64 p)).setCell ⟨z, 1, none⟩ (.int .i64 q)).setCell ⟨z, 2, none⟩ (.int .i64 r)).setCell ⟨z, 3, none⟩ (.int .i64 s)) ∧ Four z p q r s X ∧ Below B W X :=
  ⟨_, rfl, four_set h4, below_set4w hz (hb.mono hB)⟩
/-- What WithinOctave answers. -/
def WithinAt (a b c d p q r s : Int) (y : Bool) : Prop :=
  (∃ n m u, OctAt a b c d n ∧ LessAt a d n m u ∧ CheckAt u b c d p q r s y) ∨ (okI a b c d = false ∧ p = 0 ∧ q = 0 ∧ r = 0 ∧ s = 0 ∧ y = false)
theorem withinAt_ex (a b c d : Int) : ∃ p q r s y, WithinAt a b c d p q r s y := by
  obtain ⟨x, hx⟩ : ∃ x : Bool, okI a b c d = x := ⟨_, rfl⟩
  cases x
  · exact ⟨0, 0, 0, 0, false, Or.inr ⟨hx, rfl, rfl, rfl, rfl, rfl⟩⟩
  · obtain ⟨n, hn⟩ := octAt_ex hx
    obtain ⟨d1, d2, a1, a2, b1, b2, c1, c2⟩ := okI_nums hx
    have k := octAt_bd hn rfl
    obtain ⟨p, q, r, s, y, hc⟩ := checkAt_ex (a := a - n * d) (b := b) (c := c) (d := d) ⟨by omega, by omega, by omega, by omega, by omega, by omega, by omega, by omega⟩
    exact ⟨p, q, r, s, y, Or.inl ⟨n, n * d, a - n * d, hn, ⟨rfl, rfl, by omega, by omega, by omega, by omega⟩, hc⟩⟩
end Go.Proofs.Ytjfeeppbbckneab
/- Contract of impl.WithinOctave. -/
namespace Go.Proofs.Ytjfeeppbbckneab
open Go.RowKit Go.Joins
set_option linter.unusedVariables false
end Go.Proofs.Ytjfeeppbbckneab
/- Contract of impl.InvertInterval. -/
namespace Go.Proofs.Ytjfeeppbbckneab
open Go.RowKit Go.Joins
set_option linter.unusedVariables false
/-- What InvertInterval answers. -/
def InvAt (a b c d p q r s : Int) (y : Bool) : Prop :=
  (okI a b c d = true ∧ CheckAt (d - a) (-b) (-c) d p q r s y) ∨ (okI a b c d = false ∧ p = 0 ∧ q = 0 ∧ r = 0 ∧ s = 0 ∧ y = false)
theorem invAt_ex (a b c d : Int) : ∃ p q r s y, InvAt a b c d p q r s y := by
  obtain ⟨x, hx⟩ : ∃ x : Bool, okI a b c d = x := ⟨_, rfl⟩
  cases x
  · exact ⟨0, 0, 0, 0, false, Or.inr ⟨hx, rfl, rfl, rfl, rfl, rfl⟩⟩
  · obtain ⟨d1, d2, a1, a2, b1, b2, c1, c2⟩ := okI_nums hx
    obtain ⟨p, q, r, s, y, hc⟩ := checkAt_ex (a := d - a) (b := -b) (c := -c) (d := d) ⟨by omega, by omega, by omega, by omega, by omega, by omega, by omega, by omega⟩
    exact ⟨p, q, r, s, y, Or.inl ⟨hx, hc⟩⟩
/-- The octave and the interval downwards, added. -/
theorem inv_add {x : Iv} (hx : 1 ≤ x.root) : simV (sumV ⟨1, 0, 0, 1⟩ (simV ⟨x.two * -1, x.three * -1, x.five * -1, x.root⟩)) = simV ⟨x.root - x.two, -x.three, -x.five, x.root⟩ := by
  have hr : 1 ≤ (⟨x.two * -1, x.three * -1, x.five * -1, x.root⟩ : Iv).root := hx
  rw [sumV_comm, simV_eq (sumV_root (simV_root hr) (by decide)) (sumV_root hr (by decide)) (sumV_prop (simV_prop hr))]
  unfold sumV
  simp only
  congr 2 <;> omega
/-- What AddIntervals answers here. -/
theorem addInv {a b c d p q r s : Int} {y : Bool} (hx : okI a b c d = true) (h : CheckAt (d - a) (-b) (-c) d p q r s y) :
    addV ⟨1, 0, 0, 1⟩ (simV ⟨a * -1, b * -1, c * -1, d⟩) = (⟨p, q, r, s⟩, y) := by
  obtain ⟨d1, d2, a1, a2, b1, b2, c1, c2⟩ := okI_nums hx
  have okN : okV (simV ⟨a * -1, b * -1, c * -1, d⟩) = true := simV_ok (show okI (a * -1) (b * -1) (c * -1) d = true from okI_mk (by omega))
  have e := inv_add (x := ⟨a, b, c, d⟩) d1
  simp only at e
  unfold addV
  rw [e]
  rcases h.2 with ⟨rfl, hk, rfl, rfl, rfl, rfl⟩ | ⟨rfl, hk, rfl, rfl, rfl, rfl⟩
  · rw [if_pos ⟨by decide, okN, hk⟩]; rfl
  · rw [if_neg (fun h => by have := h.2.2; unfold okV simV at this; simp only at this; rw [hk] at this; cases this)]
/-- The interval downwards. -/
def DownAt (a b c d e f g h p q r s : Int) (y : Bool) : Prop := okI a b c d = true ∧ CheckAt (d - a) (-b) (-c) d p q r s y ∧ (⟨e, f, g, h⟩ : Iv) = simV ⟨a * -1, b * -1, c * -1, d⟩
theorem downAt_times {a b c d e f g h p q r s : Int} {y : Bool} (hh : DownAt a b c d e f g h p q r s y) (w : World) :
    Calls Try.prog 83 #[ivV a b c d, .int .i64 (-1)] w fun en w' => en = .returned (.tuple #[ivV e f g h, .bool true]) ∧ Below w.heap.size w w' := by
  obtain ⟨hx, _, he⟩ := hh
  obtain ⟨d1, d2, a1, a2, b1, b2, c1, c2⟩ := okI_nums hx
  have okN : okV (simV ⟨a * -1, b * -1, c * -1, d⟩) = true := simV_ok (show okI (a * -1) (b * -1) (c * -1) d = true from okI_mk (by omega))
  injection he with e1 e2 e3 e4
  subst e1 e2 e3 e4
  exact times_of a b c d (-1) _ _ _ _ hx (by omega) (by omega) ⟨rfl, rfl, rfl, rfl⟩ okN w
theorem downAt_add {a b c d e f g h p q r s : Int} {y : Bool} (hh : DownAt a b c d e f g h p q r s y) (w : World) :
    Calls Try.prog 68 #[ivV 1 0 0 1, ivV e f g h] w fun en w' => en = .returned (.tuple #[ivV p q r s, .bool y]) ∧ Below w.heap.size w w' := by
  obtain ⟨hx, hc, he⟩ := hh
  have t := add_total ⟨1, 0, 0, 1⟩ ⟨e, f, g, h⟩ w
  rw [he, addInv hx hc, ← he] at t
  exact t
theorem octave_one (w : World) : Calls Try.prog 28 #[.int .i64 1, .int .i64 0, .int .i64 0] w fun en w' => en = .returned (ivV 1 0 0 1) ∧ Below w.heap.size w w' := pure_impl_yes 1 0 0 w (by decide)
set_option maxRecDepth 100000 in
set_option maxHeartbeats 2000000 in
/-- differenceOf where the interval downwards is valid. -/
theorem diff_impl_yes {a b c d e f g h p q r s i j k l : Int} {y : Bool} (ht : ∀ w, Calls Try.prog 83 #[ivV a b c d, .int .i64 (-1)] w fun en w' => en = .returned (.tuple #[ivV p q r s, .bool true]) ∧ Below w.heap.size w w')
    (ha : ∀ w, Calls Try.prog 68 #[ivV e f g h, ivV p q r s] w fun en w' => en = .returned (.tuple #[ivV i j k l, .bool y]) ∧ Below w.heap.size w w') (w : World) :
    Calls Try.prog 70 #[ivV a b c d, ivV e f g h] w fun en w' => en = .returned (.tuple #[ivV i j k l, .bool y]) ∧ Below w.heap.size w w' := by
  have HT := Lib.hid ht
  have HA := Lib.hid ha
  clear ht ha
  go_enter Try.func70, Try.ntmps70
  go_wp2_with fail
  refine (HT.out _).mono ?_
  rintro en w1 ⟨rfl, hb⟩
  have hf : Four (w.heap.size + 1) e f g h w1 := by
    refine four_keep hb (four_alF ?_)
    have q : w.heap.size + 1 = (w.alloc (.cells #[.int .i64 a, .int .i64 b, .int .i64 c, .int .i64 d] 44)).heap.size := by simp
    rw [q]
    exact four_alloc
  have hz : Zero4 (w.heap.size + 2) w1 := by
    refine zero4_keep hb ?_
    have q : w.heap.size + 2 = ((w.alloc (.cells #[.int .i64 a, .int .i64 b, .int .i64 c, .int .i64 d] 44)).alloc (.cells #[.int .i64 e, .int .i64 f, .int .i64 g, .int .i64 h] 44)).heap.size := by simp
    rw [q]
    exact zero4_alloc
  have B1 := Lib.hid ((below_alloc3 w _ _ _).trans (hb.mono (by simp; omega)))
  clear hb
  go_upto_region 4 with fail
  obtain ⟨W1, hW⟩ : ∃ W, W = w1.alloc (.cells #[.int .i64 p, .int .i64 q, .int .i64 r, .int .i64 s] 44) := ⟨_, rfl⟩
  have hn : Four w1.heap.size p q r s W1 := by rw [hW]; exact four_alloc
  have hf1 : Four (w.heap.size + 1) e f g h W1 := by rw [hW]; exact four_alF hf
  have hz1 : Zero4 (w.heap.size + 2) W1 := by rw [hW]; exact zero4_keep ((Below.refl _ _).alloc (Nat.le_refl _) _) hz
  have B2 : Hid (Below w.heap.size w W1) := Lib.hid (by rw [hW]; exact B1.out.alloc B1.out.size _)
  rw [← hW]
  obtain ⟨m, hm⟩ : ∃ k, k = w1.heap.size := ⟨_, rfl⟩
  obtain ⟨n, hn'⟩ : ∃ k, k = w.heap.size + 1 := ⟨_, rfl⟩
  obtain ⟨z, hzz⟩ : ∃ k, k = n + 1 := ⟨_, rfl⟩
  have hbz := Lib.hid (show w.heap.size ≤ z by omega)
  rw [← hm] at hn ⊢
  rw [show w.heap.size + 2 = n + 1 by omega] at hz1
  rw [← hn'] at hf1 ⊢
  rw [← hzz] at hz1 ⊢
  have Z1 := Lib.hid hz1
  obtain ⟨_, x0, x1, x2, x3⟩ := hf1
  obtain ⟨_, y0, y1, y2, y3⟩ := hn
  clear hW B1 hf hz hz1 hm hn' hzz
  go_wp2_with fail
  refine (calls_zero Z1.out (Below.refl _ _) (HA.out _)).mono ?_
  rintro en w2 ⟨rfl, hb, hz⟩
  obtain ⟨⟨zm, z0, z1, z2, z3⟩, zf⟩ := hz
  clear x0 x1 x2 x3 y0 y1 y2 y3
  go_upto_region 5 with fail
  obtain ⟨X, hX, ⟨gm, g0, g1, g2, g3⟩, gb⟩ := stored4 (p := i) (q := j) (r := k) (s := l) B2.out.size hbz.out hb ⟨zm, z0, z1, z2, z3⟩
  rw [← hX]
  have GB := Lib.hid (B2.out.trans gb)
  clear hX gb z0 z1 z2 z3 zm zf hb
  go_wp2_with fail
  refine bodyPost_ret (v := .tuple #[ivV i j k l, .bool y]) (by simp [results, Try.results70, go_sem, g0, g1, g2, g3]) rfl ⟨rfl, GB.out⟩
set_option maxRecDepth 100000 in
set_option maxHeartbeats 1000000 in
/-- differenceOf from an interval that is not valid. -/
theorem diff_impl_no {a b c d : Int} (e f g h : Int) (hx : okI a b c d = false) (w : World) :
    Calls Try.prog 70 #[ivV a b c d, ivV e f g h] w fun en w' => en = .returned (.tuple #[ivV 0 0 0 0, .bool false]) ∧ Below w.heap.size w w' := by
  have HX := Lib.hid hx
  clear hx
  go_enter Try.func70, Try.ntmps70
  go_wp2_with fail
  refine (times_impl_bad _ _ _ _ _ _ HX.out).mono ?_
  rintro en w1 ⟨rfl, hb⟩
  have hz : Zero4 (w.heap.size + 2) w1 := by
    refine zero4_keep hb ?_
    have q : w.heap.size + 2 = ((w.alloc (.cells #[.int .i64 a, .int .i64 b, .int .i64 c, .int .i64 d] 44)).alloc (.cells #[.int .i64 e, .int .i64 f, .int .i64 g, .int .i64 h] 44)).heap.size := by simp
    rw [q]
    exact zero4_alloc
  have B1 := Lib.hid ((below_alloc3 w _ _ _).trans (hb.mono (by simp; omega)))
  clear hb
  go_upto_region 3 with fail
  obtain ⟨W1, hW⟩ : ∃ W, W = w1.alloc (.cells #[.int .i64 0, .int .i64 0, .int .i64 0, .int .i64 0] 44) := ⟨_, rfl⟩
  have hz1 : Zero4 (w.heap.size + 2) W1 := by rw [hW]; exact zero4_keep ((Below.refl _ _).alloc (Nat.le_refl _) _) hz
  have B2 : Hid (Below w.heap.size w W1) := Lib.hid (by rw [hW]; exact B1.out.alloc B1.out.size _)
  rw [← hW]
  obtain ⟨n, hn'⟩ : ∃ k, k = w.heap.size + 1 := ⟨_, rfl⟩
  obtain ⟨z, hzz⟩ : ∃ k, k = n + 1 := ⟨_, rfl⟩
  have hbz := Lib.hid (show w.heap.size ≤ z by omega)
  rw [show w.heap.size + 2 = n + 1 by omega] at hz1
  rw [← hn', ← hzz]
  rw [← hzz] at hz1
  obtain ⟨⟨zm, z0, z1, z2, z3⟩, zf⟩ := hz1
  clear hW B1 hz hn' hzz
  go_upto_region 5 with fail
  obtain ⟨X, hX, ⟨gm, g0, g1, g2, g3⟩, gb⟩ := stored4 (p := 0) (q := 0) (r := 0) (s := 0) B2.out.size hbz.out (Below.refl _ _) ⟨zm, z0, z1, z2, z3⟩
  rw [← hX]
  have GB := Lib.hid (B2.out.trans gb)
  clear hX gb z0 z1 z2 z3 zm zf
  go_wp2_with fail
  refine bodyPost_ret (v := .tuple #[ivV 0 0 0 0, .bool false]) (by simp [results, Try.results70, go_sem, g0, g1, g2, g3]) rfl ⟨rfl, GB.out⟩
/-- What differenceOf answers. -/
def diffV (x y : Iv) : Iv × Bool := if okV x = true then addV y (simV ⟨x.two * -1, x.three * -1, x.five * -1, x.root⟩) else (⟨0, 0, 0, 0⟩, false)
theorem down_times {a b c d : Int} (hx : okI a b c d = true) (w : World) :
    Calls Try.prog 83 #[ivV a b c d, .int .i64 (-1)] w fun en w' => en = .returned (.tuple #[ivV (simV ⟨a * -1, b * -1, c * -1, d⟩).two (simV ⟨a * -1, b * -1, c * -1, d⟩).three (simV ⟨a * -1, b * -1, c * -1, d⟩).five (simV ⟨a * -1, b * -1, c * -1, d⟩).root, .bool true]) ∧ Below w.heap.size w w' := by
  obtain ⟨d1, d2, a1, a2, b1, b2, c1, c2⟩ := okI_nums hx
  have okN : okV (simV ⟨a * -1, b * -1, c * -1, d⟩) = true := simV_ok (show okI (a * -1) (b * -1) (c * -1) d = true from okI_mk (by omega))
  exact times_of a b c d (-1) _ _ _ _ hx (by omega) (by omega) ⟨rfl, rfl, rfl, rfl⟩ okN w
/-- differenceOf, told without a look inside. -/
def DiffSays (a b c d e f g h i j k l : Int) (y : Bool) : Prop := ∀ w, Calls Try.prog 70 #[ivV a b c d, ivV e f g h] w fun en w' => en = .returned (.tuple #[ivV i j k l, .bool y]) ∧ Below w.heap.size w w'
theorem diff_says (x y z : Iv) (o : Bool) (hz : diffV x y = (z, o)) : DiffSays x.two x.three x.five x.root y.two y.three y.five y.root z.two z.three z.five z.root o := by
  intro w
  unfold diffV at hz
  by_cases hx : okV x = true
  · rw [if_pos hx] at hz
    refine diff_impl_yes (fun w => down_times hx w) (fun w => ?_) w
    have t := add_total y (simV ⟨x.two * -1, x.three * -1, x.five * -1, x.root⟩) w
    rw [hz] at t
    exact t
  · rw [if_neg hx] at hz
    injection hz with h1 h2
    subst h1 h2
    exact diff_impl_no _ _ _ _ (Bool.eq_false_iff.2 hx) w
theorem inv_diff {a b c d p q r s : Int} {y : Bool} (h : InvAt a b c d p q r s y) : diffV ⟨a, b, c, d⟩ ⟨1, 0, 0, 1⟩ = (⟨p, q, r, s⟩, y) := by
  unfold diffV
  rcases h with ⟨hx, hc⟩ | ⟨h, rfl, rfl, rfl, rfl, rfl⟩
  · rw [if_pos (show okV ⟨a, b, c, d⟩ = true from hx)]
    exact addInv hx hc
  · rw [if_neg (fun k => by rw [show okV ⟨a, b, c, d⟩ = okI a b c d from rfl, h] at k; cases k)]
end Go.Proofs.Ytjfeeppbbckneab
/- Contract of impl.SamePitchClass. -/
namespace Go.Proofs.Ytjfeeppbbckneab
open Go.RowKit Go.Joins
set_option linter.unusedVariables false
end Go.Proofs.Ytjfeeppbbckneab
