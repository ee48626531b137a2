/- Contracts of impl.ComparePitches and impl.BeatOf: both pitches counted in their least common time. -/
import Derived.Test.YtgoaofkbegfinaaSoundImpl
namespace Go.Proofs.Ytgoaofkbegfinaa
open Go.RowKit Go.Joins
set_option linter.unusedVariables false
theorem time_facts {ad bd : Int} (h1 : 1 ≤ ad ∧ ad ≤ 1000000000) (h2 : 1 ≤ bd ∧ bd ≤ 1000000000) : ∃ g q r, (g = gcdI ad bd ∧ q = ad / gcdI ad bd ∧ r = bd / gcdI ad bd) ∧ (ad = g * q ∧ bd = g * r) ∧ (1 ≤ g ∧ (1 ≤ q ∧ q ≤ 1000000000) ∧ 1 ≤ r ∧ r ≤ 1000000000) ∧ IntKind.i64.wrap (ad.tdiv g) = q ∧ IntKind.i64.wrap (q * bd) = q * bd ∧ IntKind.i64.wrap ((q * bd).tdiv ad) = r ∧ IntKind.i64.wrap ((q * bd).tdiv bd) = q := by
  obtain ⟨⟨g1, g2, g3⟩, ⟨e1, e2⟩, ⟨q1, q2⟩, _⟩ := gcd_facts h1.1 h2.1
  obtain ⟨g, hg⟩ : ∃ g, g = gcdI ad bd := ⟨_, rfl⟩
  obtain ⟨q, hq⟩ : ∃ q, q = ad / gcdI ad bd := ⟨_, rfl⟩
  obtain ⟨r, hr⟩ : ∃ r, r = bd / gcdI ad bd := ⟨_, rfl⟩
  have lq : q ≤ ad := by rw [hq]; exact Int.ediv_le_self _ (by omega)
  have lr : r ≤ bd := by rw [hr]; exact Int.ediv_le_self _ (by omega)
  have tq : ad.tdiv g = q := by rw [hq, hg]; exact Int.tdiv_eq_ediv_of_nonneg (by omega)
  refine ⟨g, q, r, ⟨hg, hq, hr⟩, ?_⟩
  rw [← hq] at q1 e1
  rw [← hr] at q2 e2
  rw [← hg] at e1 e2 g1
  clear hq hr hg
  have b : 0 ≤ q * bd ∧ q * bd ≤ 1000000000000000000 := by
    refine ⟨Int.mul_nonneg (by omega) (by omega), ?_⟩
    have := Int.mul_le_mul (a := q) (c := 1000000000) (b := bd) (d := 1000000000) (by omega) (by omega) (by omega) (by omega)
    omega
  have t1 : (q * bd).tdiv ad = r := by
    have h : q * bd = r * ad := by rw [e1, e2]; grind
    rw [h]
    exact Int.mul_tdiv_cancel _ (by omega)
  have t2 : (q * bd).tdiv bd = q := Int.mul_tdiv_cancel _ (by omega)
  refine ⟨⟨e1, e2⟩, ⟨g1, ⟨q1, by omega⟩, q2, by omega⟩, ?_, ?_, ?_, ?_⟩
  · rw [tq]; exact IntWalk.i64_in _ (by omega)
  · exact IntWalk.i64_in _ (by omega)
  · rw [t1]; exact IntWalk.i64_in _ (by omega)
  · rw [t2]; exact IntWalk.i64_in _ (by omega)
def clamp17 (n lo hi : Int) : Int := if hi < lo ∨ n < lo then lo else if hi < n then hi else n
theorem clamp_impl17 (n lo hi : Int) (w : World) : Calls Try.prog 32 #[.int .i64 n, .int .i64 lo, .int .i64 hi] w fun e w' => e = .returned (.int .i64 (clamp17 n lo hi)) ∧ w = w' := by
  by_cases h1 : n < lo
  · go_enter Try.func32, Try.ntmps32
    go_wp2
    go_ret
    exact ⟨ret_int (by unfold clamp17; (repeat' split) <;> omega), rfl⟩
  · by_cases h2 : hi < lo
    · go_enter Try.func32, Try.ntmps32
      go_wp2
      go_ret
      exact ⟨ret_int (by unfold clamp17; (repeat' split) <;> omega), rfl⟩
    · by_cases h3 : hi < n
      · go_enter Try.func32, Try.ntmps32
        go_wp2
        go_ret
        exact ⟨ret_int (by unfold clamp17; (repeat' split) <;> omega), rfl⟩
      · go_enter Try.func32, Try.ntmps32
        go_wp2
        go_ret
        exact ⟨ret_int (by unfold clamp17; (repeat' split) <;> omega), rfl⟩
def sgn17 (n : Int) : Int := if n < 0 then -1 else if 0 < n then 1 else 0
theorem sign_any17 (n : Int) (w : World) : Calls Try.prog 27 #[.int .i64 n] w fun e w' => e = .returned (.int .i64 (sgn17 n)) ∧ w = w' := by
  go_enter Try.func27, Try.ntmps27
  go_wp2_with fail
  refine (clamp_impl17 _ _ _ _).mono ?_
  rintro e1 w1 ⟨rfl, rfl⟩
  go_wp2_with fail
  go_ret
  exact ⟨ret_int (by unfold sgn17 clamp17; (repeat' split) <;> omega), rfl⟩
theorem cmp_sign {an ad bn bd g q r c : Int} (h : PkOk an ad ∧ PkOk bn bd) (hg : 1 ≤ g) (e1 : ad = g * q) (e2 : bd = g * r) (hc : CmpAt an ad bn bd c) : sgn17 (an * r - bn * q) = c := by
  have k := hc.elim (fun q => q.2) (fun q => absurd h q.1)
  have u1 : an * bd = g * (an * r) := by rw [e2]; grind
  have u2 : bn * ad = g * (bn * q) := by rw [e1]; grind
  rw [u1, u2] at k
  have hp : 0 < g := by omega
  unfold sgn17
  rcases k with ⟨k, rfl⟩ | ⟨k, rfl⟩ | ⟨k, rfl⟩
  · have := Int.lt_of_mul_lt_mul_left k (by omega : 0 ≤ g)
    rw [if_pos (by omega)]
  · have := Int.lt_of_mul_lt_mul_left k (by omega : 0 ≤ g)
    rw [if_neg (by omega), if_pos (by omega)]
  · have := Int.eq_of_mul_eq_mul_left (by omega : g ≠ 0) k
    rw [if_neg (by omega), if_neg (by omega)]
theorem prod18 {x y : Int} (hx : 1 ≤ x ∧ x ≤ 1000000000) (hy : 1 ≤ y ∧ y ≤ 1000000000) : 0 ≤ x * y ∧ x * y ≤ 1000000000000000000 := by
  refine ⟨Int.mul_nonneg (by omega) (by omega), ?_⟩
  have := Int.mul_le_mul (a := x) (c := 1000000000) (b := y) (d := 1000000000) hx.2 hy.2 (by omega) (by omega)
  omega
set_option maxHeartbeats 1000000 in
theorem cmp_impl17 : CmpImpl17 := by
  intro an ad bn bd c hf w
  have PA := Lib.hid (fun w => pk_impl an ad w)
  have PB := Lib.hid (fun w => pk_impl bn bd w)
  obtain ⟨W0, hW0⟩ : ∃ W, W = (w.alloc (.cells #[.int .i64 an, .int .i64 ad] 25)).alloc (.cells #[.int .i64 bn, .int .i64 bd] 25) := ⟨_, rfl⟩
  obtain ⟨m, hm⟩ : ∃ m, m = w.heap.size := ⟨_, rfl⟩
  have T0 : Hid (TwoD m (m + 1) an ad bn bd W0) := Lib.hid (by rw [hW0, hm]; exact twoD_alloc w an ad bn bd 25)
  have B0 : Hid (Below w.heap.size w W0) := Lib.hid (by rw [hW0]; exact below_alloc2 w _ _)
  have HW := Lib.hid hW0
  have HM := Lib.hid hm
  clear hW0 hm
  by_cases h1 : PkOk an ad
  · rw [show pkB an ad = true from decide_eq_true h1] at PA
    by_cases h2 : PkOk bn bd
    · rw [show pkB bn bd = true from decide_eq_true h2] at PB
      obtain ⟨g, q, r, ⟨hg, hq, hr⟩, ⟨e1, e2⟩, ⟨g1, lq, lr⟩, v1, v2, v3, v4⟩ := time_facts h1.1.2 h2.1.2
      have GC : ∀ w, Calls Try.prog 28 #[.int .i64 ad, .int .i64 bd] w (QuietInt g w) := fun w => by rw [hg]; exact gcdW_impl ad bd w h1.1.2.1 (by have := h1.1.2; omega) h2.1.2.1 (by have := h2.1.2; omega)
      have CT := Lib.hid (fun w => ctP an ad bn bd g q GC v1 (by omega) v2 w)
      have b1 := prod18 h1.1.1 lr
      have b2 := prod18 h2.1.1 lq
      have V1 := Lib.hid (fun w => vinP an ad (q * bd) r (an * r) true (by have := h1.1.1; omega) (by have := h1.1.2; omega) lr.1 (by omega) v3 (.inl ⟨b1.2, rfl, rfl⟩) w)
      have V2 := Lib.hid (fun w => vinP bn bd (q * bd) q (bn * q) true (by have := h2.1.1; omega) (by have := h2.1.2; omega) lq.1 (by omega) v4 (.inl ⟨b2.2, rfl, rfl⟩) w)
      have SG := cmp_sign ⟨h1, h2⟩ g1 e1 e2 hf
      obtain ⟨x, hx⟩ : ∃ x, x = an * r := ⟨_, rfl⟩
      obtain ⟨y, hy⟩ : ∃ y, y = bn * q := ⟨_, rfl⟩
      obtain ⟨T, hT⟩ : ∃ T, T = q * bd := ⟨_, rfl⟩
      rw [← hT] at CT V1 V2
      rw [← hx] at V1 SG b1
      rw [← hy] at V2 SG b2
      have SI := Lib.hid (fun w => sign_any17 (x - y) w)
      rw [SG] at SI
      have W12 := Lib.hid b1
      have W13 := Lib.hid b2
      clear hf h1 h2 hg hq hr e1 e2 g1 lq lr v1 v2 v3 v4 GC b1 b2 SG hx hy hT
      go_enter Try.func13, Try.ntmps13
      go_upto_region 1 with fail
      rw [← HW.out]
      (try simp only [World.size_alloc])
      rw [← HM.out]
      obtain ⟨⟨_, c0, c1⟩, _, c2, c3⟩ := T0.out
      go_wp2_with fail
      refine (PA.out _).mono ?_
      rintro e w1 ⟨rfl, hb⟩
      have T1 := Lib.hid (twoD_keep hb T0.out)
      have B1 := Lib.hid (B0.out.trans (hb.mono B0.out.size))
      clear hb c0 c1 c2 c3 T0 B0
      obtain ⟨⟨_, c0, c1⟩, _, c2, c3⟩ := T1.out
      go_wp2_with fail
      refine (PB.out _).mono ?_
      rintro e w2 ⟨rfl, hb⟩
      have T2 := Lib.hid (twoD_keep hb T1.out)
      have B2 := Lib.hid (B1.out.trans (hb.mono B1.out.size))
      clear hb c0 c1 c2 c3 T1 B1
      obtain ⟨⟨_, c0, c1⟩, _, c2, c3⟩ := T2.out
      go_wp2_with fail
      refine (CT.out _).mono ?_
      rintro e w3 ⟨rfl, hb⟩
      have T3 := Lib.hid (twoD_keep hb T2.out)
      have B3 := Lib.hid (B2.out.trans (hb.mono B2.out.size))
      clear hb c0 c1 c2 c3 T2 B2
      obtain ⟨⟨_, c0, c1⟩, _, c2, c3⟩ := T3.out
      go_wp2_with fail
      refine (V1.out _).mono ?_
      rintro e w4 ⟨rfl, hb⟩
      have T4 := Lib.hid (twoD_keep hb T3.out)
      have B4 := Lib.hid (B3.out.trans (hb.mono B3.out.size))
      clear hb c0 c1 c2 c3 T3 B3
      obtain ⟨⟨_, c0, c1⟩, _, c2, c3⟩ := T4.out
      go_wp2_with fail
      refine (V2.out _).mono ?_
      rintro e w5 ⟨rfl, hb⟩
      have T5 := Lib.hid (twoD_keep hb T4.out)
      have B5 := Lib.hid (B4.out.trans (hb.mono B4.out.size))
      clear hb c0 c1 c2 c3 T4 B4
      obtain ⟨⟨_, c0, c1⟩, _, c2, c3⟩ := T5.out
      have b1 := W12.out
      have b2 := W13.out
      go_wp2_with fail
      refine (SI.out _).mono ?_
      rintro e w6 ⟨rfl, rfl⟩
      go_wp2_with fail
      go_ret
      exact ⟨rfl, B5.out⟩
    · rw [show pkB bn bd = false from decide_eq_false h2] at PB
      obtain rfl := hf.elim (fun q => absurd q.1.2 h2) (fun q => q.2)
      clear h1 h2 hf
      go_enter Try.func13, Try.ntmps13
      go_upto_region 1 with fail
      rw [← HW.out]
      (try simp only [World.size_alloc])
      rw [← HM.out]
      obtain ⟨⟨_, c0, c1⟩, _, c2, c3⟩ := T0.out
      go_wp2_with fail
      refine (PA.out _).mono ?_
      rintro e w1 ⟨rfl, hb⟩
      have T1 := Lib.hid (twoD_keep hb T0.out)
      have B1 := Lib.hid (B0.out.trans (hb.mono B0.out.size))
      clear hb c0 c1 c2 c3 T0 B0
      obtain ⟨⟨_, c0, c1⟩, _, c2, c3⟩ := T1.out
      go_wp2_with fail
      refine (PB.out _).mono ?_
      rintro e w2 ⟨rfl, hb⟩
      have T2 := Lib.hid (twoD_keep hb T1.out)
      have B2 := Lib.hid (B1.out.trans (hb.mono B1.out.size))
      clear hb c0 c1 c2 c3 T1 B1
      obtain ⟨⟨_, c0, c1⟩, _, c2, c3⟩ := T2.out
      go_wp2_with fail
      go_ret
      exact ⟨rfl, B2.out⟩
  · rw [show pkB an ad = false from decide_eq_false h1] at PA
    obtain rfl := hf.elim (fun q => absurd q.1.1 h1) (fun q => q.2)
    clear h1 hf
    go_enter Try.func13, Try.ntmps13
    go_upto_region 1 with fail
    rw [← HW.out]
    (try simp only [World.size_alloc])
    rw [← HM.out]
    obtain ⟨⟨_, c0, c1⟩, _, c2, c3⟩ := T0.out
    go_wp2_with fail
    refine (PA.out _).mono ?_
    rintro e w1 ⟨rfl, hb⟩
    have T1 := Lib.hid (twoD_keep hb T0.out)
    have B1 := Lib.hid (B0.out.trans (hb.mono B0.out.size))
    clear hb c0 c1 c2 c3 T0 B0
    obtain ⟨⟨_, c0, c1⟩, _, c2, c3⟩ := T1.out
    go_wp2_with fail
    go_ret
    exact ⟨rfl, B1.out⟩
/-- What the two counts make of the answer. -/
def BtWay (D x1 x2 T : Int) (z1 z2 : Bool) (x y : Int) (z : Bool) : Prop :=
  (z1 = true ∧ z2 = true ∧ ((x1 = x2 ∧ x = 0 ∧ y = 0 ∧ z = true) ∨ (¬ x1 = x2 ∧ MakeAt D T x y z))) ∨ (z1 = true ∧ z2 = false ∧ x = 0 ∧ y = 0 ∧ z = false) ∨ (z1 = false ∧ x = 0 ∧ y = 0 ∧ z = false)
theorem vin_bd {v t x : Int} {z : Bool} (hv : 0 ≤ v) (ht : 0 ≤ t) (h : VinAt v t x z) : 0 ≤ x ∧ x ≤ 1000000000000000000 := by
  rcases h with ⟨h1, h2, _⟩ | ⟨_, h2, _⟩
  · rw [h2]; exact ⟨Int.mul_nonneg hv ht, h1⟩
  · omega
theorem beat_way {an ad bn bd p q x y x1 x2 : Int} {z z1 z2 : Bool} (h1 : PkOk an ad) (h2 : PkOk bn bd) (h3 : In2 1 16 p q) (hf : BeatAt an ad bn bd p q x y z) (hv1 : VinAt (p * an) (bd / gcdI ad bd) x1 z1) (hv2 : VinAt (q * bn) (ad / gcdI ad bd) x2 z2) : BtWay (dif x1 x2) x1 x2 (ad / gcdI ad bd * bd) z1 z2 x y z := by
  have hno : ¬ BtOk an ad bn bd p q → x = 0 ∧ y = 0 ∧ z = false := fun h => hf.elim (fun q => absurd q.1 h) (fun q => q.elim (fun q => absurd q.1 h) (fun q => q.2))
  rcases hv1 with ⟨a1, a2, a3⟩ | ⟨a1, a2, a3⟩
  · rcases hv2 with ⟨b1, b2, b3⟩ | ⟨b1, b2, b3⟩
    · refine .inl ⟨a3, b3, ?_⟩
      have e : btN an ad bn bd p q = dif x1 x2 := by unfold btN; rw [← a2, ← b2]
      have hd : dif x1 x2 = 0 ↔ x1 = x2 := by unfold dif; omega
      rw [← e] at hd ⊢
      have hok : BtOk an ad bn bd p q := ⟨⟨⟨h1, h2⟩, h3⟩, a1, b1⟩
      rcases hf with ⟨_, c1, c2⟩ | ⟨_, c1, c2⟩ | ⟨c0, _⟩
      · exact .inl ⟨hd.1 c1, c2⟩
      · exact .inr ⟨fun q => c1 (hd.2 q), c2⟩
      · exact absurd hok c0
    · exact .inr (.inl ⟨a3, b3, hno (fun q => by have := q.2.2; omega)⟩)
  · exact .inr (.inr ⟨a3, hno (fun q => by have := q.2.1; omega)⟩)
theorem beat_no {an ad bn bd p q x y : Int} {z : Bool} (hf : BeatAt an ad bn bd p q x y z) (h : ¬ ((PkOk an ad ∧ PkOk bn bd) ∧ In2 1 16 p q)) : x = 0 ∧ y = 0 ∧ z = false := hf.elim (fun q => absurd q.1.1 h) (fun q => q.elim (fun q => absurd q.1.1 h) (fun q => q.2))
theorem max17_run (ats : Array TypeId) (ty : TypeId) (a b c : Int) (h : c = max a b) : Builtin.max_ ats ty #[.int .i64 a, .int .i64 b] = pure (.int .i64 c) := by
  have e : c = if b > a then b else a := by rw [h]; split <;> omega
  rw [e]
  simp [Builtin.max_, Builtin.max2]
theorem prod17 {p n : Int} (hp : 1 ≤ p ∧ p ≤ 16) (hn : 1 ≤ n ∧ n ≤ 1000000000) : 0 ≤ p * n ∧ p * n ≤ 16000000000 := by
  refine ⟨Int.mul_nonneg (by omega) (by omega), ?_⟩
  have := Int.mul_le_mul (a := p) (c := 16) (b := n) (d := 1000000000) hp.2 hn.2 (by omega) (by omega)
  omega
/-- Two partials in memory. -/
def TwoQ (m k : Nat) (a b c d e f : Int) (w : World) : Prop := Trio m a b c w ∧ Trio k d e f w
theorem twoQ_keep {W w : World} {m k : Nat} {a b c d e f : Int} (hb : Below W.heap.size W w) (h : TwoQ m k a b c d e f W) : TwoQ m k a b c d e f w := ⟨trio_keep hb h.1, trio_keep hb h.2⟩
theorem twoQ_new (w : World) (a b c d e f : Int) (t : TypeId) : TwoQ w.heap.size (w.heap.size + 1) a b c d e f ((w.alloc (.cells #[.int .i64 a, .int .i64 b, .int .i64 c] t)).alloc (.cells #[.int .i64 d, .int .i64 e, .int .i64 f] t)).drew := by
  have h := trio_alloc (w := w.alloc (.cells #[.int .i64 a, .int .i64 b, .int .i64 c] t)) (a := d) (b := e) (c := f) (t := t)
  rw [World.size_alloc] at h
  exact ⟨trio_keep (below_alloc1 _ _).drew trio_alloc, h⟩
theorem twoQ_new2 (w : World) (a b c d e f : Int) (t : TypeId) : TwoQ (w.heap.size + 1) w.heap.size a b c d e f ((w.alloc (.cells #[.int .i64 d, .int .i64 e, .int .i64 f] t)).alloc (.cells #[.int .i64 a, .int .i64 b, .int .i64 c] t)).drew := ⟨(twoQ_new w d e f a b c t).2, (twoQ_new w d e f a b c t).1⟩
set_option maxRecDepth 100000 in
set_option maxHeartbeats 2000000 in
theorem bt_impl : BtImpl := by
  intro an ad bn bd p q x y z hf w
  have PA := Lib.hid (fun w => pk_impl an ad w)
  have PB := Lib.hid (fun w => pk_impl bn bd w)
  have IN := Lib.hid (fun w g cap h0 h1 => within2_any w g cap 1 16 p q h0 h1)
  obtain ⟨WA, hWA⟩ : ∃ W, W = (w.alloc (.cells #[.int .i64 an, .int .i64 ad] 25)).alloc (.cells #[.int .i64 bn, .int .i64 bd] 25) := ⟨_, rfl⟩
  obtain ⟨W0, hW0⟩ : ∃ W, W = WA.alloc (.cells #[.int .i64 0, .int .i64 0] 25) := ⟨_, rfl⟩
  obtain ⟨m, hm⟩ : ∃ m, m = w.heap.size := ⟨_, rfl⟩
  have TA : TwoD m (m + 1) an ad bn bd WA := by rw [hWA, hm]; exact twoD_alloc w an ad bn bd 25
  have BA : Below w.heap.size w WA := by rw [hWA]; exact below_alloc2 w _ _
  have SA : WA.heap.size = m + 2 := by rw [hWA, hm]; simp
  have T0 : Hid (TwoD m (m + 1) an ad bn bd W0) := Lib.hid (by rw [hW0]; exact twoD_keep (below_alloc1 WA _) TA)
  have Z0 : Hid (Zed2 (m + 2) W0) := Lib.hid (by rw [hW0, ← SA]; exact zed2_alloc)
  have B0 : Hid (Below w.heap.size w W0) := Lib.hid (by rw [hW0]; exact below_growP BA _)
  rw [hWA] at hW0
  have HW := Lib.hid hW0
  have HM := Lib.hid hm
  clear hW0 hm hWA TA BA SA WA
  by_cases h1 : PkOk an ad
  · rw [show pkB an ad = true from decide_eq_true h1] at PA
    by_cases h2 : PkOk bn bd
    · rw [show pkB bn bd = true from decide_eq_true h2] at PB
      by_cases h3 : In2 1 16 p q
      · rw [decide_eq_true h3] at IN
        obtain ⟨g, qq, r, ⟨hg, hq, hr⟩, ⟨e1, e2⟩, ⟨g1, lq, lr⟩, v1, v2, v3, v4⟩ := time_facts h1.1.2 h2.1.2
        have GC : ∀ w, Calls Try.prog 28 #[.int .i64 ad, .int .i64 bd] w (QuietInt g w) := fun w => by rw [hg]; exact gcdW_impl ad bd w h1.1.2.1 (by have := h1.1.2; omega) h2.1.2.1 (by have := h2.1.2; omega)
        have CT := Lib.hid (fun w => ctQ an ad p bn bd q g qq GC v1 (by omega) v2 w)
        obtain ⟨x1, z1, hv1⟩ := vin_ex (p * an) r
        obtain ⟨x2, z2, hv2⟩ := vin_ex (q * bn) qq
        have l1 := prod17 h3.1 h1.1.1
        have l2 := prod17 h3.2 h2.1.1
        have V1 := Lib.hid (fun w => vinQ an ad p (qq * bd) r x1 z1 l1.1 (by omega) (by have := h1.1.2; omega) lr.1 (by omega) v3 hv1 w)
        have V2 := Lib.hid (fun w => vinQ bn bd q (qq * bd) qq x2 z2 l2.1 (by omega) (by have := h2.1.2; omega) lq.1 (by omega) v4 hv2 w)
        have b1 := vin_bd l1.1 (by omega) hv1
        have b2 := vin_bd l2.1 (by omega) hv2
        rw [hr] at hv1
        rw [hq] at hv2
        have WY := beat_way h1 h2 h3 hf hv1 hv2
        rw [← hq] at WY
        obtain ⟨T, hT⟩ : ∃ T, T = qq * bd := ⟨_, rfl⟩
        rw [← hT] at CT V1 V2 WY
        obtain ⟨D, hD⟩ : ∃ D, D = dif x1 x2 := ⟨_, rfl⟩
        rw [← hD] at WY
        have HMX := Lib.hid (fun ats ty => max17_run ats ty (x1 - x2) (x2 - x1) D hD)
        have HWY := Lib.hid WY
        have W12 := Lib.hid b1
        have W13 := Lib.hid b2
        clear hf h1 h2 h3 hg hq hr e1 e2 g1 lq lr v1 v2 v3 v4 GC b1 b2 hT hv1 hv2 l1 l2 hD WY
        go_enter Try.func11, Try.ntmps11
        go_upto_region 1 with fail
        rw [← HW.out]
        (try simp only [World.size_alloc])
        rw [← HM.out]
        obtain ⟨⟨_, c0, c1⟩, _, c2, c3⟩ := T0.out
        go_wp2_with fail
        refine (PA.out _).mono ?_
        rintro e w1 ⟨rfl, hb⟩
        have T1 := Lib.hid (twoD_keep hb T0.out)
        have Z1 := Lib.hid (zed2_keep hb Z0.out)
        have B1 := Lib.hid (B0.out.trans (hb.mono B0.out.size))
        clear hb c0 c1 c2 c3 T0 B0 Z0
        obtain ⟨⟨_, c0, c1⟩, _, c2, c3⟩ := T1.out
        go_wp2_with fail
        refine (PB.out _).mono ?_
        rintro e w2 ⟨rfl, hb⟩
        have T2 := Lib.hid (twoD_keep hb T1.out)
        have Z2 := Lib.hid (zed2_keep hb Z1.out)
        have B2 := Lib.hid (B1.out.trans (hb.mono B1.out.size))
        clear hb c0 c1 c2 c3 T1 B1 Z1
        obtain ⟨⟨_, c0, c1⟩, _, c2, c3⟩ := T2.out
        go_wp2_with fail
        refine (IN.out _ _ _ (by simp [go_sem]) (by simp [go_sem])).mono ?_
        rintro e w3 ⟨rfl, rfl⟩
        obtain ⟨W3, hW3⟩ : ∃ W, W = w2.alloc (.cells #[.int .i64 p, .int .i64 q] 3) := ⟨_, rfl⟩
        have T3 : Hid (TwoD m (m + 1) an ad bn bd W3) := Lib.hid (by rw [hW3]; exact twoD_keep (below_alloc1 w2 _) T2.out)
        have Z3 : Hid (Zed2 (m + 2) W3) := Lib.hid (by rw [hW3]; exact zed2_keep (below_alloc1 w2 _) Z2.out)
        have B3 : Hid (Below w.heap.size w W3) := Lib.hid (by rw [hW3]; exact below_growP B2.out _)
        rw [← hW3]
        clear hW3 T2 Z2 B2 c0 c1 c2 c3
        obtain ⟨⟨_, c0, c1⟩, _, c2, c3⟩ := T3.out
        go_upto_region 3 with fail
        go_cut [10, 11] (fun pa pb wx => ∃ k1 k2 : Nat, pa = .pointer (some ⟨k1, 0, none⟩) ∧ pb = .pointer (some ⟨k2, 0, none⟩) ∧ TwoQ k1 k2 an ad p bn bd q wx ∧ Below W3.heap.size W3 wx)
        case first =>
          go_region
          all_goals
            (try go_wp2_with fail)
            go_meet
            with_reducible first
              | exact ⟨_, _, rfl, rfl, twoQ_new _ _ _ _ _ _ _ _, (below_alloc2 _ _ _).drew⟩
              | exact ⟨_, _, rfl, rfl, twoQ_new2 _ _ _ _ _ _ _ _, (below_alloc2 _ _ _).drew⟩
        case rest =>
          obtain ⟨k1, k2, rfl, rfl, hq4, hb⟩ := hcut
          obtain ⟨W4, hW⟩ : ∃ W, W = wc := ⟨_, rfl⟩
          rw [← hW] at hq4 hb ⊢
          have Q4 := Lib.hid hq4
          have Z4 := Lib.hid (zed2_keep hb Z3.out)
          have B4 := Lib.hid (B3.out.trans (hb.mono B3.out.size))
          clear hW hq4 hb T3 Z3 B3 c0 c1 c2 c3
          obtain ⟨⟨_, c0, c1, c2⟩, _, d0, d1, d2⟩ := Q4.out
          go_wp2_with fail
          refine (CT.out _).mono ?_
          rintro e w5 ⟨rfl, hb⟩
          have Q5 := Lib.hid (twoQ_keep hb Q4.out)
          have Z5 := Lib.hid (zed2_keep hb Z4.out)
          have B5 := Lib.hid (B4.out.trans (hb.mono B4.out.size))
          clear hb c0 c1 c2 d0 d1 d2 Q4 Z4 B4
          obtain ⟨⟨_, c0, c1, c2⟩, _, d0, d1, d2⟩ := Q5.out
          go_wp2_with fail
          refine (V1.out _).mono ?_
          rintro e w6 ⟨rfl, hb⟩
          have Q6 := Lib.hid (twoQ_keep hb Q5.out)
          have Z6 := Lib.hid (zed2_keep hb Z5.out)
          have B6 := Lib.hid (B5.out.trans (hb.mono B5.out.size))
          clear hb c0 c1 c2 d0 d1 d2 Q5 Z5 B5
          obtain ⟨⟨_, c0, c1, c2⟩, _, d0, d1, d2⟩ := Q6.out
          go_wp2_with fail
          refine (V2.out _).mono ?_
          rintro e w7 ⟨rfl, hb⟩
          have Q7 := Lib.hid (twoQ_keep hb Q6.out)
          have Z7 := Lib.hid (zed2_keep hb Z6.out)
          have B7 := Lib.hid (B6.out.trans (hb.mono B6.out.size))
          clear hb c0 c1 c2 d0 d1 d2 Q6 Z6 B6
          obtain ⟨⟨_, c0, c1, c2⟩, _, d0, d1, d2⟩ := Q7.out
          rcases HWY.out with ⟨rfl, rfl, ⟨hx, rfl, rfl, rfl⟩ | ⟨hx, hmk⟩⟩ | ⟨rfl, rfl, rfl, rfl, rfl⟩ | ⟨rfl, rfl, rfl, rfl⟩
          · subst hx
            obtain ⟨⟨_, z0, z1⟩, f0, f1⟩ := Z7.out
            go_wp2_with fail
            obtain ⟨X, hX, ⟨_, x0, x1⟩, hB⟩ := duo_store (m := m + 2) (p := 0) (q := 0) (by have := HM.out; omega) B7.out Z7.out.1
            rw [hX]
            exact bodyPost_ret (v := .tuple #[pchV 0 0, .bool true]) (by simp [results, Try.results11, go_sem, x0, x1]) rfl ⟨rfl, hB⟩
          · have hne : (x1 == x2) = false := by simpa using hx
            have MK := Lib.hid (fun w => mk_impl D T x y z hmk w)
            have hmx := HMX.out
            have b1 := W12.out
            have b2 := W13.out
            clear hmk hx
            go_wp2_with fail
            refine (MK.out _).mono ?_
            rintro e w8 ⟨rfl, hb⟩
            have Z8 := Lib.hid (zed2_keep hb Z7.out)
            have B8 := Lib.hid (B7.out.trans (hb.mono B7.out.size))
            clear hb c0 c1 c2 d0 d1 d2 Q7 Z7 B7
            obtain ⟨⟨_, z0, z1⟩, f0, f1⟩ := Z8.out
            go_wp2_with fail
            obtain ⟨X, hX, ⟨_, x0, x1⟩, hB⟩ := duo_store (m := m + 2) (p := x) (q := y) (by have := HM.out; omega) B8.out Z8.out.1
            rw [hX]
            exact bodyPost_ret (v := .tuple #[pchV x y, .bool z]) (by simp [results, Try.results11, go_sem, x0, x1]) rfl ⟨rfl, hB⟩
          · skip
            obtain ⟨⟨_, z0, z1⟩, f0, f1⟩ := Z7.out
            go_wp2_with fail
            obtain ⟨X, hX, ⟨_, x0, x1⟩, hB⟩ := duo_store (m := m + 2) (p := 0) (q := 0) (by have := HM.out; omega) B7.out Z7.out.1
            rw [hX]
            exact bodyPost_ret (v := .tuple #[pchV 0 0, .bool false]) (by simp [results, Try.results11, go_sem, x0, x1]) rfl ⟨rfl, hB⟩
          · skip
            obtain ⟨⟨_, z0, z1⟩, f0, f1⟩ := Z7.out
            go_wp2_with fail
            obtain ⟨X, hX, ⟨_, x0, x1⟩, hB⟩ := duo_store (m := m + 2) (p := 0) (q := 0) (by have := HM.out; omega) B7.out Z7.out.1
            rw [hX]
            exact bodyPost_ret (v := .tuple #[pchV 0 0, .bool false]) (by simp [results, Try.results11, go_sem, x0, x1]) rfl ⟨rfl, hB⟩
      · rw [decide_eq_false h3] at IN
        obtain ⟨rfl, rfl, rfl⟩ := beat_no hf (fun q => h3 q.2)
        clear h1 h2 h3 hf
        go_enter Try.func11, Try.ntmps11
        go_upto_region 1 with fail
        rw [← HW.out]
        (try simp only [World.size_alloc])
        rw [← HM.out]
        obtain ⟨⟨_, c0, c1⟩, _, c2, c3⟩ := T0.out
        go_wp2_with fail
        refine (PA.out _).mono ?_
        rintro e w1 ⟨rfl, hb⟩
        have T1 := Lib.hid (twoD_keep hb T0.out)
        have Z1 := Lib.hid (zed2_keep hb Z0.out)
        have B1 := Lib.hid (B0.out.trans (hb.mono B0.out.size))
        clear hb c0 c1 c2 c3 T0 B0 Z0
        obtain ⟨⟨_, c0, c1⟩, _, c2, c3⟩ := T1.out
        go_wp2_with fail
        refine (PB.out _).mono ?_
        rintro e w2 ⟨rfl, hb⟩
        have T2 := Lib.hid (twoD_keep hb T1.out)
        have Z2 := Lib.hid (zed2_keep hb Z1.out)
        have B2 := Lib.hid (B1.out.trans (hb.mono B1.out.size))
        clear hb c0 c1 c2 c3 T1 B1 Z1
        obtain ⟨⟨_, c0, c1⟩, _, c2, c3⟩ := T2.out
        go_wp2_with fail
        refine (IN.out _ _ _ (by simp [go_sem]) (by simp [go_sem])).mono ?_
        rintro e w3 ⟨rfl, rfl⟩
        obtain ⟨W3, hW3⟩ : ∃ W, W = w2.alloc (.cells #[.int .i64 p, .int .i64 q] 3) := ⟨_, rfl⟩
        have T3 : Hid (TwoD m (m + 1) an ad bn bd W3) := Lib.hid (by rw [hW3]; exact twoD_keep (below_alloc1 w2 _) T2.out)
        have Z3 : Hid (Zed2 (m + 2) W3) := Lib.hid (by rw [hW3]; exact zed2_keep (below_alloc1 w2 _) Z2.out)
        have B3 : Hid (Below w.heap.size w W3) := Lib.hid (by rw [hW3]; exact below_growP B2.out _)
        rw [← hW3]
        clear hW3 T2 Z2 B2 c0 c1 c2 c3
        obtain ⟨⟨_, c0, c1⟩, _, c2, c3⟩ := T3.out
        obtain ⟨⟨_, z0, z1⟩, f0, f1⟩ := Z3.out
        go_wp2_with fail
        obtain ⟨X, hX, ⟨_, x0, x1⟩, hB⟩ := duo_store (m := m + 2) (p := 0) (q := 0) (by have := HM.out; omega) B3.out Z3.out.1
        rw [hX]
        exact bodyPost_ret (v := .tuple #[pchV 0 0, .bool false]) (by simp [results, Try.results11, go_sem, x0, x1]) rfl ⟨rfl, hB⟩
    · rw [show pkB bn bd = false from decide_eq_false h2] at PB
      obtain ⟨rfl, rfl, rfl⟩ := beat_no hf (fun q => h2 q.1.2)
      clear h1 h2 hf
      go_enter Try.func11, Try.ntmps11
      go_upto_region 1 with fail
      rw [← HW.out]
      (try simp only [World.size_alloc])
      rw [← HM.out]
      obtain ⟨⟨_, c0, c1⟩, _, c2, c3⟩ := T0.out
      go_wp2_with fail
      refine (PA.out _).mono ?_
      rintro e w1 ⟨rfl, hb⟩
      have T1 := Lib.hid (twoD_keep hb T0.out)
      have Z1 := Lib.hid (zed2_keep hb Z0.out)
      have B1 := Lib.hid (B0.out.trans (hb.mono B0.out.size))
      clear hb c0 c1 c2 c3 T0 B0 Z0
      obtain ⟨⟨_, c0, c1⟩, _, c2, c3⟩ := T1.out
      go_wp2_with fail
      refine (PB.out _).mono ?_
      rintro e w2 ⟨rfl, hb⟩
      have T2 := Lib.hid (twoD_keep hb T1.out)
      have Z2 := Lib.hid (zed2_keep hb Z1.out)
      have B2 := Lib.hid (B1.out.trans (hb.mono B1.out.size))
      clear hb c0 c1 c2 c3 T1 B1 Z1
      obtain ⟨⟨_, c0, c1⟩, _, c2, c3⟩ := T2.out
      obtain ⟨⟨_, z0, z1⟩, f0, f1⟩ := Z2.out
      go_wp2_with fail
      obtain ⟨X, hX, ⟨_, x0, x1⟩, hB⟩ := duo_store (m := m + 2) (p := 0) (q := 0) (by have := HM.out; omega) B2.out Z2.out.1
      rw [hX]
      exact bodyPost_ret (v := .tuple #[pchV 0 0, .bool false]) (by simp [results, Try.results11, go_sem, x0, x1]) rfl ⟨rfl, hB⟩
  · rw [show pkB an ad = false from decide_eq_false h1] at PA
    obtain ⟨rfl, rfl, rfl⟩ := beat_no hf (fun q => h1 q.1.1)
    clear h1 hf
    go_enter Try.func11, Try.ntmps11
    go_upto_region 1 with fail
    rw [← HW.out]
    (try simp only [World.size_alloc])
    rw [← HM.out]
    obtain ⟨⟨_, c0, c1⟩, _, c2, c3⟩ := T0.out
    go_wp2_with fail
    refine (PA.out _).mono ?_
    rintro e w1 ⟨rfl, hb⟩
    have T1 := Lib.hid (twoD_keep hb T0.out)
    have Z1 := Lib.hid (zed2_keep hb Z0.out)
    have B1 := Lib.hid (B0.out.trans (hb.mono B0.out.size))
    clear hb c0 c1 c2 c3 T0 B0 Z0
    obtain ⟨⟨_, c0, c1⟩, _, c2, c3⟩ := T1.out
    obtain ⟨⟨_, z0, z1⟩, f0, f1⟩ := Z1.out
    go_wp2_with fail
    obtain ⟨X, hX, ⟨_, x0, x1⟩, hB⟩ := duo_store (m := m + 2) (p := 0) (q := 0) (by have := HM.out; omega) B1.out Z1.out.1
    rw [hX]
    exact bodyPost_ret (v := .tuple #[pchV 0 0, .bool false]) (by simp [results, Try.results11, go_sem, x0, x1]) rfl ⟨rfl, hB⟩
end Go.Proofs.Ytgoaofkbegfinaa
