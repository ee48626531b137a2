/- Contract of the Go function impl.Clamp. -/
import Derived.Test.YtjfeeppbbckneabProg
import Derived.Test.YtjfeeppbbckneabNumBase
import Derived.WalkKit
import Derived.Below
import Derived.Laws.StructEq
import Derived.Laws.NewDeep
import Derived.Deep.QuietTactic
import Derived.Deep.RegionHeld3
import Derived.StillTailTactics
import Derived.BigQuiet
import Derived.RegionTactic
import Derived.IntWalk
import Derived.Lib.Hide
import Derived.Lib.SmallJoins
namespace Go.Proofs.Ytjfeeppbbckneab
open Go.RowKit
set_option linter.unusedVariables false
def clampI (n lo hi : Int) : Int := if hi < lo ∨ n < lo then lo else if hi < n then hi else n
theorem clamp_impl (n lo hi : Int) (w : World) : Calls Try.prog 84 #[.int .i64 n, .int .i64 lo, .int .i64 hi] w fun e w' => e = .returned (.int .i64 (clampI n lo hi)) ∧ w = w' := by
  by_cases h1 : n < lo
  · go_enter Try.func84, Try.ntmps84
    go_wp2
    go_ret
    exact ⟨ret_int (by unfold clampI; (repeat' split) <;> omega), rfl⟩
  · by_cases h2 : hi < lo
    · go_enter Try.func84, Try.ntmps84
      go_wp2
      go_ret
      exact ⟨ret_int (by unfold clampI; (repeat' split) <;> omega), rfl⟩
    · by_cases h3 : hi < n
      · go_enter Try.func84, Try.ntmps84
        go_wp2
        go_ret
        exact ⟨ret_int (by unfold clampI; (repeat' split) <;> omega), rfl⟩
      · go_enter Try.func84, Try.ntmps84
        go_wp2
        go_ret
        exact ⟨ret_int (by unfold clampI; (repeat' split) <;> omega), rfl⟩
end Go.Proofs.Ytjfeeppbbckneab
/- Contracts of laws.toInterval, spec.l01In, spec.IntervalOk, impl.clampedInterval and impl.IntervalOk. -/
namespace Go.Proofs.Ytjfeeppbbckneab
open Go.RowKit Go.Joins
set_option linter.unusedVariables false
/-- The value of an interval. -/
abbrev ivV (a b c d : Int) : Value := .agg #[.int .i64 a, .int .i64 b, .int .i64 c, .int .i64 d]
/-- IntervalOk. -/
def okI (a b c d : Int) : Bool := decide (1 ≤ d ∧ d ≤ 12 ∧ -400 ≤ a ∧ a ≤ 400 ∧ -400 ≤ b ∧ b ≤ 400 ∧ -400 ≤ c ∧ c ≤ 400)
theorem ret_boolT {x y : Bool} (h : x = y) : Ending.returned (.bool x) = .returned (.bool y) := by rw [h]
theorem inT_any (n lo hi : Int) (w : World) : Calls Try.prog 57 #[.int .i64 n, .int .i64 lo, .int .i64 hi] w fun e w' => e = .returned (.bool (decide (lo ≤ n ∧ n ≤ hi))) ∧ w = w' := by
  by_cases h1 : lo ≤ n
  · by_cases h2 : n ≤ hi
    · have R := Lib.hid (And.intro h1 h2)
      go_enter Try.func57, Try.ntmps57
      go_wp2
      go_ret
      exact ⟨ret_boolT (decide_eq_true R.out).symm, rfl⟩
    · have R := Lib.hid h2
      go_enter Try.func57, Try.ntmps57
      go_wp2
      go_ret
      exact ⟨ret_boolT (decide_eq_false (fun h => by have := R.out; omega)).symm, rfl⟩
  · have R := Lib.hid h1
    go_enter Try.func57, Try.ntmps57
    go_wp2
    go_ret
    exact ⟨ret_boolT (by have := R.out; simp; omega), rfl⟩
theorem sintervalOk_any (a b c d : Int) (w : World) :
    Calls Try.prog 73 #[ivV a b c d] w fun e w' => e = .returned (.bool (okI a b c d)) ∧ Below w.heap.size w w' := by
  have key : ∀ x : Bool, x = decide (1 ≤ d ∧ d ≤ 12) → ∀ y : Bool, y = decide (-400 ≤ a ∧ a ≤ 400) → ∀ z : Bool, z = decide (-400 ≤ b ∧ b ≤ 400) → ∀ t : Bool, t = decide (-400 ≤ c ∧ c ≤ 400) →
      okI a b c d = (x && y && z && t) := by
    intro x hx y hy z hz t ht
    subst hx hy hz ht
    unfold okI
    simp only [← Bool.decide_and]
    congr 1
    simp only [eq_iff_iff]
    constructor <;> intro h <;> omega
  obtain ⟨x, hx⟩ : ∃ x : Bool, decide (1 ≤ d ∧ d ≤ 12) = x := ⟨_, rfl⟩
  obtain ⟨y, hy⟩ : ∃ x : Bool, decide (-400 ≤ a ∧ a ≤ 400) = x := ⟨_, rfl⟩
  obtain ⟨z, hz⟩ : ∃ x : Bool, decide (-400 ≤ b ∧ b ≤ 400) = x := ⟨_, rfl⟩
  obtain ⟨t, ht⟩ : ∃ x : Bool, decide (-400 ≤ c ∧ c ≤ 400) = x := ⟨_, rfl⟩
  have K := Lib.hid (key x hx.symm y hy.symm z hz.symm t ht.symm)
  have hx := Lib.hid hx
  have hy := Lib.hid hy
  have hz := Lib.hid hz
  have ht := Lib.hid ht
  clear key
  cases x
  · go_enter Try.func73, Try.ntmps73
    go_wp2_with fail
    refine (inT_any _ _ _ _).mono ?_
    rintro e w' ⟨rfl, rfl⟩
    rw [hx.out]
    go_wp2_with fail
    go_ret
    exact ⟨ret_boolT K.out.symm, below_alloc1 _ _⟩
  · cases y
    · go_enter Try.func73, Try.ntmps73
      go_wp2_with fail
      refine (inT_any _ _ _ _).mono ?_
      rintro e w' ⟨rfl, rfl⟩
      rw [hx.out]
      go_wp2_with fail
      refine (inT_any _ _ _ _).mono ?_
      rintro e w' ⟨rfl, rfl⟩
      rw [hy.out]
      go_wp2_with fail
      go_ret
      exact ⟨ret_boolT K.out.symm, below_alloc1 _ _⟩
    · cases z
      · go_enter Try.func73, Try.ntmps73
        go_wp2_with fail
        refine (inT_any _ _ _ _).mono ?_
        rintro e w' ⟨rfl, rfl⟩
        rw [hx.out]
        go_wp2_with fail
        refine (inT_any _ _ _ _).mono ?_
        rintro e w' ⟨rfl, rfl⟩
        rw [hy.out]
        go_wp2_with fail
        refine (inT_any _ _ _ _).mono ?_
        rintro e w' ⟨rfl, rfl⟩
        rw [hz.out]
        go_wp2_with fail
        go_ret
        exact ⟨ret_boolT K.out.symm, below_alloc1 _ _⟩
      · go_enter Try.func73, Try.ntmps73
        go_wp2_with fail
        refine (inT_any _ _ _ _).mono ?_
        rintro e w' ⟨rfl, rfl⟩
        rw [hx.out]
        go_wp2_with fail
        refine (inT_any _ _ _ _).mono ?_
        rintro e w' ⟨rfl, rfl⟩
        rw [hy.out]
        go_wp2_with fail
        refine (inT_any _ _ _ _).mono ?_
        rintro e w' ⟨rfl, rfl⟩
        rw [hz.out]
        go_wp2_with fail
        refine (inT_any _ _ _ _).mono ?_
        rintro e w' ⟨rfl, rfl⟩
        rw [ht.out]
        go_wp2_with fail
        go_ret
        exact ⟨ret_boolT (by rw [K.out]; simp), below_alloc1 _ _⟩
end Go.Proofs.Ytjfeeppbbckneab
/- Contracts of impl.clampedInterval and impl.IntervalOk. -/
namespace Go.Proofs.Ytjfeeppbbckneab
open Go.RowKit Go.Joins
set_option linter.unusedVariables false
theorem bcellT {W w1 : World} (hb : Below W.heap.size W w1) : (∀ b o, b < W.heap.size → w1.cell? ⟨b, o, none⟩ = W.cell? ⟨b, o, none⟩) ∧ (∀ b o, b < W.heap.size → w1.frozen? ⟨b, o, none⟩ = W.frozen? ⟨b, o, none⟩) :=
  ⟨fun b o h => hb.cell (p := ⟨b, o, none⟩) h, fun b o h => hb.frozen (p := ⟨b, o, none⟩) h⟩
set_option maxHeartbeats 1000000 in
theorem clamped_any (a b c d : Int) (w : World) :
    Calls Try.prog 71 #[ivV a b c d] w fun e w' => e = .returned (ivV (clampI a (-400) 400) (clampI b (-400) 400) (clampI c (-400) 400) (clampI d 1 12)) ∧ Below w.heap.size w w' := by
  go_enter Try.func71, Try.ntmps71
  go_wp2_with fail
  go_region_held3 (fun w' => w'.cell? ⟨w.heap.size, 0, none⟩ = some (.int .i64 a) ∧ w'.cell? ⟨w.heap.size, 1, none⟩ = some (.int .i64 b) ∧ w'.cell? ⟨w.heap.size, 2, none⟩ = some (.int .i64 c) ∧ w'.cell? ⟨w.heap.size, 3, none⟩ = some (.int .i64 d)) (go_keep)
    (first | (go_at_call 84; refine (clamp_impl _ _ _ _).mono ?_; rintro e1 w1 ⟨rfl, rfl⟩))
  go_wp2_with fail
  refine bodyPost_ret (v := ivV (clampI a (-400) 400) (clampI b (-400) 400) (clampI c (-400) 400) (clampI d 1 12)) (by simp [results, Try.results71, go_sem]) rfl ⟨rfl, ?_⟩
  exact (below_alloc2 _ _ _).drew
theorem okI_of (a b c d : Int) : okI a b c d = ((a == clampI a (-400) 400) && (b == clampI b (-400) 400) && (c == clampI c (-400) 400) && (d == clampI d 1 12)) := by
  have k : ∀ n lo hi : Int, lo ≤ hi → (n == clampI n lo hi) = decide (lo ≤ n ∧ n ≤ hi) := by
    intro n lo hi h
    rw [Bool.eq_iff_iff]
    simp only [beq_iff_eq, decide_eq_true_eq]
    unfold clampI
    (repeat' split) <;> omega
  rw [k _ _ _ (by omega), k _ _ _ (by omega), k _ _ _ (by omega), k _ _ _ (by omega)]
  unfold okI
  simp only [← Bool.decide_and]
  congr 1
  simp only [eq_iff_iff]
  constructor <;> intro h <;> omega
set_option maxHeartbeats 1000000 in
theorem intervalOk_any (a b c d : Int) (w : World) :
    Calls Try.prog 55 #[ivV a b c d] w fun e w' => e = .returned (.bool (okI a b c d)) ∧ Below w.heap.size w w' := by
  have K := Lib.hid (okI_of a b c d)
  obtain ⟨x, hx⟩ : ∃ x : Bool, (a == clampI a (-400) 400) = x := ⟨_, rfl⟩
  obtain ⟨y, hy⟩ : ∃ x : Bool, (b == clampI b (-400) 400) = x := ⟨_, rfl⟩
  obtain ⟨z, hz⟩ : ∃ x : Bool, (c == clampI c (-400) 400) = x := ⟨_, rfl⟩
  obtain ⟨t, ht⟩ : ∃ x : Bool, (d == clampI d 1 12) = x := ⟨_, rfl⟩
  cases x
  all_goals cases y
  all_goals cases z
  all_goals cases t
  all_goals
    go_enter Try.func55, Try.ntmps55
    go_wp2_with fail
    go_region_held3 (fun w' => w'.cell? ⟨w.heap.size, 0, none⟩ = some (.int .i64 a) ∧ w'.cell? ⟨w.heap.size, 1, none⟩ = some (.int .i64 b) ∧ w'.cell? ⟨w.heap.size, 2, none⟩ = some (.int .i64 c) ∧ w'.cell? ⟨w.heap.size, 3, none⟩ = some (.int .i64 d)) (go_keep)
      (first | (go_at_call 71; refine (clamped_any _ _ _ _ _).mono ?_; rintro e1 w1 ⟨rfl, hb⟩; obtain ⟨hc, hf⟩ := bcellT hb))
    go_wp2_with fail
    go_ret
    exact ⟨ret_boolT (by rw [K.out, hx, hy, hz, ht]; rfl), Below.trans (B := w.heap.size) (below_alloc1 w _).drew (hb.mono (by simp))⟩
end Go.Proofs.Ytjfeeppbbckneab
/- Contract of laws.eqInterval at two equal intervals. -/
namespace Go.Proofs.Ytjfeeppbbckneab
open Go.RowKit Go.Joins
set_option linter.unusedVariables false
theorem eqInterval_same (a b c d : Int) (w : World) :
    Calls Try.prog 36 #[ivV a b c d, ivV a b c d] w fun e w' => e = .returned (.bool true) ∧ Below w.heap.size w w' := by
  go_enter Try.func36, Try.ntmps36
  go_wp2
  go_ret
  exact ⟨rfl, below_alloc2 _ _ _⟩
end Go.Proofs.Ytjfeeppbbckneab
/- Contracts of impl.commonDivisor and spec.l03Gcd: both answer the greatest common divisor. -/
namespace Go.Proofs.Ytjfeeppbbckneab
open Go.RowKit
set_option linter.unusedVariables false
/-- An int, and nothing of memory has changed. -/
def QuietInt (z : Int) (w : World) (e : Ending) (w' : World) : Prop := e = .returned (.int .i64 z) ∧ ∃ n, w' = w.drewN n
set_option maxHeartbeats 400000 in
theorem gcd_impl (a b : Int) (w : World) (ha : -1000000 ≤ a) (ha' : a ≤ 1000000) (hb : -1000000 ≤ b) (hb' : b ≤ 1000000) :
    Calls Try.prog 93 #[.int .i64 a, .int .i64 b] w (QuietInt (gcdI a b) w) := by
  go_enter Try.func93, Try.ntmps93
  go_wp2_with fail
  go_loopw [0, 1] (fun s t wr => ∃ x y : Int, ∃ d : Nat, s = .int .i64 x ∧ t = .int .i64 y ∧ -1000000 ≤ x ∧ x ≤ 1000000 ∧ -1000000 ≤ y ∧ y ≤ 1000000 ∧ Hid (gcdI x y = gcdI a b) ∧ wr = w.drewN d) (fun _ t _ => (intOf t).natAbs)
  case atStart => exact ⟨a, b, 0, rfl, rfl, ha, ha', hb, hb', Lib.hid rfl, rfl⟩
  case round =>
    obtain ⟨x, y, d, rfl, rfl, hx, hx', hy, hy', HG, rfl⟩ := hrel
    by_cases h : y = 0
    · subst h
      have hg := HG.out
      rw [gcdI_zero] at hg
      have HH := Lib.hid hg
      clear hg
      go_wp2_with fail
      all_goals
        go_ret
        refine ⟨ret_int ?_, d, rfl⟩
        rw [← HH.out]
        clear HG HH
        omega
    · have hb2 := tmod_bd x y 1000000 h hy hy'
      have hm := tmod_lt_abs x y h
      have hs := (gcdI_step x y).trans HG.out
      have HS := Lib.hid hs
      clear hs
      have h1 := hb2.1
      have h2 := hb2.2
      clear hb2
      have hne : (y != 0) = true := by simpa using h
      have hq : (y == 0) = false := by simpa using h
      have hw : IntKind.i64.wrap (x.tmod y) = x.tmod y := IntWalk.i64_in _ (by omega)
      go_wp2_with fail
      go_region
      go_wp2_with fail
      go_roundw
      case rel => exact ⟨y, _, d + 1, rfl, rfl, hy, hy', h1, h2, HS, rfl⟩
      case measure => simp only [intOf]; exact hm
theorem natAbs_pos_eq (a : Int) (h : -a ≤ a) : (a.natAbs : Int) = a := by omega
theorem natAbs_neg_eq (a : Int) (h : ¬ -a ≤ a) : (a.natAbs : Int) = -a := by omega
set_option maxHeartbeats 400000 in
theorem gcd_spec0 (a b x y : Int) (w : World) (hx0 : 0 ≤ x) (hx1 : x ≤ 1000000) (hy0 : 0 ≤ y) (hy1 : y ≤ 1000000) (ha : x = max a (-a)) (hb : y = max b (-b)) (hal : -1000000 ≤ a) (hal' : a ≤ 1000000) (hbl : -1000000 ≤ b) (hbl' : b ≤ 1000000) :
    Calls Try.prog 87 #[.int .i64 a, .int .i64 b] w (QuietInt (gcdI a b) w) := by
  have hxa : x = (a.natAbs : Int) := by omega
  have hyb : y = (b.natAbs : Int) := by omega
  have hgg : gcdI x y = gcdI a b := by rw [hxa, hyb, gcdI_abs]
  have HGG := Lib.hid hgg
  have HX := Lib.hid ha
  have HY := Lib.hid hb
  clear hxa hyb hgg ha hb
  by_cases h1 : -a ≤ a
  all_goals by_cases h2 : -b ≤ b
  all_goals
    go_enter Try.func87, Try.ntmps87
    go_wp2_with fail
    go_loopw [0, 1] (fun s t wr => ∃ x y : Int, ∃ d : Nat, s = .int .i64 x ∧ t = .int .i64 y ∧ 0 ≤ x ∧ x ≤ 1000000 ∧ 0 ≤ y ∧ y ≤ 1000000 ∧ Hid (gcdI x y = gcdI a b) ∧ wr = w.drewN d) (fun _ t _ => (intOf t).natAbs)
    case atStart => exact ⟨x, y, 0, by rw [HX.out]; go_num, by rw [HY.out]; go_num, hx0, hx1, hy0, hy1, HGG, rfl⟩
    case round =>
      clear HX HY HGG hx0 hx1 hy0 hy1 x y
      obtain ⟨x, y, d, rfl, rfl, hx, hx', hy, hy', HG, rfl⟩ := hrel
      by_cases h : y = 0
      · subst h
        have hg := HG.out
        rw [gcdI_zero] at hg
        have HH := Lib.hid hg
        clear hg
        go_wp2_with fail
        go_ret
        refine ⟨ret_int ?_, d, rfl⟩
        rw [← HH.out]
        clear HG HH
        omega
      · have hm := tmod_lt_abs x y h
        have hs := (gcdI_step x y).trans HG.out
        have hm0 : 0 ≤ x.tmod y := Int.tmod_nonneg _ hx
        rw [Int.tmod_eq_emod_of_nonneg hx] at hm hs hm0
        have HS := Lib.hid hs
        clear hs
        have hp : 0 < y := by omega
        go_wp2_with fail
        go_region
        go_wp2_with fail
        go_roundw
        case rel => exact ⟨y, x % y, d + 1, rfl, rfl, hy, hy', hm0, by omega, HS, rfl⟩
        case measure => simp only [intOf]; exact hm
theorem gcd_spec (a b : Int) (w : World) (ha : -1000000 ≤ a) (ha' : a ≤ 1000000) (hb : -1000000 ≤ b) (hb' : b ≤ 1000000) :
    Calls Try.prog 87 #[.int .i64 a, .int .i64 b] w (QuietInt (gcdI a b) w) :=
  gcd_spec0 a b _ _ w (by omega) (by omega) (by omega) (by omega) rfl rfl ha ha' hb hb'
/-- impl.powersDivisor. -/
theorem powers_impl (t h f : Int) (w : World) (ht : -1000000 ≤ t) (ht' : t ≤ 1000000) (hh : -1000000 ≤ h) (hh' : h ≤ 1000000) (hf : -1000000 ≤ f) (hf' : f ≤ 1000000) :
    Calls Try.prog 94 #[.int .i64 t, .int .i64 h, .int .i64 f] w (QuietInt (gcdI (gcdI t h) f) w) := by
  have m1 := gcdI_nonneg t h
  have m2 := gcdI_le t h 1000000 ht ht' hh hh'
  obtain ⟨u, hu⟩ : ∃ u, u = gcdI t h := ⟨_, rfl⟩
  rw [← hu] at m1 m2
  have C1 := Lib.hid (gcd_impl t h w (by omega) (by omega) (by omega) (by omega))
  have C2 := Lib.hid (fun w => gcd_impl u f w (by omega) (by omega) (by omega) (by omega))
  rw [← hu] at C1 ⊢
  have HU := Lib.hid hu
  clear hu
  go_enter Try.func94, Try.ntmps94
  go_wp2_with fail
  refine C1.out.mono ?_
  rintro e1 w1 ⟨rfl, n1, rfl⟩
  go_wp2_with fail
  refine (C2.out _).mono ?_
  rintro e1 w1 ⟨rfl, n2, rfl⟩
  go_wp2_with fail
  go_ret
  exact ⟨rfl, n1 + n2, rfl⟩
end Go.Proofs.Ytjfeeppbbckneab
/- Contracts of impl.PureOf and spec.PureOf, and the walk of laws.FnExactPureOf. -/
namespace Go.Proofs.Ytjfeeppbbckneab
open Go.RowKit Go.Joins
set_option linter.unusedVariables false
set_option maxHeartbeats 400000 in
theorem pure_impl_yes (a b c : Int) (w : World) (hx : okI a b c 1 = true) :
    Calls Try.prog 28 #[.int .i64 a, .int .i64 b, .int .i64 c] w fun e w' => e = .returned (ivV a b c 1) ∧ Below w.heap.size w w' := by
  have HX := Lib.hid hx
  clear hx
  go_enter Try.func28, Try.ntmps28
  go_wp2_with fail
  refine (intervalOk_any _ _ _ _ _).mono ?_
  rintro e w1 ⟨rfl, hb⟩
  rw [HX.out]
  obtain ⟨hc, hf⟩ := bcellT hb
  have q0 : w1.cell? ⟨w.heap.size, 0, none⟩ = some (.int .i64 0) := by rw [hc _ _ (by simp; omega)]; simp [go_sem]
  have q1 : w1.cell? ⟨w.heap.size, 1, none⟩ = some (.int .i64 0) := by rw [hc _ _ (by simp; omega)]; simp [go_sem]
  have q2 : w1.cell? ⟨w.heap.size, 2, none⟩ = some (.int .i64 0) := by rw [hc _ _ (by simp; omega)]; simp [go_sem]
  have q3 : w1.cell? ⟨w.heap.size, 3, none⟩ = some (.int .i64 0) := by rw [hc _ _ (by simp; omega)]; simp [go_sem]
  have kb : Below w.heap.size w w1 := (below_alloc2 w _ _).trans (hb.mono (by simp; omega))
  clear hb
  go_wp2_with fail
  refine bodyPost_ret (v := ivV a b c 1) (by simp [results, Try.results28, go_sem, q0, q1, q2, q3]) rfl ⟨rfl, ?_⟩
  repeat' (first | exact kb | (refine Below.setCell ?_ (by simp) _))
set_option maxHeartbeats 400000 in
theorem pure_impl_no (a b c : Int) (w : World) (hx : okI a b c 1 = false) :
    Calls Try.prog 28 #[.int .i64 a, .int .i64 b, .int .i64 c] w fun e w' => e = .returned (ivV 0 0 0 0) ∧ Below w.heap.size w w' := by
  have HX := Lib.hid hx
  clear hx
  go_enter Try.func28, Try.ntmps28
  go_wp2_with fail
  refine (intervalOk_any _ _ _ _ _).mono ?_
  rintro e w1 ⟨rfl, hb⟩
  rw [HX.out]
  obtain ⟨hc, hf⟩ := bcellT hb
  have q0 : w1.cell? ⟨w.heap.size, 0, none⟩ = some (.int .i64 0) := by rw [hc _ _ (by simp; omega)]; simp [go_sem]
  have q1 : w1.cell? ⟨w.heap.size, 1, none⟩ = some (.int .i64 0) := by rw [hc _ _ (by simp; omega)]; simp [go_sem]
  have q2 : w1.cell? ⟨w.heap.size, 2, none⟩ = some (.int .i64 0) := by rw [hc _ _ (by simp; omega)]; simp [go_sem]
  have q3 : w1.cell? ⟨w.heap.size, 3, none⟩ = some (.int .i64 0) := by rw [hc _ _ (by simp; omega)]; simp [go_sem]
  have kb : Below w.heap.size w w1 := (below_alloc2 w _ _).trans (hb.mono (by simp; omega))
  clear hb
  go_wp2_with fail
  refine bodyPost_ret (v := ivV 0 0 0 0) (by simp [results, Try.results28, go_sem, q0, q1, q2, q3]) rfl ⟨rfl, ?_⟩
  repeat' (first | exact kb | (refine Below.setCell ?_ (by simp) _))
end Go.Proofs.Ytjfeeppbbckneab
