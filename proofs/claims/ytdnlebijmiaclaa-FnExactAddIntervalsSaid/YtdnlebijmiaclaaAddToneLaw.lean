/- The walk of laws.FnExactAddIntervals. -/
import Derived.Test.YtdnlebijmiaclaaAddTone
import Derived.Test.YtdnlebijmiaclaaSAddTone
import Derived.Test.YtdnlebijmiaclaaToneWalks
import Derived.Test.YtdnlebijmiaclaaNumBase
import Derived.Deep.DeepCutAuto
namespace Go.Proofs.Ytdnlebijmiaclaa
open Go.RowKit Go.Joins
set_option linter.unusedVariables false
/-- impl and spec answer the same interval and the same bool, in whatever world. -/
def SameAdd (a b c d e f g h : Int) (p q r s : Int) (y : Bool) : Prop :=
  (∀ w, Calls Try.prog 28 #[ivV a b c d, ivV e f g h] w fun e w' => e = .returned (.tuple #[ivV p q r s, .bool y]) ∧ Below w.heap.size w w') ∧
  (∀ w, Calls Try.prog 20 #[ivV a b c d, ivV e f g h] w fun e w' => e = .returned (.tuple #[ivV p q r s, .bool y]) ∧ Below w.heap.size w w')
theorem same_add (a b c d e f g h : Int) : ∃ p q r s : Int, ∃ y : Bool, SameAdd a b c d e f g h p q r s y := by
  obtain ⟨x, hx⟩ : ∃ x : Bool, okI a b c d = x := ⟨_, rfl⟩
  obtain ⟨y, hy⟩ : ∃ x : Bool, okI e f g h = x := ⟨_, rfl⟩
  cases x
  · exact ⟨0, 0, 0, 0, false, fun w => add_spec_bad1 _ _ _ _ _ _ _ _ w hx, fun w => add_impl_bad1 _ _ _ _ _ _ _ _ w hx⟩
  · cases y
    · exact ⟨0, 0, 0, 0, false, fun w => add_spec_bad2 _ _ _ _ _ _ _ _ w hx hy, fun w => add_impl_bad2 _ _ _ _ _ _ _ _ w hx hy⟩
    · obtain ⟨m, hm⟩ : ∃ m, m = gcd4 (a * h + e * d) (b * h + f * d) (c * h + g * d) (d * h) := ⟨_, rfl⟩
      obtain ⟨z, hz⟩ : ∃ x : Bool, okI ((a * h + e * d).tdiv m) ((b * h + f * d).tdiv m) ((c * h + g * d).tdiv m) ((d * h).tdiv m) = x := ⟨_, rfl⟩
      cases z
      · exact ⟨0, 0, 0, 0, false, fun w => add_spec_no _ _ _ _ _ _ _ _ _ _ _ _ _ _ _ _ w hx hy rfl rfl rfl rfl rfl rfl rfl hm hz, fun w => add_impl_no _ _ _ _ _ _ _ _ _ _ _ _ _ _ _ _ w hx hy rfl rfl rfl rfl rfl rfl rfl hm hz⟩
      · exact ⟨_, _, _, _, true, fun w => add_spec_yes _ _ _ _ _ _ _ _ _ _ _ _ _ _ _ _ w hx hy rfl rfl rfl rfl rfl rfl rfl hm hz, fun w => add_impl_yes _ _ _ _ _ _ _ _ _ _ _ _ _ _ _ _ w hx hy rfl rfl rfl rfl rfl rfl rfl hm hz⟩
theorem calls_from {P : Program} {k : FuncId} {args : Array Value} {W w : World} {v : Value} (h : Below W.heap.size W w) (hk : Calls P k args w fun e w' => e = .returned v ∧ Below w.heap.size w w') :
    Calls P k args w fun e w' => e = .returned v ∧ Below W.heap.size W w' :=
  hk.mono fun _ _ ⟨he, hb⟩ => ⟨he, h.trans (hb.mono h.size)⟩
/-- Two intervals in two blocks, one behind the other. -/
abbrev Two (n : Nat) (a b c d e f g h : Int) (w : World) : Prop := w.cell? ⟨n, 0, none⟩ = some (.int .i64 a) ∧ w.cell? ⟨n, 1, none⟩ = some (.int .i64 b) ∧ w.cell? ⟨n, 2, none⟩ = some (.int .i64 c) ∧ w.cell? ⟨n, 3, none⟩ = some (.int .i64 d) ∧ w.cell? ⟨n + 1, 0, none⟩ = some (.int .i64 e) ∧ w.cell? ⟨n + 1, 1, none⟩ = some (.int .i64 f) ∧ w.cell? ⟨n + 1, 2, none⟩ = some (.int .i64 g) ∧ w.cell? ⟨n + 1, 3, none⟩ = some (.int .i64 h)
theorem two_keep {W w : World} {n : Nat} {a b c d e f g h : Int} (hn : n + 1 < W.heap.size) (hb : Below W.heap.size W w) (h8 : Two n a b c d e f g h W) : Two n a b c d e f g h w := by
  obtain ⟨h0, h1, h2, h3, h4, h5, h6, h7⟩ := h8
  exact ⟨(hb.cell (by show n < _; omega)).trans h0, (hb.cell (by show n < _; omega)).trans h1, (hb.cell (by show n < _; omega)).trans h2, (hb.cell (by show n < _; omega)).trans h3, (hb.cell (by show n + 1 < _; omega)).trans h4, (hb.cell (by show n + 1 < _; omega)).trans h5, (hb.cell (by show n + 1 < _; omega)).trans h6, (hb.cell (by show n + 1 < _; omega)).trans h7⟩
theorem two_drew {w : World} {n : Nat} {a b c d e f g h : Int} (h8 : Two n a b c d e f g h w) : Two n a b c d e f g h w.drew := h8
theorem two_alloc {w : World} {n : Nat} {a b c d e f g h : Int} {o : Obj} (hn : n + 1 < w.heap.size) (h8 : Two n a b c d e f g h w) : Two n a b c d e f g h (w.alloc o) :=
  two_keep hn ((Below.refl _ _).alloc (Nat.le_refl _) o) h8
/-- A fresh interval of zeros lies at block m, behind n + 1. -/
abbrev Zb (n B m : Nat) (w : World) : Prop := n + 1 < m ∧ B ≤ m ∧ m < w.heap.size ∧ w.cell? ⟨m, 0, none⟩ = some (.int .i64 0) ∧ w.cell? ⟨m, 1, none⟩ = some (.int .i64 0) ∧ w.cell? ⟨m, 2, none⟩ = some (.int .i64 0) ∧ w.cell? ⟨m, 3, none⟩ = some (.int .i64 0) ∧ ∀ o, w.frozen? ⟨m, o, none⟩ = false
theorem below_set4 {w : World} {B m : Nat} {v0 v1 v2 v3 : Value} (hm : B ≤ m) : Below B w ((((w.setCell ⟨m, 0, none⟩ v0).setCell ⟨m, 1, none⟩ v1).setCell ⟨m, 2, none⟩ v2).setCell ⟨m, 3, none⟩ v3) :=
  ((((Below.refl _ _).setCell hm _).setCell hm _).setCell hm _).setCell hm _
theorem two_set4 {w : World} {n B m : Nat} {a b c d e f g h : Int} {v0 v1 v2 v3 : Value} (hm : Zb n B m w) (h8 : Two n a b c d e f g h w) :
    Two n a b c d e f g h ((((w.setCell ⟨m, 0, none⟩ v0).setCell ⟨m, 1, none⟩ v1).setCell ⟨m, 2, none⟩ v2).setCell ⟨m, 3, none⟩ v3) := by
  have hb := below_set4 (w := w) (B := n + 2) (m := m) (v0 := v0) (v1 := v1) (v2 := v2) (v3 := v3) hm.1
  obtain ⟨h0, h1, h2, h3, h4, h5, h6, h7⟩ := h8
  exact ⟨(hb.cell (by show n < _; omega)).trans h0, (hb.cell (by show n < _; omega)).trans h1, (hb.cell (by show n < _; omega)).trans h2, (hb.cell (by show n < _; omega)).trans h3, (hb.cell (by show n + 1 < _; omega)).trans h4, (hb.cell (by show n + 1 < _; omega)).trans h5, (hb.cell (by show n + 1 < _; omega)).trans h6, (hb.cell (by show n + 1 < _; omega)).trans h7⟩
theorem two_lt {W w : World} {n : Nat} (hn : n + 1 < W.heap.size) (hb : Below W.heap.size W w) : n + 1 < w.heap.size := Nat.lt_of_lt_of_le hn hb.size
theorem below_al {W X : World} {o : Obj} (h : Below W.heap.size W X) : Below W.heap.size W (X.alloc o) := h.alloc h.size o
theorem zb_alloc {W X : World} {n : Nat} {t : TypeId} (hn : n + 1 < W.heap.size) (h : Below W.heap.size W X) : Zb n W.heap.size X.heap.size (X.alloc (.cells #[.int .i64 0, .int .i64 0, .int .i64 0, .int .i64 0] t)) :=
  ⟨Nat.lt_of_lt_of_le hn h.size, h.size, by simp, by simp [go_sem], by simp [go_sem], by simp [go_sem], by simp [go_sem], fun o => by simp [go_sem]⟩
theorem zb_drew {X : World} {n B m : Nat} (h : Zb n B m X) : Zb n B m X.drew := h
theorem calls_zb {P : Program} {k : FuncId} {args : Array Value} {W w : World} {v : Value} {n B m : Nat} (h : Below W.heap.size W w) (hz : Zb n B m w) (hk : Calls P k args w fun e w' => e = .returned v ∧ Below w.heap.size w w') :
    Calls P k args w fun e w' => e = .returned v ∧ Below W.heap.size W w' ∧ Zb n B m w' :=
  hk.mono fun _ _ ⟨he, hb⟩ => ⟨he, h.trans (hb.mono h.size), hz.1, hz.2.1, Nat.lt_of_lt_of_le hz.2.2.1 hb.size, (hb.cell hz.2.2.1).trans hz.2.2.2.1, (hb.cell hz.2.2.1).trans hz.2.2.2.2.1, (hb.cell hz.2.2.1).trans hz.2.2.2.2.2.1, (hb.cell hz.2.2.1).trans hz.2.2.2.2.2.2.1, fun o => (hb.frozen (p := ⟨m, o, none⟩) hz.2.2.1).trans (hz.2.2.2.2.2.2.2 o)⟩
theorem two_start (a b c d e f g h : Int) (w : World) : Two w.heap.size a b c d e f g h ((w.alloc (.cells #[.int .i64 a, .int .i64 b, .int .i64 c, .int .i64 d] 34)).alloc (.cells #[.int .i64 e, .int .i64 f, .int .i64 g, .int .i64 h] 34)) := by
  unfold Two
  refine ⟨?_, ?_, ?_, ?_, ?_, ?_, ?_, ?_⟩ <;> simp [go_sem]
theorem four_set4 {w : World} {n B m : Nat} {p q r s : Int} (hz : Zb n B m w) :
    Four m p q r s ((((w.setCell ⟨m, 0, none⟩ (.int .i64 p)).setCell ⟨m, 1, none⟩ (.int .i64 q)).setCell ⟨m, 2, none⟩ (.int .i64 r)).setCell ⟨m, 3, none⟩ (.int .i64 s)) := by
  obtain ⟨_, _, hm, z0, z1, z2, z3, _⟩ := hz
  exact ⟨by simpa using hm, by simp [go_sem, z0], by simp [go_sem, z1], by simp [go_sem, z2], by simp [go_sem, z3]⟩
set_option maxHeartbeats 4000000 in
theorem walk_FnExactAddIntervals (a b c d e f g h : Int) (w : World) :
    Calls Try.prog 6 #[ivV a b c d, ivV e f g h] w fun e w' => e = .returned (.bool true) ∧ Below w.heap.size w w' := by
  obtain ⟨p, q, r, s, y, hst⟩ := same_add a b c d e f g h
  go_enter Try.func6, Try.ntmps6
  go_upto_region 1 with fail
  obtain ⟨W0, hW0⟩ : ∃ W0, W0 = ((w.alloc (.cells #[.int .i64 a, .int .i64 b, .int .i64 c, .int .i64 d] 34)).alloc (.cells #[.int .i64 e, .int .i64 f, .int .i64 g, .int .i64 h] 34)) := ⟨_, rfl⟩
  have TB : Hid (Two w.heap.size a b c d e f g h W0) := Lib.hid (by rw [hW0]; exact two_start a b c d e f g h w)
  have HN : Hid (w.heap.size + 1 < W0.heap.size) := Lib.hid (by rw [hW0]; simp)
  have B0 : Hid (Below w.heap.size w W0) := Lib.hid (by rw [hW0]; exact below_alloc2 _ _ _)
  rw [← hW0]
  clear hW0
  obtain ⟨n, hn⟩ : ∃ n, n = w.heap.size := ⟨_, rfl⟩
  rw [← hn] at TB HN ⊢
  clear hn
  go_cut [5, 6] (fun s5 s6 wx => ∃ m : Nat, s5 = .pointer (some ⟨m, 0, none⟩) ∧ s6 = .bool y ∧ Below W0.heap.size W0 wx ∧ Four m p q r s wx)
  case first =>
    go_region_held3 (fun w' => w'.cell? ⟨n, 0, none⟩ = some (.int .i64 a) ∧ w'.cell? ⟨n, 1, none⟩ = some (.int .i64 b) ∧ w'.cell? ⟨n, 2, none⟩ = some (.int .i64 c) ∧ w'.cell? ⟨n, 3, none⟩ = some (.int .i64 d) ∧ w'.cell? ⟨n + 1, 0, none⟩ = some (.int .i64 e) ∧ w'.cell? ⟨n + 1, 1, none⟩ = some (.int .i64 f) ∧ w'.cell? ⟨n + 1, 2, none⟩ = some (.int .i64 g) ∧ w'.cell? ⟨n + 1, 3, none⟩ = some (.int .i64 h)) (with_reducible first | exact two_drew TB.out | exact two_keep HN.out (by assumption) TB.out | exact two_alloc HN.out (two_drew TB.out) | exact two_drew (two_alloc HN.out TB.out) | exact two_alloc (two_lt HN.out (by assumption)) (two_keep HN.out (by assumption) TB.out) | exact two_set4 (by assumption) (two_keep HN.out (by assumption) TB.out))
      (first
        | (go_at_call 26; refine (calls_zb (W := W0) (n := n) (by with_reducible first | assumption | exact below_al (by assumption) | exact (Below.refl _ _).drew | exact (below_al (Below.refl _ _)).drew) (by with_reducible first | assumption | exact zb_alloc HN.out (by assumption) | exact zb_drew (zb_alloc HN.out (Below.refl _ _))) (toInterval_any _ _ _ _ _)).mono ?_; rintro e1 w1 ⟨rfl, hb, hzb⟩; obtain ⟨zl, zb, zm, z0, z1, z2, z3, zf⟩ := id hzb)
        | (go_at_call 26; refine (calls_from (W := W0) (by with_reducible first | assumption | exact (Below.refl _ _).drew) (toInterval_any _ _ _ _ _)).mono ?_; rintro e1 w1 ⟨rfl, hb⟩)
        | (go_at_call 28; refine (calls_zb (W := W0) (n := n) (by with_reducible first | assumption | exact below_al (by assumption) | exact (Below.refl _ _).drew | exact (below_al (Below.refl _ _)).drew) (by with_reducible first | assumption | exact zb_alloc HN.out (by assumption) | exact zb_drew (zb_alloc HN.out (Below.refl _ _))) (hst.1 _)).mono ?_; rintro e1 w1 ⟨rfl, hb, hzb⟩; obtain ⟨zl, zb, zm, z0, z1, z2, z3, zf⟩ := id hzb)
        | (go_at_call 28; refine (calls_from (W := W0) (by with_reducible first | assumption | exact (Below.refl _ _).drew) (hst.1 _)).mono ?_; rintro e1 w1 ⟨rfl, hb⟩))
    all_goals
      go_wp2_with fail
      go_meet
      first
        | exact ⟨_, rfl, rfl, below_al hb, four_alloc⟩
        | exact ⟨_, rfl, rfl, hb.trans (below_set4 hzb.2.1), four_set4 hzb⟩
  case rest =>
    obtain ⟨m1, rfl, rfl, hb1, h41⟩ := hcut
    obtain ⟨W1, hW1⟩ : ∃ W1, W1 = wc := ⟨_, rfl⟩
    rw [← hW1] at hb1 h41 ⊢
    clear hW1
    have hn1 := two_lt HN.out hb1
    have htb1 := two_keep HN.out hb1 TB.out
    have B1 : Hid (Below w.heap.size w W1) := Lib.hid (B0.out.trans (hb1.mono B0.out.size))
    have H41 := Lib.hid h41
    clear TB HN B0 hb1 h41
    have TB := Lib.hid htb1
    have HN := Lib.hid hn1
    clear htb1 hn1
    go_upto_region 2 with fail
    go_cut [7, 8] (fun s7 s8 wx => ∃ m : Nat, s7 = .pointer (some ⟨m, 0, none⟩) ∧ s8 = .bool y ∧ Below W1.heap.size W1 wx ∧ Four m p q r s wx)
    case first =>
      go_region_held3 (fun w' => w'.cell? ⟨n, 0, none⟩ = some (.int .i64 a) ∧ w'.cell? ⟨n, 1, none⟩ = some (.int .i64 b) ∧ w'.cell? ⟨n, 2, none⟩ = some (.int .i64 c) ∧ w'.cell? ⟨n, 3, none⟩ = some (.int .i64 d) ∧ w'.cell? ⟨n + 1, 0, none⟩ = some (.int .i64 e) ∧ w'.cell? ⟨n + 1, 1, none⟩ = some (.int .i64 f) ∧ w'.cell? ⟨n + 1, 2, none⟩ = some (.int .i64 g) ∧ w'.cell? ⟨n + 1, 3, none⟩ = some (.int .i64 h)) (with_reducible first | exact two_drew TB.out | exact two_keep HN.out (by assumption) TB.out | exact two_alloc HN.out (two_drew TB.out) | exact two_drew (two_alloc HN.out TB.out) | exact two_alloc (two_lt HN.out (by assumption)) (two_keep HN.out (by assumption) TB.out) | exact two_set4 (by assumption) (two_keep HN.out (by assumption) TB.out))
        (first
          | (go_at_call 26; refine (calls_zb (W := W1) (n := n) (by with_reducible first | assumption | exact below_al (by assumption) | exact (Below.refl _ _).drew | exact (below_al (Below.refl _ _)).drew) (by with_reducible first | assumption | exact zb_alloc HN.out (by assumption) | exact zb_drew (zb_alloc HN.out (Below.refl _ _))) (toInterval_any _ _ _ _ _)).mono ?_; rintro e1 w1 ⟨rfl, hb, hzb⟩; obtain ⟨zl, zb, zm, z0, z1, z2, z3, zf⟩ := id hzb)
          | (go_at_call 26; refine (calls_from (W := W1) (by with_reducible first | assumption | exact (Below.refl _ _).drew) (toInterval_any _ _ _ _ _)).mono ?_; rintro e1 w1 ⟨rfl, hb⟩)
          | (go_at_call 20; refine (calls_zb (W := W1) (n := n) (by with_reducible first | assumption | exact below_al (by assumption) | exact (Below.refl _ _).drew | exact (below_al (Below.refl _ _)).drew) (by with_reducible first | assumption | exact zb_alloc HN.out (by assumption) | exact zb_drew (zb_alloc HN.out (Below.refl _ _))) (hst.2 _)).mono ?_; rintro e1 w1 ⟨rfl, hb, hzb⟩; obtain ⟨zl, zb, zm, z0, z1, z2, z3, zf⟩ := id hzb)
          | (go_at_call 20; refine (calls_from (W := W1) (by with_reducible first | assumption | exact (Below.refl _ _).drew) (hst.2 _)).mono ?_; rintro e1 w1 ⟨rfl, hb⟩))
      all_goals
        go_wp2_with fail
        go_meet
        first
          | exact ⟨_, rfl, rfl, below_al hb, four_alloc⟩
          | exact ⟨_, rfl, rfl, hb.trans (below_set4 hzb.2.1), four_set4 hzb⟩
    case rest =>
      obtain ⟨m2, rfl, rfl, hb2, h42⟩ := hcut
      have h43 := four_keep hb2 H41.out
      have B2 : Hid (Below w.heap.size w wc) := Lib.hid (B1.out.trans (hb2.mono B1.out.size))
      clear hb2 TB HN B1 H41
      obtain ⟨_, q0, q1, q2, q3⟩ := h42
      obtain ⟨_, r0, r1, r2, r3⟩ := h43
      have ty : (y != y) = false := by cases y <;> rfl
      go_wp2_with fail
      refine (eqInterval_same _ _ _ _ _).mono ?_
      rintro e w5 ⟨rfl, h5⟩
      go_wp2_with fail
      go_ret
      exact ⟨rfl, B2.out.trans (h5.mono B2.out.size)⟩
end Go.Proofs.Ytdnlebijmiaclaa
