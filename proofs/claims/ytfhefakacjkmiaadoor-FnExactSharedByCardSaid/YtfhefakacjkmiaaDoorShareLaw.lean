/- The walk of laws.FnExactSharedBy. -/
import Derived.Test.YtfhefakacjkmiaaDoorSShare
namespace Go.Proofs.YtfhefakacjkmiaaDoor
open Go.RowKit Go.Joins
set_option linter.unusedVariables false
theorem tt_lt {W w : World} {n : Nat} (hn : n + 1 < W.heap.size) (hb : Below W.heap.size W w) : n + 1 < w.heap.size := Nat.lt_of_lt_of_le hn hb.size
theorem below_alM {W X : World} {o : Obj} (h : Below W.heap.size W X) : Below W.heap.size W (X.alloc o) := h.alloc h.size o
/-- A fresh interval of zeros lies at block m, behind n + 1. -/
abbrev Zs (n B m : Nat) (w : World) : Prop := n + 1 < m ∧ B ≤ m ∧ m < w.heap.size ∧ w.cell? ⟨m, 0, none⟩ = some (.int .i64 0) ∧ w.cell? ⟨m, 1, none⟩ = some (.int .i64 0) ∧ w.cell? ⟨m, 2, none⟩ = some (.int .i64 0) ∧ w.cell? ⟨m, 3, none⟩ = some (.int .i64 0) ∧ ∀ o, w.frozen? ⟨m, o, none⟩ = false
theorem tt_set4 {w : World} {n B m : Nat} {a b c e f g : Int} {v0 v1 v2 v3 : Value} (hm : Zs n B m w) (H : TT n a b c e f g w) :
    TT n a b c e f g ((((w.setCell ⟨m, 0, none⟩ v0).setCell ⟨m, 1, none⟩ v1).setCell ⟨m, 2, none⟩ v2).setCell ⟨m, 3, none⟩ v3) := by
  have hb := belowS_set (w := w) (B := n + 2) (m := m) (v0 := v0) (v1 := v1) (v2 := v2) (v3 := v3) hm.1
  obtain ⟨h0, h1, h2, h3, h4, h5⟩ := H
  exact ⟨(hb.cell (by show n < _; omega)).trans h0, (hb.cell (by show n < _; omega)).trans h1, (hb.cell (by show n < _; omega)).trans h2, (hb.cell (by show n + 1 < _; omega)).trans h3, (hb.cell (by show n + 1 < _; omega)).trans h4, (hb.cell (by show n + 1 < _; omega)).trans h5⟩
theorem zs_alloc {W X : World} {n : Nat} {t : TypeId} (hn : n + 1 < W.heap.size) (h : Below W.heap.size W X) : Zs n W.heap.size X.heap.size (X.alloc (.cells #[.int .i64 0, .int .i64 0, .int .i64 0, .int .i64 0] t)) :=
  ⟨Nat.lt_of_lt_of_le hn h.size, h.size, by simp, by simp [go_sem], by simp [go_sem], by simp [go_sem], by simp [go_sem], fun o => by simp [go_sem]⟩
theorem zs_drew {X : World} {n B m : Nat} (h : Zs n B m X) : Zs n B m X.drew := h
theorem calls_zs {P : Program} {k : FuncId} {args : Array Value} {W w : World} {v : Value} {n B m : Nat} (h : Below W.heap.size W w) (hz : Zs n B m w) (hk : Calls P k args w fun e w' => e = .returned v ∧ Below w.heap.size w w') :
    Calls P k args w fun e w' => e = .returned v ∧ Below W.heap.size W w' ∧ Zs n B m w' :=
  hk.mono fun _ _ ⟨he, hb⟩ => ⟨he, h.trans (hb.mono h.size), hz.1, hz.2.1, Nat.lt_of_lt_of_le hz.2.2.1 hb.size, (hb.cell hz.2.2.1).trans hz.2.2.2.1, (hb.cell hz.2.2.1).trans hz.2.2.2.2.1, (hb.cell hz.2.2.1).trans hz.2.2.2.2.2.1, (hb.cell hz.2.2.1).trans hz.2.2.2.2.2.2.1, fun o => (hb.frozen (p := ⟨m, o, none⟩) hz.2.2.1).trans (hz.2.2.2.2.2.2.2 o)⟩
theorem four_setS {w : World} {n B m : Nat} {p q r s : Int} (hz : Zs n B m w) :
    Four m p q r s ((((w.setCell ⟨m, 0, none⟩ (.int .i64 p)).setCell ⟨m, 1, none⟩ (.int .i64 q)).setCell ⟨m, 2, none⟩ (.int .i64 r)).setCell ⟨m, 3, none⟩ (.int .i64 s)) :=
  four_set ⟨hz.2.2.1, hz.2.2.2.1, hz.2.2.2.2.1, hz.2.2.2.2.2.1, hz.2.2.2.2.2.2.1⟩
set_option maxRecDepth 100000 in
set_option maxHeartbeats 4000000 in
theorem walk_FnExactSharedBy (A : Addr) (a b c e f g : Int) (w : World) (hs : SenAt A w) :
    Calls Tryd.prog 6 #[mapV a b c, mapV e f g] w fun e w' => e = .returned (.bool true) ∧ Below w.heap.size w w' := by
  obtain ⟨p, q, r, s, y, hst⟩ := shareAt_ex a b c e f g
  have SS := Lib.hid (fun w => share_spec hst w)
  have SI0 := Lib.hid (fun w hs => share_impl A hst w hs)
  have HS := Lib.hid hs
  clear hst hs
  go_enter Tryd.func6, Tryd.ntmps6
  go_upto_region 1 with fail
  obtain ⟨W0, hW0⟩ : ∃ W0, W0 = ((w.alloc (.cells #[.int .i64 a, .int .i64 b, .int .i64 c] 46)).alloc (.cells #[.int .i64 e, .int .i64 f, .int .i64 g] 46)) := ⟨_, rfl⟩
  have TB : Hid (TT w.heap.size a b c e f g W0) := Lib.hid (by rw [hW0]; exact tt_start _ _ _ _ _ _ _ _)
  have HN : Hid (w.heap.size + 1 < W0.heap.size) := Lib.hid (by rw [hW0]; simp)
  have B0 : Hid (Below w.heap.size w W0) := Lib.hid (by rw [hW0]; exact below_alloc2 _ _ _)
  rw [← hW0]
  clear hW0
  generalize hn : w.heap.size = n at TB HN ⊢
  go_cut [5, 6] (fun s5 s6 wx => ∃ m : Nat, s5 = .pointer (some ⟨m, 0, none⟩) ∧ s6 = .bool y ∧ Below W0.heap.size W0 wx ∧ Four m p q r s wx)
  case first =>
    go_region_held3 (fun w' => w'.cell? ⟨n, 0, none⟩ = some (.int .i64 a) ∧ w'.cell? ⟨n, 1, none⟩ = some (.int .i64 b) ∧ w'.cell? ⟨n, 2, none⟩ = some (.int .i64 c) ∧ w'.cell? ⟨n + 1, 0, none⟩ = some (.int .i64 e) ∧ w'.cell? ⟨n + 1, 1, none⟩ = some (.int .i64 f) ∧ w'.cell? ⟨n + 1, 2, none⟩ = some (.int .i64 g)) (with_reducible first | exact tt_drew TB.out | exact tt_keep HN.out (by assumption) TB.out | exact tt_alloc HN.out (tt_drew TB.out) | exact tt_drew (tt_alloc HN.out TB.out) | exact tt_alloc (tt_lt HN.out (by assumption)) (tt_keep HN.out (by assumption) TB.out) | exact tt_set4 (by assumption) (tt_keep HN.out (by assumption) TB.out))
      (first
        | (go_at_call 23; refine (calls_zs (W := W0) (n := n) (by with_reducible first | assumption | exact below_alM (by assumption) | exact (Below.refl _ _).drew | exact (below_alM (Below.refl _ _)).drew) (by with_reducible first | assumption | exact zs_alloc HN.out (by assumption) | exact zs_drew (zs_alloc HN.out (Below.refl _ _))) (toMap_any _ _ _ _)).mono ?_; rintro e1 w1 ⟨rfl, hb, hzb⟩; obtain ⟨zl, zb, zm, z0, z1, z2, z3, zf⟩ := id hzb)
        | (go_at_call 23; refine (calls_fromF (W := W0) (by with_reducible first | assumption | exact (Below.refl _ _).drew) (toMap_any _ _ _ _)).mono ?_; rintro e1 w1 ⟨rfl, hb⟩)
        | (go_at_call 10; refine (calls_zs (W := W0) (n := n) (by with_reducible first | assumption | exact below_alM (by assumption) | exact (Below.refl _ _).drew | exact (below_alM (Below.refl _ _)).drew) (by with_reducible first | assumption | exact zs_alloc HN.out (by assumption) | exact zs_drew (zs_alloc HN.out (Below.refl _ _))) (SS.out _)).mono ?_; rintro e1 w1 ⟨rfl, hb, hzb⟩; obtain ⟨zl, zb, zm, z0, z1, z2, z3, zf⟩ := id hzb)
        | (go_at_call 10; refine (calls_fromF (W := W0) (by with_reducible first | assumption | exact (Below.refl _ _).drew) (SS.out _)).mono ?_; rintro e1 w1 ⟨rfl, hb⟩))
    all_goals
      go_wp2_with fail
      go_meet
      first
        | exact ⟨_, rfl, rfl, below_alM hb, four_alloc⟩
        | exact ⟨_, rfl, rfl, hb.trans (belowS_set hzb.2.1), four_setS hzb⟩
  case rest =>
    obtain ⟨m1, rfl, rfl, hb1, h41⟩ := hcut
    obtain ⟨W1, hW1⟩ : ∃ W1, W1 = wc := ⟨_, rfl⟩
    rw [← hW1] at hb1 h41 ⊢
    clear hW1
    have hn1 := tt_lt HN.out hb1
    have htb1 := tt_keep HN.out hb1 TB.out
    have B1 : Hid (Below w.heap.size w W1) := Lib.hid (B0.out.trans (hb1.mono B0.out.size))
    have H41 := Lib.hid h41
    clear TB HN B0 hb1 h41
    have TB := Lib.hid htb1
    have HN := Lib.hid hn1
    clear htb1 hn1
    have SI : Hid (∀ w', Below W1.heap.size W1 w' → Calls Tryd.prog 9 #[mapV a b c, mapV e f g] w' fun e w'' => e = .returned (.tuple #[ivV p q r s, .bool y]) ∧ Below w'.heap.size w' w'') := Lib.hid (fun w' h => SI0.out w' (senAt_below HS.out (B1.out.trans (h.mono B1.out.size))))
    go_upto_region 2 with fail
    go_cut [7, 8] (fun s7 s8 wx => ∃ m : Nat, s7 = .pointer (some ⟨m, 0, none⟩) ∧ s8 = .bool y ∧ Below W1.heap.size W1 wx ∧ Four m p q r s wx)
    case first =>
      go_region_held3 (fun w' => w'.cell? ⟨n, 0, none⟩ = some (.int .i64 a) ∧ w'.cell? ⟨n, 1, none⟩ = some (.int .i64 b) ∧ w'.cell? ⟨n, 2, none⟩ = some (.int .i64 c) ∧ w'.cell? ⟨n + 1, 0, none⟩ = some (.int .i64 e) ∧ w'.cell? ⟨n + 1, 1, none⟩ = some (.int .i64 f) ∧ w'.cell? ⟨n + 1, 2, none⟩ = some (.int .i64 g)) (with_reducible first | exact tt_drew TB.out | exact tt_keep HN.out (by assumption) TB.out | exact tt_alloc HN.out (tt_drew TB.out) | exact tt_drew (tt_alloc HN.out TB.out) | exact tt_alloc (tt_lt HN.out (by assumption)) (tt_keep HN.out (by assumption) TB.out) | exact tt_set4 (by assumption) (tt_keep HN.out (by assumption) TB.out))
        (first
          | (go_at_call 23; refine (calls_zs (W := W1) (n := n) (by with_reducible first | assumption | exact below_alM (by assumption) | exact (Below.refl _ _).drew | exact (below_alM (Below.refl _ _)).drew) (by with_reducible first | assumption | exact zs_alloc HN.out (by assumption) | exact zs_drew (zs_alloc HN.out (Below.refl _ _))) (toMap_any _ _ _ _)).mono ?_; rintro e1 w1 ⟨rfl, hb, hzb⟩; obtain ⟨zl, zb, zm, z0, z1, z2, z3, zf⟩ := id hzb)
          | (go_at_call 23; refine (calls_fromF (W := W1) (by with_reducible first | assumption | exact (Below.refl _ _).drew) (toMap_any _ _ _ _)).mono ?_; rintro e1 w1 ⟨rfl, hb⟩)
          | (go_at_call 9; refine (calls_zs (W := W1) (n := n) (by with_reducible first | assumption | exact below_alM (by assumption) | exact (Below.refl _ _).drew | exact (below_alM (Below.refl _ _)).drew) (by with_reducible first | assumption | exact zs_alloc HN.out (by assumption) | exact zs_drew (zs_alloc HN.out (Below.refl _ _))) (SI.out _ (by with_reducible first | assumption | exact belowS_al (by assumption) | exact (Below.refl _ _).drew | exact (belowS_al (Below.refl _ _)).drew))).mono ?_; rintro e1 w1 ⟨rfl, hb, hzb⟩; obtain ⟨zl, zb, zm, z0, z1, z2, z3, zf⟩ := id hzb)
          | (go_at_call 9; refine (calls_fromF (W := W1) (by with_reducible first | assumption | exact (Below.refl _ _).drew) (SI.out _ (by with_reducible first | assumption | exact (Below.refl _ _).drew))).mono ?_; rintro e1 w1 ⟨rfl, hb⟩))
      all_goals
        go_wp2_with fail
        go_meet
        first
          | exact ⟨_, rfl, rfl, below_alM hb, four_alloc⟩
          | exact ⟨_, rfl, rfl, hb.trans (belowS_set hzb.2.1), four_setS hzb⟩
    case rest =>
      obtain ⟨m2, rfl, rfl, hb2, h42⟩ := hcut
      have h43 := four_keep hb2 H41.out
      have B2 : Hid (Below w.heap.size w wc) := Lib.hid (B1.out.trans (hb2.mono B1.out.size))
      clear hb2 TB HN B1 H41
      obtain ⟨_, q0, q1, q2, q3⟩ := h42
      obtain ⟨_, r0, r1, r2, r3⟩ := h43
      have ty : (y != y) = false := by cases y <;> rfl
      go_wp2_with fail
      refine (eqInterval_same _ _ _ _ _).mono ?_
      rintro e w5 ⟨rfl, h5⟩
      go_wp2_with fail
      go_ret
      exact ⟨rfl, hn ▸ B2.out.trans (h5.mono B2.out.size)⟩
end Go.Proofs.YtfhefakacjkmiaaDoor
