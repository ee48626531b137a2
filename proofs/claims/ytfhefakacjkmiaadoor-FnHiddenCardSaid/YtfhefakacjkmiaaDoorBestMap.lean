/- A block of three zeros that may be written; what BestMap answers. -/
import Derived.Test.YtfhefakacjkmiaaDoorMapWalks
import Derived.Test.YtfhefakacjkmiaaDoorOctImpl
namespace Go.Proofs.YtfhefakacjkmiaaDoor
open Go.RowKit Go.Joins
set_option linter.unusedVariables false
def Zed3 (m : Nat) (w : World) : Prop := Tri m 0 0 0 w ∧ ∀ o, w.frozen? ⟨m, o, none⟩ = false
theorem zed3_keep {W w : World} {m : Nat} (hb : Below W.heap.size W w) (h : Zed3 m W) : Zed3 m w :=
  ⟨tri_keep hb h.1, fun o => (hb.frozen (p := ⟨m, o, none⟩) h.1.1).trans (h.2 o)⟩
theorem zed3_alloc {w : World} {t : TypeId} : Zed3 w.heap.size (w.alloc (.cells #[.int .i64 0, .int .i64 0, .int .i64 0] t)) := ⟨tri_alloc, fun o => by simp [go_sem]⟩
theorem zed3_store {w w2 : World} {z : Nat} {p q r : Int} (hz : w.heap.size ≤ z) (hb : Below w.heap.size w w2) (h3 : Tri z 0 0 0 w2) :
    ∃ X, X = (((w2.setCell ⟨z, 0, none⟩ (.int .i64 p)).setCell ⟨z, 1, none⟩ (.int .i64 q)).setCell ⟨z, 2, none⟩ (.int .i64 r)) ∧ Tri z p q r X ∧ Below w.heap.size w X :=
  ⟨_, rfl, tri_set h3, below_set3 hz hb⟩
def BestAt (n a b c : Int) : Prop := (decide (1 ≤ n ∧ n ≤ 60) = true ∧ a = n ∧ (OctAt (2 * n * 0 + 1) (2 * n * 1) (2 * n * 0) 2 b ∧ NearAt (2 * n) 0 b) ∧ OctAt (2 * n * 0 + 1) (2 * n * 0) (2 * n * 1) 2 c ∧ NearAt 0 (2 * n) c) ∨ (decide (1 ≤ n ∧ n ≤ 60) = false ∧ a = 0 ∧ b = 0 ∧ c = 0)
theorem bestAt_ex (n : Int) : ∃ a b c, BestAt n a b c := by
  obtain ⟨x, hx⟩ : ∃ x : Bool, decide (1 ≤ n ∧ n ≤ 60) = x := ⟨_, rfl⟩
  cases x
  · exact ⟨0, 0, 0, .inr ⟨hx, rfl, rfl, rfl⟩⟩
  · have hn := of_decide_eq_true hx
    obtain ⟨b, b1, b2⟩ := near_ex (n := n) (h := 2 * n) (f := 0) (by omega)
    obtain ⟨c, c1, c2⟩ := near_ex (n := n) (h := 0) (f := 2 * n) (by omega)
    refine ⟨n, b, c, .inl ⟨hx, rfl, ⟨?_, b2⟩, ?_, c2⟩⟩
    · rw [Int.mul_zero, Int.mul_one]; exact b1
    · rw [Int.mul_zero, Int.mul_one]; exact c1
theorem best_okM {n a b c : Int} (h : BestAt n a b c) (hn : 1 ≤ n ∧ n ≤ 60) : a = n ∧ (0 ≤ b ∧ b ≤ 96) ∧ 0 ≤ c ∧ c ≤ 140 := by
  rcases h with ⟨_, ha, ⟨_, b2⟩, _, c2⟩ | ⟨hx, _⟩
  · exact ⟨ha, near3_bd hn.1 hn.2 b2, near5_bd hn.1 hn.2 c2⟩
  · exact absurd hn (of_decide_eq_false hx)
end Go.Proofs.YtfhefakacjkmiaaDoor
/- Contracts of impl's nearestSteps and of BestMap, both sides. -/
namespace Go.Proofs.YtfhefakacjkmiaaDoor
open Go.RowKit Go.Joins
set_option linter.unusedVariables false
theorem nearest_impl {n t h f d k : Int} (ho : OctAt (2 * n * t + 1) (2 * n * h) (2 * n * f) 2 k) (n0 : 1 ≤ n) (n1 : n ≤ 60) (w : World) :
    Calls Tryd.prog 42 #[.int .i64 n, ivV t h f d] w fun e w' => e = .returned (.int .i64 k) ∧ Below w.heap.size w w' := by
  obtain ⟨_, _, a1, a2, b1, b2, c1, c2⟩ := okI_nums ho.1
  have HO := Lib.hid ho
  clear ho
  go_enter Tryd.func42, Tryd.ntmps42
  go_wp2_with fail
  refine (octaves_impl_yes HO.out _).mono ?_
  rintro e w1 ⟨rfl, hb⟩
  have kb : Below w.heap.size w w1 := (below_alloc1 w _).trans (hb.mono (by simp))
  clear hb
  go_wp2_with fail
  go_ret
  exact ⟨rfl, kb⟩
set_option maxHeartbeats 2000000 in
theorem best_impl {n a b c : Int} (h : BestAt n a b c) (w : World) :
    Calls Tryd.prog 15 #[.int .i64 n] w fun e w' => e = .returned (mapV a b c) ∧ Below w.heap.size w w' := by
  rcases h with ⟨hx, rfl, ⟨b1, b2⟩, c1, c2⟩ | ⟨hx, rfl, rfl, rfl⟩
  · obtain ⟨n0, n1⟩ := of_decide_eq_true hx
    have HX := Lib.hid hx
    have HB := Lib.hid b1
    have HC := Lib.hid c1
    clear hx b1 b2 c1 c2
    go_enter Tryd.func15, Tryd.ntmps15
    go_wp2_with fail
    have Z0 := Lib.hid (zed3_alloc (w := w) (t := 25))
    have B0 := Lib.hid (below_alloc1 w (.cells #[.int .i64 0, .int .i64 0, .int .i64 0] 25))
    refine (isDiv_impl _ _).mono ?_
    rintro e w1 ⟨rfl, h1⟩
    rw [HX.out]
    have Z1 := Lib.hid (zed3_keep h1 Z0.out)
    have B1 := Lib.hid (B0.out.trans (h1.mono B0.out.size))
    clear h1 Z0 B0
    go_wp2_with fail
    refine (pure_impl_yes _ _ _ _ (by decide)).mono ?_
    rintro e w2 ⟨rfl, h1⟩
    have Z2 := Lib.hid (zed3_keep h1 Z1.out)
    have B2 := Lib.hid (B1.out.trans (h1.mono B1.out.size))
    clear h1 Z1 B1
    go_wp2_with fail
    refine (nearest_impl HB.out n0 n1 _).mono ?_
    rintro e w3 ⟨rfl, h1⟩
    have Z3 := Lib.hid (zed3_keep h1 Z2.out)
    have B3 := Lib.hid (B2.out.trans (h1.mono B2.out.size))
    clear h1 Z2 B2
    go_wp2_with fail
    refine (pure_impl_yes _ _ _ _ (by decide)).mono ?_
    rintro e w4 ⟨rfl, h1⟩
    have Z4 := Lib.hid (zed3_keep h1 Z3.out)
    have B4 := Lib.hid (B3.out.trans (h1.mono B3.out.size))
    clear h1 Z3 B3
    go_wp2_with fail
    refine (nearest_impl HC.out n0 n1 _).mono ?_
    rintro e w5 ⟨rfl, h1⟩
    have hz := zed3_keep h1 Z4.out
    have B5 := Lib.hid (B4.out.trans (h1.mono B4.out.size))
    clear h1 Z4 B4
    obtain ⟨⟨zm, z0, z1, z2⟩, zf⟩ := hz
    go_wp2_with fail
    obtain ⟨X, hX, ⟨xm, x0, x1, x2⟩, hB⟩ := zed3_store (p := a) (q := b) (r := c) (Nat.le_refl _) B5.out ⟨zm, z0, z1, z2⟩
    rw [← hX]
    exact bodyPost_ret (v := mapV a b c) (by simp [results, Tryd.results15, go_sem, x0, x1, x2]) rfl ⟨rfl, hB⟩
  · have HX := Lib.hid hx
    clear hx
    go_enter Tryd.func15, Tryd.ntmps15
    go_wp2_with fail
    have Z0 := Lib.hid (zed3_alloc (w := w) (t := 25))
    have B0 := Lib.hid (below_alloc1 w (.cells #[.int .i64 0, .int .i64 0, .int .i64 0] 25))
    refine (isDiv_impl _ _).mono ?_
    rintro e w1 ⟨rfl, h1⟩
    rw [HX.out]
    have hz := zed3_keep h1 Z0.out
    have B1 := Lib.hid (B0.out.trans (h1.mono B0.out.size))
    clear h1 Z0 B0
    obtain ⟨⟨zm, z0, z1, z2⟩, zf⟩ := hz
    go_wp2_with fail
    obtain ⟨X, hX, ⟨xm, x0, x1, x2⟩, hB⟩ := zed3_store (p := 0) (q := 0) (r := 0) (Nat.le_refl _) B1.out ⟨zm, z0, z1, z2⟩
    rw [← hX]
    exact bodyPost_ret (v := mapV 0 0 0) (by simp [results, Tryd.results15, go_sem, x0, x1, x2]) rfl ⟨rfl, hB⟩
set_option maxHeartbeats 2000000 in
theorem best_spec {n a b c : Int} (h : BestAt n a b c) (w : World) :
    Calls Tryd.prog 52 #[.int .i64 n] w fun e w' => e = .returned (mapV a b c) ∧ Below w.heap.size w w' := by
  rcases h with ⟨hx, rfl, ⟨b1, b2⟩, c1, c2⟩ | ⟨hx, rfl, rfl, rfl⟩
  · obtain ⟨n0, n1⟩ := of_decide_eq_true hx
    have b3 := near3_bd n0 n1 b2
    have c3 := near5_bd n0 n1 c2
    have HX := Lib.hid hx
    have HB : Hid (NearAt (2 * a) 0 b ∧ 0 ≤ b ∧ b ≤ 200) := Lib.hid ⟨b2, by omega, by omega⟩
    have HC : Hid (NearAt 0 (2 * a) c ∧ 0 ≤ c ∧ c ≤ 200) := Lib.hid ⟨c2, by omega, by omega⟩
    clear hx b1 b2 c1 c2 b3 c3
    go_enter Tryd.func52, Tryd.ntmps52
    go_wp2_with fail
    have Z0 := Lib.hid (zed3_alloc (w := w) (t := 25))
    have B0 := Lib.hid (below_alloc1 w (.cells #[.int .i64 0, .int .i64 0, .int .i64 0] 25))
    refine (inT_any _ _ _ _).mono ?_
    rintro e w1 ⟨rfl, rfl⟩
    rw [HX.out]
    go_wp2_with fail
    refine (nearest_spec (by omega) (by omega) HB.out.1 HB.out.2.1 HB.out.2.2 n0 n1 (by omega) (by omega) (by omega) (by omega) (by omega) (by omega) (by omega) (by omega) _).mono ?_
    rintro e w3 ⟨rfl, h1⟩
    have Z3 := Lib.hid (zed3_keep h1 Z0.out)
    have B3 := Lib.hid (B0.out.trans (h1.mono B0.out.size))
    clear h1 Z0 B0
    go_wp2_with fail
    refine (nearest_spec (by omega) (by omega) HC.out.1 HC.out.2.1 HC.out.2.2 n0 n1 (by omega) (by omega) (by omega) (by omega) (by omega) (by omega) (by omega) (by omega) _).mono ?_
    rintro e w5 ⟨rfl, h1⟩
    have hz := zed3_keep h1 Z3.out
    have B5 := Lib.hid (B3.out.trans (h1.mono B3.out.size))
    clear h1 Z3 B3
    obtain ⟨⟨zm, z0, z1, z2⟩, zf⟩ := hz
    go_wp2_with fail
    obtain ⟨X, hX, ⟨xm, x0, x1, x2⟩, hB⟩ := zed3_store (p := a) (q := b) (r := c) (Nat.le_refl _) B5.out ⟨zm, z0, z1, z2⟩
    rw [← hX]
    exact bodyPost_ret (v := mapV a b c) (by simp [results, Tryd.results52, go_sem, x0, x1, x2]) rfl ⟨rfl, hB⟩
  · have HX := Lib.hid hx
    clear hx
    go_enter Tryd.func52, Tryd.ntmps52
    go_wp2_with fail
    have Z0 := Lib.hid (zed3_alloc (w := w) (t := 25))
    have B0 := Lib.hid (below_alloc1 w (.cells #[.int .i64 0, .int .i64 0, .int .i64 0] 25))
    refine (inT_any _ _ _ _).mono ?_
    rintro e w1 ⟨rfl, rfl⟩
    rw [HX.out]
    obtain ⟨⟨zm, z0, z1, z2⟩, zf⟩ := Z0.out
    go_wp2_with fail
    exact bodyPost_ret (v := mapV 0 0 0) (by simp [results, Tryd.results52, go_sem, z0, z1, z2]) rfl ⟨rfl, B0.out⟩
end Go.Proofs.YtfhefakacjkmiaaDoor
