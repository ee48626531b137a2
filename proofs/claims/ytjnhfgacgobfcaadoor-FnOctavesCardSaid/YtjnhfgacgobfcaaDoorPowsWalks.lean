/- Contracts of impl's timesPower and powersProduct: the groups of V * B^E; the groups of 2^t * 3^h * 5^f. -/
import Derived.Test.YtjnhfgacgobfcaaDoorPowWalks
namespace Go.Proofs.YtjnhfgacgobfcaaDoor
open Go.RowKit
set_option linter.unusedVariables false
/-- A row of ints at its own base, and what was below the base is unchanged. -/
def OwnAt (base : Nat) (xs : List Int) (w : World) (e : Ending) (w' : World) : Prop :=
  ∃ v, e = .returned v ∧ w'.ownsRow base 3 1 v xs.length (intCs xs) ∧ Below w.heap.size w w'
theorem pow_next (V B k j : Nat) : V * B ^ k * B ^ j = V * B ^ (k + j) := by rw [Nat.pow_add, Nat.mul_assoc]
theorem pow_one' (B : Nat) : B = B ^ 1 := by rw [Nat.pow_one]
theorem pow_ge1 (B j : Nat) (h : 1 ≤ B) : 1 ≤ B ^ j := Nat.pow_pos (by omega)
set_option maxRecDepth 100000 in
set_option maxHeartbeats 2000000 in
theorem timesPower_any (w : World) (base : Nat) (v : Value) (V B : Nat) (b E : Int) (hb : b = (B : Int)) (hB1 : 2 ≤ B) (hB2 : B ≤ 5) (hE1 : -20000 ≤ E) (hE2 : E ≤ 20000) (hl : ∀ k, k ≤ E.toNat → (ofB (V * B ^ k)).length ≤ 1000000) (hbase : base ≤ w.heap.size) (h : w.ownsRow base 3 1 v (ofB V).length (intCs (ofB V))) :
    Calls Tryd.prog 35 #[v, .int .i64 b, .int .i64 E] w (OwnAt base (ofB (V * B ^ E.toNat)) w) := by
  subst hb
  have HL := Lib.hid hl
  have H0 := Lib.hid (own_eq h (show ofB V = ofB (V * B ^ 0) from by rw [Nat.pow_zero, Nat.mul_one]) (by rw [Nat.pow_zero, Nat.mul_one]))
  clear hl h
  go_enter Tryd.func35, Tryd.ntmps35
  go_wp2
  go_loopw [2, 7, 8] (fun x v _ wr => ∃ (k : Nat) (y : Int), x = .int .i64 y ∧ (y = E - k ∧ (k : Int) ≤ max E 0) ∧ wr.ownsRow base 3 1 v (ofB (V * B ^ k)).length (intCs (ofB (V * B ^ k))) ∧ Below w.heap.size w wr) (fun x _ _ _ => (intOf x).toNat)
  case atStart => exact ⟨0, E, rfl, ⟨by omega, by omega⟩, H0.out, Below.refl _ _⟩
  case round =>
    obtain ⟨k, y, rfl, hy, hown, hbl⟩ := hrel
    have HY := Lib.hid hy
    have y1 : -20000 ≤ y := by omega
    have y2 : y ≤ 20000 := by omega
    have HO := Lib.hid hown
    have HB := Lib.hid hbl
    clear hy hown hbl H0
    by_cases hy0 : 0 < y
    · obtain ⟨wo, rfl⟩ : ∃ wo : World, wo = wr := ⟨_, rfl⟩
      go_wp2_with fail
      go_loopw [2, 8] (fun x f wr => ∃ (j g : Nat) (z : Int), x = .int .i64 z ∧ f = .int .i64 (g : Int) ∧ (z = y - j ∧ 1 ≤ j ∧ 0 ≤ z ∧ 1 ≤ g ∧ g ≤ 1000000000000) ∧ Hid (g = B ^ j) ∧ wr = wo) (fun x _ _ => (intOf x).toNat)
      case atStart => exact ⟨1, B, y - 1, by go_num, rfl, ⟨by omega, by omega, by omega, by omega, by omega⟩, Lib.hid (pow_one' B), rfl⟩
      case round =>
        obtain ⟨j, g, z, rfl, rfl, hz, hg, rfl⟩ := hrel
        have HZ := Lib.hid hz
        obtain ⟨_, _, z0, g1, g2⟩ := hz
        have z2 : z ≤ 20000 := by have := HZ.out.1; omega
        by_cases hz0 : 0 < z
        · obtain ⟨q, hq⟩ : ∃ q : Nat, g * B = q := ⟨_, rfl⟩
          have q1 : (g : Int) * (B : Int) = (q : Int) := by rw [← hq, Int.natCast_mul]
          have q2 : q ≤ 5000000000000 := by rw [← hq]; exact Nat.le_trans (Nat.mul_le_mul g2 hB2) (by omega)
          have q3 : 1 ≤ q := by rw [← hq]; exact Nat.mul_le_mul g1 (show 1 ≤ B by omega)
          have Q := Lib.hid (show q = B ^ (j + 1) from by rw [← hq, hg.out, Nat.pow_succ])
          clear hq
          by_cases hle : (q : Int) ≤ 1000000000000
          · go_wp2_with fail
            go_roundw
            case rel => exact ⟨j + 1, q, z - 1, by go_num, rfl, ⟨by have := HZ.out; omega, by omega, by omega, by omega, by omega⟩, Q, by trivial⟩
            case measure => simp [intOf]; omega
          · go_wp2_with fail
            refine (timesV_any _ _ _ _ (V * B ^ k) g (Nat.le_trans (HL.out k (by have := HY.out; omega)) (by omega)) g1 g2 HO.out).mono ?_
            rintro e1 w1 ⟨v1, rfl, o1, b1⟩
            have R1 := own_eq (own_lower o1 (Nat.le_trans hbase HB.out.size)) (show ofB (V * B ^ k * g) = ofB (V * B ^ (k + j)) from by rw [hg.out, pow_next]) (by rw [hg.out, pow_next])
            have R2 := HB.out.trans (b1.mono HB.out.size)
            clear o1 b1
            go_wp2_with fail
            go_roundw
            case rel => exact ⟨k + j, _, rfl, ⟨by have := HZ.out; have := HY.out; omega, by have := HZ.out; have := HY.out; omega⟩, R1, R2⟩
            case measure => have := HZ.out; simp [intOf]; omega
        · go_wp2_with fail
          refine (timesV_any _ _ _ _ (V * B ^ k) g (Nat.le_trans (HL.out k (by have := HY.out; omega)) (by omega)) g1 g2 HO.out).mono ?_
          rintro e1 w1 ⟨v1, rfl, o1, b1⟩
          have R1 := own_eq (own_lower o1 (Nat.le_trans hbase HB.out.size)) (show ofB (V * B ^ k * g) = ofB (V * B ^ (k + j)) from by rw [hg.out, pow_next]) (by rw [hg.out, pow_next])
          have R2 := HB.out.trans (b1.mono HB.out.size)
          clear o1 b1
          go_wp2_with fail
          go_roundw
          case rel => exact ⟨k + j, _, rfl, ⟨by have := HZ.out; have := HY.out; omega, by have := HZ.out; have := HY.out; omega⟩, R1, R2⟩
          case measure => have := HZ.out; simp [intOf]; omega
    · have hk : k = E.toNat := by have := HY.out; omega
      have R1 := own_eq HO.out (show ofB (V * B ^ k) = ofB (V * B ^ E.toNat) from by rw [hk]) (by rw [hk])
      have R2 := HB.out
      clear HO HB hk
      go_wp2_with fail
      go_ret
      exact ⟨_, rfl, R1, R2⟩
set_option maxRecDepth 100000 in
set_option maxHeartbeats 1000000 in
theorem powersProduct_any (w : World) (t h f : Int) (t1 : -20000 ≤ t) (t2 : t ≤ 20000) (h1 : -20000 ≤ h) (h2 : h ≤ 20000) (f1 : -20000 ≤ f) (f2 : f ≤ 20000) :
    Calls Tryd.prog 29 #[.int .i64 t, .int .i64 h, .int .i64 f] w (OwnPost 3 (ofB (pw t.toNat h.toNat f.toNat)) w) := by
  go_enter Tryd.func29, Tryd.ntmps29
  go_wp2_with fail
  have O0 := one_lit w 3
  refine (timesPower_any _ w.heap.size _ 1 2 2 t rfl (by omega) (by omega) t1 t2 (fun k hk => by rw [pw2]; exact Nat.le_trans (pw_groups k 0 0) (by omega)) (by simp) (own_eq O0 ofB_one.symm (by rw [ofB_one]))).mono ?_
  rintro e1 w1 ⟨v1, rfl, o1, b1⟩
  have B1 : Below w.heap.size w w1 := ((Below.refl _ _).alloc (Nat.le_refl _) _).trans (b1.mono (by simp))
  rw [pw2] at o1
  clear O0 b1
  go_wp2_with fail
  refine (timesPower_any _ w.heap.size _ _ 3 3 h rfl (by omega) (by omega) h1 h2 (fun k hk => by rw [pw3]; exact Nat.le_trans (pw_groups t.toNat k 0) (by omega)) B1.size o1).mono ?_
  rintro e2 w2 ⟨v2, rfl, o2, b2⟩
  have B2 : Below w.heap.size w w2 := B1.trans (b2.mono B1.size)
  rw [pw3] at o2
  clear o1 b2 B1
  go_wp2_with fail
  refine (timesPower_any _ w.heap.size _ _ 5 5 f rfl (by omega) (by omega) f1 f2 (fun k hk => by rw [pw5]; exact Nat.le_trans (pw_groups t.toNat h.toNat k) (by omega)) B2.size o2).mono ?_
  rintro e3 w3 ⟨v3, rfl, o3, b3⟩
  have B3 : Below w.heap.size w w3 := B2.trans (b3.mono B2.size)
  rw [pw5] at o3
  clear o2 b3 B2
  go_wp2_with fail
  go_ret
  exact ⟨_, rfl, o3, B3⟩
end Go.Proofs.YtjnhfgacgobfcaaDoor
