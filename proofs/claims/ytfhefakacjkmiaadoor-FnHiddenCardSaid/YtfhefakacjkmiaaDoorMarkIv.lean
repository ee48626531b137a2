/- Contracts of laws.markIntervalS and laws.heldIntervalS: only the slice's own block is written. -/
import Derived.Test.YtfhefakacjkmiaaDoorSortBase
import Derived.Deep.DeepCutAuto
namespace Go.Proofs.YtfhefakacjkmiaaDoor
open Go.RowKit Go.Joins
set_option linter.unusedVariables false
theorem grownV_set {w w' : World} {b : Nat} (h : w.grownBy w' (some b)) (j : Nat) (v : Value) : w.grownBy (w'.setCell ⟨b, j, none⟩ v) (some b) :=
  ⟨h.os, h.tape, h.output, by have := h.size; simpa using this, fun k hk hne => by rw [Below.heap_setCell _ _ _ _ (fun e => hne (by rw [e]))]; exact h.block k hk hne⟩
/-- The numbers that mark element j. -/
def markI (k0 : Int) (j : Nat) : Iv := ⟨k0 + 4 * j, k0 + 4 * j + 1, k0 + 4 * j + 2, k0 + 4 * j + 3⟩
theorem own_put4 {w : World} {B g cap n : Nat} {e : TypeId} {f : Nat → Iv} (h : w.ownsRow B e 4 (.slice (some ⟨g, 0, none⟩) n cap) n (ivCs (rowL n f))) {i : Nat} (hi : i < n) (x : Iv) :
    (put4 w g (i * 4) x).ownsRow B e 4 (.slice (some ⟨g, 0, none⟩) n cap) n (ivCs (rowL n (fun t => if t = i then x else f t))) := by
  have s1 := h.stored (i * 4) (.int .i64 x.two)
  have s2 := s1.1.stored (i * 4 + 1) (.int .i64 x.three)
  have s3 := s2.1.stored (i * 4 + 2) (.int .i64 x.five)
  have s4 := s3.1.stored (i * 4 + 3) (.int .i64 x.root)
  have k := s4.1
  rw [ivCs_set _ _ _ (by rw [rowL_len]; exact hi), rowL_set f x hi] at k
  exact k
theorem set_step {W : World} {g o o' : Nat} {v y : Value} (hc : W.cell? ⟨g, o', none⟩ = some y) (ho : o ≠ o') (hf : ∀ o, W.frozen? ⟨g, o, none⟩ = false) :
    ∃ X, X = W.setCell ⟨g, o, none⟩ v ∧ X.cell? ⟨g, o', none⟩ = some y ∧ ∀ o, X.frozen? ⟨g, o, none⟩ = false :=
  ⟨_, rfl, by rw [World.cell?_setCell_other _ _ _ _ (fun e => ho (by injection e))]; exact hc, fun o => by rw [World.frozen?_setCell]; exact hf o⟩
theorem set_keep {W : World} {g o o' : Nat} {v y : Value} (hc : W.cell? ⟨g, o', none⟩ = some y) (ho : o ≠ o') : (W.setCell ⟨g, o, none⟩ v).cell? ⟨g, o', none⟩ = some y := by
  rw [World.cell?_setCell_other _ _ _ _ (fun e => ho (by injection e))]; exact hc
/-- j elements are marked. -/
def markTo (k0 : Int) (j : Nat) (f : Nat → Iv) : Nat → Iv := fun t => if t < j then markI k0 t else f t
theorem markTo_step (k0 : Int) (j : Nat) (f : Nat → Iv) : (fun t => if t = j then markI k0 j else markTo k0 j f t) = markTo k0 (j + 1) f := by
  funext t; unfold markTo
  by_cases e : t = j
  · rw [if_pos e, if_pos (by omega), e]
  · rw [if_neg e]
    by_cases e2 : t < j
    · rw [if_pos e2, if_pos (by omega)]
    · rw [if_neg e2, if_neg (by omega)]
set_option maxRecDepth 100000 in
set_option maxHeartbeats 2000000 in
theorem markIv_own (w : World) (base : Nat) (e : TypeId) (v : Value) (n : Nat) (f : Nat → Iv) (hn' : n ≤ 1000000) (h : w.ownsRow base e 4 v n (ivCs (rowL n f))) :
    Calls Tryd.prog 25 #[v, .int .i64 1] w fun en w' => en = .returned (.int .i64 (1 + 4 * (n : Int))) ∧ w'.ownsRow base e 4 v n (ivCs (rowL n (markI 1))) ∧ w.grownBy w' v.ownBlock := by
  rcases Nat.eq_zero_or_pos n with h0 | h0
  · obtain ⟨p1, c1, rfl⟩ := own4_zero h h0
    subst h0
    have HH := Lib.hid h
    clear h
    go_enter Tryd.func25, Tryd.ntmps25
    go_wp2
    refine wp_loop_rounds 1 ?_
    rw [rounds_succ]
    go_wp2
    go_ret
    exact ⟨ret_int (by omega), HH.out, World.grownBy.refl _ _⟩
  · obtain ⟨g, c, rfl, hg, hgl⟩ := own4_pos h h0
    have HH := Lib.hid h
    clear h
    go_enter Tryd.func25, Tryd.ntmps25
    go_wp2
    go_loopw [1, 5] (fun k i wr => ∃ (j : Nat) (z : Int), j ≤ n ∧ Hid (z = 1 + 4 * (j : Int)) ∧ i = .int .i64 j ∧ k = .int .i64 z ∧ Hid (wr.ownsRow base e 4 (.slice (some ⟨g, 0, none⟩) n c) n (ivCs (rowL n (markTo 1 j f)))) ∧ Hid (w.grownBy wr (some g))) (fun _ i _ => n - (intOf i).toNat)
    case atStart => exact ⟨0, 1, Nat.zero_le _, Lib.hid rfl, rfl, rfl, HH, Lib.hid (World.grownBy.refl _ _)⟩
    case round =>
      obtain ⟨j, z, hj, HZ, rfl, rfl, HO, HB⟩ := hrel
      by_cases hlt : j < n
      · have q3 : (j : Int) < n := by omega
        obtain ⟨z1, hz1⟩ : ∃ z1, z1 = z + 1 := ⟨_, rfl⟩
        obtain ⟨z2, hz2⟩ : ∃ z2, z2 = z1 + 1 := ⟨_, rfl⟩
        obtain ⟨z3, hz3⟩ : ∃ z3, z3 = z2 + 1 := ⟨_, rfl⟩
        obtain ⟨z4, hz4⟩ : ∃ z4, z4 = z3 + 1 := ⟨_, rfl⟩
        have hz := HZ.out
        have c1 : IntKind.i64.wrap (z + 1) = z1 := by rw [IntWalk.i64_in _ (by omega)]; omega
        have c2 : IntKind.i64.wrap (z1 + 1) = z2 := by rw [IntWalk.i64_in _ (by omega)]; omega
        have c3 : IntKind.i64.wrap (z2 + 1) = z3 := by rw [IntWalk.i64_in _ (by omega)]; omega
        have c4 : IntKind.i64.wrap (z3 + 1) = z4 := by rw [IntWalk.i64_in _ (by omega)]; omega
        have em : markI 1 j = ⟨z, z1, z2, z3⟩ := by
          unfold markI
          congr 1 <;> omega
        have E4 := Lib.hid (show z4 = 1 + 4 * ((j + 1 : Nat) : Int) by omega)
        have EM := Lib.hid em
        clear hz hz1 hz2 hz3 hz4 em
        obtain ⟨y0, y1, y2, y3⟩ := own_iv HO.out (rowL_len n _).symm j hlt
        have fz := HO.out.frozenAt
        go_upto_region 6 with fail
        obtain ⟨X1, hX1, k1, fz1⟩ := set_step (v := .int .i64 z) y1 (show j * 4 ≠ j * 4 + 1 by omega) fz
        have k2 := set_keep (v := .int .i64 z) y2 (show j * 4 ≠ j * 4 + 2 by omega)
        have k3 := set_keep (v := .int .i64 z) y3 (show j * 4 ≠ j * 4 + 3 by omega)
        rw [← hX1] at k2 k3
        rw [← hX1]
        have HX1 := Lib.hid hX1
        clear hX1 y0 y1 y2 y3 fz
        go_upto_region 8 with fail
        obtain ⟨X2, hX2, l2, fz2⟩ := set_step (v := .int .i64 z1) k2 (show j * 4 + 1 ≠ j * 4 + 2 by omega) fz1
        have l3 := set_keep (v := .int .i64 z1) k3 (show j * 4 + 1 ≠ j * 4 + 3 by omega)
        rw [← hX2] at l3
        rw [← hX2]
        have HX2 := Lib.hid hX2
        clear hX2 k1 k2 k3 fz1
        go_upto_region 10 with fail
        obtain ⟨X3, hX3, m3, fz3⟩ := set_step (v := .int .i64 z2) l3 (show j * 4 + 2 ≠ j * 4 + 3 by omega) fz2
        rw [← hX3]
        have HX3 := Lib.hid hX3
        clear hX3 l2 l3 fz2
        go_upto_region 11 with fail
        obtain ⟨X4, hX4⟩ : ∃ X, X = X3.setCell ⟨g, j * 4 + 3, none⟩ (.int .i64 z3) := ⟨_, rfl⟩
        rw [← hX4]
        have e4 : X4 = put4 wr g (j * 4) ⟨z, z1, z2, z3⟩ := by rw [hX4, HX3.out, HX2.out, HX1.out]; rfl
        have O4 := Lib.hid (show X4.ownsRow base e 4 (.slice (some ⟨g, 0, none⟩) n c) n (ivCs (rowL n (markTo 1 (j + 1) f))) from by
          rw [e4, ← markTo_step, EM.out]
          exact own_put4 HO.out hlt _)
        have B4 := Lib.hid (show w.grownBy X4 (some g) from by
          rw [hX4, HX3.out, HX2.out, HX1.out]
          exact grownV_set (grownV_set (grownV_set (grownV_set HB.out _ _) _ _) _ _) _ _)
        clear hX4 e4 m3 fz3 HX1 HX2 HX3 HO HB
        go_wp2_with fail
        go_roundw
        case rel => exact ⟨j + 1, z4, by omega, E4, by go_num, rfl, O4, B4⟩
        case measure => simp [intOf]; omega
      · have q3 : ¬ (j : Int) < n := by omega
        obtain rfl : j = n := by omega
        go_wp2_with fail
        go_ret
        refine ⟨ret_int HZ.out, ?_, HB.out⟩
        have := HO.out
        rwa [show rowL j (markTo 1 j f) = rowL j (markI 1) from rowL_congr fun t ht => if_pos ht] at this
set_option maxRecDepth 100000 in
set_option maxHeartbeats 2000000 in
theorem heldIv_own (w : World) (base : Nat) (e : TypeId) (v : Value) (n : Nat) (hn' : n ≤ 1000000) (h : w.ownsRow base e 4 v n (ivCs (rowL n (markI 1)))) :
    Calls Tryd.prog 26 #[v, .int .i64 1] w fun en w' => en = .returned (.int .i64 (1 + 4 * (n : Int))) ∧ w = w' := by
  rcases Nat.eq_zero_or_pos n with h0 | h0
  · obtain ⟨p1, c1, rfl⟩ := own4_zero h h0
    subst h0
    clear h
    go_enter Tryd.func26, Tryd.ntmps26
    go_wp2
    refine wp_loop_rounds 1 ?_
    rw [rounds_succ]
    go_wp2
    go_ret
    exact ⟨ret_int (by omega), rfl⟩
  · obtain ⟨g, c, rfl, hg, hgl⟩ := own4_pos h h0
    have HH := Lib.hid h
    clear h
    go_enter Tryd.func26, Tryd.ntmps26
    go_wp2
    go_loopw [1, 5] (fun k i wr => ∃ (j : Nat) (z : Int), j ≤ n ∧ Hid (z = 1 + 4 * (j : Int)) ∧ i = .int .i64 j ∧ k = .int .i64 z ∧ Hid (w = wr)) (fun _ i _ => n - (intOf i).toNat)
    case atStart => exact ⟨0, 1, Nat.zero_le _, Lib.hid rfl, rfl, rfl, Lib.hid rfl⟩
    case round =>
      obtain ⟨j, z, hj, HZ, rfl, rfl, HW⟩ := hrel
      by_cases hlt : j < n
      · have q3 : (j : Int) < n := by omega
        obtain ⟨z1, hz1⟩ : ∃ z1, z1 = z + 1 := ⟨_, rfl⟩
        obtain ⟨z2, hz2⟩ : ∃ z2, z2 = z1 + 1 := ⟨_, rfl⟩
        obtain ⟨z3, hz3⟩ : ∃ z3, z3 = z2 + 1 := ⟨_, rfl⟩
        obtain ⟨z4, hz4⟩ : ∃ z4, z4 = z3 + 1 := ⟨_, rfl⟩
        have hz := HZ.out
        have c1 : IntKind.i64.wrap (z + 1) = z1 := by rw [IntWalk.i64_in _ (by omega)]; omega
        have c2 : IntKind.i64.wrap (z1 + 1) = z2 := by rw [IntWalk.i64_in _ (by omega)]; omega
        have c3 : IntKind.i64.wrap (z2 + 1) = z3 := by rw [IntWalk.i64_in _ (by omega)]; omega
        have c4 : IntKind.i64.wrap (z3 + 1) = z4 := by rw [IntWalk.i64_in _ (by omega)]; omega
        have em : markI 1 j = ⟨z, z1, z2, z3⟩ := by
          unfold markI
          congr 1 <;> omega
        have E4 := Lib.hid (show z4 = 1 + 4 * ((j + 1 : Nat) : Int) by omega)
        obtain ⟨y0, y1, y2, y3⟩ := own_iv HH.out (rowL_len n _).symm j hlt
        rw [rowL_at _ hlt, em, HW.out] at y0 y1 y2 y3
        dsimp only at y0 y1 y2 y3
        clear hz hz1 hz2 hz3 hz4 em
        go_wp2_with fail
        go_roundw
        case rel => exact ⟨j + 1, z4, by omega, E4, by go_num, rfl, HW⟩
        case measure => simp [intOf]; omega
      · have q3 : ¬ (j : Int) < n := by omega
        obtain rfl : j = n := by omega
        go_wp2_with fail
        go_ret
        exact ⟨ret_int HZ.out, HW.out⟩
end Go.Proofs.YtfhefakacjkmiaaDoor
