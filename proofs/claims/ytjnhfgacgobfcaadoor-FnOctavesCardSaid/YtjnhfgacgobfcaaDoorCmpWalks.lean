/- Contracts of impl.signOfInt, impl's compare, impl.CompareBig and spec.CompareBig. -/
import Derived.Test.YtjnhfgacgobfcaaDoorOkWalks
import Derived.Test.YtjnhfgacgobfcaaDoorBigsMath
import Derived.Deep.RegionHeld3
namespace Go.Proofs.YtjnhfgacgobfcaaDoor
open Go.RowKit
set_option linter.unusedVariables false
def clampJ (n lo hi : Int) : Int := if hi < lo ∨ n < lo then lo else if hi < n then hi else n
theorem clamp_implJ (n lo hi : Int) (w : World) : Calls Tryd.prog 34 #[.int .i64 n, .int .i64 lo, .int .i64 hi] w fun e w' => e = .returned (.int .i64 (clampJ n lo hi)) ∧ w = w' := by
  by_cases h1 : n < lo
  · go_enter Tryd.func34, Tryd.ntmps34
    go_wp2
    go_ret
    exact ⟨ret_int (by unfold clampJ; (repeat' split) <;> omega), rfl⟩
  · by_cases h2 : hi < lo
    · go_enter Tryd.func34, Tryd.ntmps34
      go_wp2
      go_ret
      exact ⟨ret_int (by unfold clampJ; (repeat' split) <;> omega), rfl⟩
    · by_cases h3 : hi < n
      · go_enter Tryd.func34, Tryd.ntmps34
        go_wp2
        go_ret
        exact ⟨ret_int (by unfold clampJ; (repeat' split) <;> omega), rfl⟩
      · go_enter Tryd.func34, Tryd.ntmps34
        go_wp2
        go_ret
        exact ⟨ret_int (by unfold clampJ; (repeat' split) <;> omega), rfl⟩
def sgnI (n : Int) : Int := if n < 0 then -1 else if 0 < n then 1 else 0
theorem sign_any (n : Int) (w : World) : Calls Tryd.prog 36 #[.int .i64 n] w fun e w' => e = .returned (.int .i64 (sgnI n)) ∧ w = w' := by
  go_enter Tryd.func36, Tryd.ntmps36
  go_wp2_with fail
  refine (clamp_implJ _ _ _ _).mono ?_
  rintro e1 w1 ⟨rfl, rfl⟩
  go_wp2_with fail
  go_ret
  exact ⟨ret_int (by unfold sgnI clampJ; (repeat' split) <;> omega), rfl⟩
theorem slice_cmp {w : World} {b : Nat} {e : TypeId} {v : Value} {n : Nat} {xs : List Value} (h : w.ownsRow b e 1 v n xs) : ∃ p c, v = .slice p n c := by
  rcases own_shape h with ⟨h, h'⟩ | ⟨g, cap, h, _⟩
  · exact ⟨_, _, by rw [h, h']⟩
  · exact ⟨_, _, h⟩
set_option maxHeartbeats 1500000 in
theorem compare_gen (w : World) (b1 b2 : Nat) (e1 e2 : TypeId) (v1 v2 : Value) (xs ys : List Int) (hx : BdB xs) (hy : BdB ys) (hl1 : xs.length ≤ 2000000) (hl2 : ys.length ≤ 2000000) (h1 : w.ownsRow b1 e1 1 v1 xs.length (intCs xs)) (h2 : w.ownsRow b2 e2 1 v2 ys.length (intCs ys)) :
    Calls Tryd.prog 30 #[v1, v2] w fun e w' => e = .returned (.int .i64 (cmpB xs ys)) ∧ Below w.heap.size w w' := by
  obtain ⟨p1, c1, rfl⟩ := slice_cmp h1
  obtain ⟨p2, c2, rfl⟩ := slice_cmp h2
  have HX := Lib.hid hx
  have HY := Lib.hid hy
  obtain ⟨n, hn⟩ : ∃ n, n = xs.length := ⟨_, rfl⟩
  obtain ⟨m, hm⟩ : ∃ m, m = ys.length := ⟨_, rfl⟩
  rw [← hn] at h1 hl1 ⊢
  rw [← hm] at h2 hl2 ⊢
  have HN := Lib.hid hn
  have HM := Lib.hid hm
  clear hn hm hx hy
  by_cases hne : n = m
  · subst hne
    have HC := Lib.hid (show cmpB xs ys = cmpTo xs ys n from by unfold cmpB; rw [← HN.out, ← HM.out, if_neg (by omega), if_neg (by omega)])
    have t0 : ((n : Int) != (n : Int)) = false := by simp
    go_enter Tryd.func30, Tryd.ntmps30
    go_wp2
    go_loopw [5] (fun i wr => ∃ j d : Nat, j ≤ n ∧ i = .int .i64 ((j : Int) - 1) ∧ cmpB xs ys = cmpTo xs ys j ∧ wr = w.drewN d) (fun i _ => (intOf i + 1).toNat)
    case atStart => exact ⟨n, 0, Nat.le_refl _, rfl, HC.out, rfl⟩
    case round =>
      obtain ⟨j, d, hj, rfl, hc, rfl⟩ := hrel
      have HC := Lib.hid hc
      clear hc
      rcases j with _ | t
      · go_wp2
        go_ret
        exact ⟨ret_int (by rw [HC.out]; rfl), ⟨rfl, rfl, rfl, Nat.le_refl _, fun _ _ => rfl⟩⟩
      · rw [show ((t + 1 : Nat) : Int) - 1 = (t : Int) from by omega]
        obtain ⟨g1, k1, hv1, _, _⟩ := own_pos h1 (by omega)
        obtain ⟨g2, k2, hv2, _, _⟩ := own_pos h2 (by omega)
        cases hv1
        cases hv2
        have q1 := own_icell h1 t (by omega)
        have q2 := own_icell h2 t (by omega)
        have q3 : (t : Int) < n := by omega
        have x0 := HX.out t (by have := HN.out; omega)
        have y0 := HY.out t (by have := HM.out; omega)
        obtain ⟨x, hxk⟩ : ∃ x, x = xs.getD t 0 := ⟨_, rfl⟩
        obtain ⟨y, hyk⟩ : ∃ y, y = ys.getD t 0 := ⟨_, rfl⟩
        have HS := Lib.hid (show cmpTo xs ys (t + 1) = (if x < y then -1 else if y < x then 1 else cmpTo xs ys t) from by rw [hxk, hyk]; rfl)
        rw [← hxk] at q1 x0
        rw [← hyk] at q2 y0
        clear hxk hyk
        obtain ⟨xa, xb⟩ := x0
        obtain ⟨ya, yb⟩ := y0
        clear h1 h2
        by_cases hxy : x = y
        · have t1 : (x != y) = false := by simp [hxy]
          have E : cmpTo xs ys (t + 1) = cmpTo xs ys t := by rw [HS.out, if_neg (by omega), if_neg (by omega)]
          have HE := Lib.hid E
          clear hxy E
          go_wp2_with fail
          go_quiet (fail)
          go_wp2_with fail
          go_roundw
          case rel => exact ⟨t, _, by omega, by go_num, HC.out.trans HE.out, rfl⟩
          case measure => first | (simp [intOf]; done) | (simp [intOf]; omega)
        · have t1 : (x != y) = true := by simp [hxy]
          have E : sgnI (x - y) = cmpTo xs ys (t + 1) := by
            rw [HS.out]; unfold sgnI
            rcases (show x < y ∨ y < x from by omega) with h | h
            · rw [if_pos (by omega), if_pos h]
            · rw [if_neg (by omega), if_pos (by omega), if_neg (by omega), if_pos h]
          have HE := Lib.hid E
          clear hxy E
          go_wp2_with fail
          go_quiet (fail)
          go_wp2_with fail
          go_region_held3 (fun w' => w'.cell? ⟨g1, t, none⟩ = some (.int .i64 x) ∧ w'.cell? ⟨g2, t, none⟩ = some (.int .i64 y)) (first | exact ⟨q1, q2⟩ | assumption) (first | (go_at_call 36; refine (sign_any _ _).mono ?_; rintro e3 w3 ⟨rfl, rfl⟩))
          go_wp2_with fail
          go_ret
          exact ⟨ret_int (by rw [HC.out, ← HE.out, IntWalk.i64_in _ ⟨by omega, by omega⟩]), ⟨rfl, rfl, rfl, Nat.le_refl _, fun _ _ => rfl⟩⟩
  · have t0 : ((n : Int) != (m : Int)) = true := by simp; omega
    have E : sgnI ((n : Int) - m) = cmpB xs ys := by
      unfold cmpB sgnI
      rw [← HN.out, ← HM.out]
      rcases (show n < m ∨ m < n from by omega) with h | h
      · rw [if_pos (by omega), if_pos h]
      · rw [if_neg (by omega), if_pos (by omega), if_neg (by omega), if_pos h]
    have HE := Lib.hid E
    clear E hne h1 h2
    go_enter Tryd.func30, Tryd.ntmps30
    go_wp2_with (go_at_call 36; refine (sign_any _ _).mono ?_; rintro e3 w3 ⟨rfl, rfl⟩)
    go_ret
    exact ⟨ret_int HE.out, Below.refl _ _⟩
theorem compare_any (w : World) (b1 b2 : Nat) (e1 e2 : TypeId) (v1 v2 : Value) (xs ys : List Int) (hx : OkB xs) (hy : OkB ys) (h1 : w.ownsRow b1 e1 1 v1 xs.length (intCs xs)) (h2 : w.ownsRow b2 e2 1 v2 ys.length (intCs ys)) :
    Calls Tryd.prog 30 #[v1, v2] w fun e w' => e = .returned (.int .i64 (cmpB xs ys)) ∧ Below w.heap.size w w' :=
  compare_gen w b1 b2 e1 e2 v1 v2 xs ys hx.2.1 hy.2.1 (by have := hx.1; omega) (by have := hy.1; omega) h1 h2
end Go.Proofs.YtjnhfgacgobfcaaDoor
