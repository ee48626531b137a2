/- Contract of spec.CompareBig. -/
import Derived.Test.YtjheechgkicklaaCmpBig
namespace Go.Proofs.Ytjheechgkicklaa
open Go.RowKit
set_option linter.unusedVariables false
set_option maxHeartbeats 2000000 in
theorem scompare_ok (w : World) (b1 b2 : Nat) (e1 e2 : TypeId) (v1 v2 : Value) (xs ys : List Int) (hx : OkB xs) (hy : OkB ys) (h1 : w.ownsRow b1 e1 1 v1 xs.length (intCs xs)) (h2 : w.ownsRow b2 e2 1 v2 ys.length (intCs ys)) :
    Calls Try.prog 26 #[v1, v2] w fun e w' => e = .returned (.int .i64 (cmpB xs ys)) ∧ Below w.heap.size w w' := by
  have C1 := sok_any w b1 e1 v1 xs (by have := hx.1; omega) h1
  have C2 := sok_any w b2 e2 v2 ys (by have := hy.1; omega) h2
  rw [decide_eq_true hx] at C1
  rw [decide_eq_true hy] at C2
  obtain ⟨p1, c1, rfl⟩ := slice_cmp h1
  obtain ⟨p2, c2, rfl⟩ := slice_cmp h2
  have HX := Lib.hid hx.2.1
  have HY := Lib.hid hy.2.1
  have hl1 := hx.1
  have hl2 := hy.1
  obtain ⟨n, hn⟩ : ∃ n, n = xs.length := ⟨_, rfl⟩
  obtain ⟨m, hm⟩ : ∃ m, m = ys.length := ⟨_, rfl⟩
  rw [← hn] at h1 hl1 C1 ⊢
  rw [← hm] at h2 hl2 C2 ⊢
  have HN := Lib.hid hn
  have HM := Lib.hid hm
  have HH1 := Lib.hid C1
  have HH2 := Lib.hid C2
  clear hn hm hx hy C1 C2
  by_cases hne : n = m
  · subst hne
    have HC := Lib.hid (show cmpB xs ys = cmpTo xs ys n from by unfold cmpB; rw [← HN.out, ← HM.out, if_neg (by omega), if_neg (by omega)])
    have t0 : ((n : Int) != (n : Int)) = false := by simp
    go_enter Try.func26, Try.ntmps26
    go_wp2_with fail
    refine HH1.out.mono ?_
    rintro e3 w3 ⟨rfl, rfl⟩
    go_wp2_with fail
    refine HH2.out.mono ?_
    rintro e3 w3 ⟨rfl, rfl⟩
    go_wp2
    go_loopw [5] (fun i wr => ∃ j d : Nat, j ≤ n ∧ i = .int .i64 ((j : Int) - 1) ∧ cmpB xs ys = cmpTo xs ys j ∧ wr = w.drewN d) (fun i _ => (intOf i + 1).toNat)
    case atStart => exact ⟨n, 0, Nat.le_refl _, rfl, HC.out, rfl⟩
    case round =>
      obtain ⟨j, d, hj, rfl, hc, rfl⟩ := hrel
      have HC := Lib.hid hc
      clear hc
      rcases j with _ | t
      · go_wp2
        go_ret
        exact ⟨ret_int (by rw [HC.out]; rfl), ⟨rfl, rfl, rfl, Nat.le_refl _, fun _ _ => rfl⟩⟩
      · rw [show ((t + 1 : Nat) : Int) - 1 = (t : Int) from by omega]
        obtain ⟨g1, k1, hv1, _, _⟩ := own_pos h1 (by omega)
        obtain ⟨g2, k2, hv2, _, _⟩ := own_pos h2 (by omega)
        cases hv1
        cases hv2
        have q1 := own_icell h1 t (by omega)
        have q2 := own_icell h2 t (by omega)
        have q3 : (t : Int) < n := by omega
        have x0 := HX.out t (by have := HN.out; omega)
        have y0 := HY.out t (by have := HM.out; omega)
        obtain ⟨x, hxk⟩ : ∃ x, x = xs.getD t 0 := ⟨_, rfl⟩
        obtain ⟨y, hyk⟩ : ∃ y, y = ys.getD t 0 := ⟨_, rfl⟩
        have HS := Lib.hid (show cmpTo xs ys (t + 1) = (if x < y then -1 else if y < x then 1 else cmpTo xs ys t) from by rw [hxk, hyk]; rfl)
        rw [← hxk] at q1 x0
        rw [← hyk] at q2 y0
        clear hxk hyk
        obtain ⟨xa, xb⟩ := x0
        obtain ⟨ya, yb⟩ := y0
        clear h1 h2
        by_cases hxy : x = y
        · have u1 : ¬ x < y := by omega
          have u2 : ¬ y < x := by omega
          have E : cmpTo xs ys (t + 1) = cmpTo xs ys t := by rw [HS.out, if_neg (by omega), if_neg (by omega)]
          have HE := Lib.hid E
          clear hxy E
          go_wp2_with fail
          go_quiet (fail)
          go_wp2_with fail
          go_quiet (fail)
          go_wp2_with fail
          go_roundw
          case rel => exact ⟨t, _, by omega, by go_num, HC.out.trans HE.out, rfl⟩
          case measure => first | (simp [intOf]; done) | (simp [intOf]; omega)
        · rcases (show x < y ∨ y < x from by omega) with hxy' | hxy'
          · have HE := Lib.hid (show cmpTo xs ys (t + 1) = -1 from by rw [HS.out, if_pos hxy'])
            clear hxy
            go_wp2_with fail
            go_quiet (fail)
            go_wp2_with fail
            go_ret
            exact ⟨ret_int (by rw [HC.out, HE.out]), ⟨rfl, rfl, rfl, Nat.le_refl _, fun _ _ => rfl⟩⟩
          · have HE := Lib.hid (show cmpTo xs ys (t + 1) = 1 from by rw [HS.out, if_neg (by omega), if_pos hxy'])
            have u1 : ¬ x < y := by omega
            clear hxy
            go_wp2_with fail
            go_quiet (fail)
            go_wp2_with fail
            go_quiet (fail)
            go_wp2_with fail
            go_ret
            exact ⟨ret_int (by rw [HC.out, HE.out]), ⟨rfl, rfl, rfl, Nat.le_refl _, fun _ _ => rfl⟩⟩
  · have t0 : ((n : Int) != (m : Int)) = true := by simp; omega
    rcases (show n < m ∨ m < n from by omega) with hnm | hnm
    · have HE := Lib.hid (show cmpB xs ys = -1 from by unfold cmpB; rw [← HN.out, ← HM.out, if_pos hnm])
      have u1 : (n : Int) < m := by omega
      clear hne h1 h2
      go_enter Try.func26, Try.ntmps26
      go_wp2_with fail
      refine HH1.out.mono ?_
      rintro e3 w3 ⟨rfl, rfl⟩
      go_wp2_with fail
      refine HH2.out.mono ?_
      rintro e3 w3 ⟨rfl, rfl⟩
      go_wp2_with fail
      go_ret
      exact ⟨ret_int HE.out.symm, Below.refl _ _⟩
    · have HE := Lib.hid (show cmpB xs ys = 1 from by unfold cmpB; rw [← HN.out, ← HM.out, if_neg (by omega), if_pos hnm])
      have u1 : ¬ (n : Int) < m := by omega
      clear hne h1 h2
      go_enter Try.func26, Try.ntmps26
      go_wp2_with fail
      refine HH1.out.mono ?_
      rintro e3 w3 ⟨rfl, rfl⟩
      go_wp2_with fail
      refine HH2.out.mono ?_
      rintro e3 w3 ⟨rfl, rfl⟩
      go_wp2_with fail
      go_ret
      exact ⟨ret_int HE.out.symm, Below.refl _ _⟩
set_option maxHeartbeats 1000000 in
theorem scompareBig_any (w : World) (b1 b2 : Nat) (e1 e2 : TypeId) (v1 v2 : Value) (xs ys : List Int) (hx : xs.length ≤ 2000000) (hy : ys.length ≤ 2000000) (h1 : w.ownsRow b1 e1 1 v1 xs.length (intCs xs)) (h2 : w.ownsRow b2 e2 1 v2 ys.length (intCs ys)) :
    Calls Try.prog 26 #[v1, v2] w fun e w' => e = .returned (.int .i64 (CmpR xs ys)) ∧ Below w.heap.size w w' := by
  have C1 := sok_any w b1 e1 v1 xs hx h1
  have C2 := sok_any w b2 e2 v2 ys hy h2
  by_cases hok1 : OkB xs
  · rw [decide_eq_true hok1] at C1
    by_cases hok2 : OkB ys
    · rw [decide_eq_true hok2] at C2
      rw [cmpR_yes hok1 hok2]
      exact scompare_ok w b1 b2 e1 e2 v1 v2 xs ys hok1 hok2 h1 h2
    · rw [decide_eq_false hok2] at C2
      have Y := Lib.hid (cmpR_no (xs := xs) (ys := ys) (fun h => hok2 h.2))
      have HH1 := Lib.hid C1
      have HH2 := Lib.hid C2
      clear hok1 hok2 h1 h2 C1 C2
      go_enter Try.func26, Try.ntmps26
      go_wp2_with fail
      refine HH1.out.mono ?_
      rintro e3 w3 ⟨rfl, rfl⟩
      go_wp2_with fail
      refine HH2.out.mono ?_
      rintro e3 w3 ⟨rfl, rfl⟩
      go_wp2_with fail
      go_ret
      exact ⟨ret_int Y.out.symm, Below.refl _ _⟩
  · rw [decide_eq_false hok1] at C1
    have Y := Lib.hid (cmpR_no (xs := xs) (ys := ys) (fun h => hok1 h.1))
    have HH1 := Lib.hid C1
    clear hok1 h1 h2 C1 C2
    go_enter Try.func26, Try.ntmps26
    go_wp2_with fail
    refine HH1.out.mono ?_
    rintro e3 w3 ⟨rfl, rfl⟩
    go_wp2_with fail
    go_ret
    exact ⟨ret_int Y.out.symm, Below.refl _ _⟩
end Go.Proofs.Ytjheechgkicklaa
