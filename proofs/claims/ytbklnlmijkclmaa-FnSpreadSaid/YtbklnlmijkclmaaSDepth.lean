/- Contracts of spec.l20Step, spec.DepthOf, spec.DeepestKey and spec.ErrorBound. -/
import Derived.Test.YtbklnlmijkclmaaSRunPlan
import Derived.Test.YtbklnlmijkclmaaSpreadMath
namespace Go.Proofs.Ytbklnlmijkclmaa
open Go.RowKit Go.Joins
set_option linter.unusedVariables false
/-- The step that tunes a key. -/
def stepV (n : Nat) (key : Int) : Int := if 1 ≤ key ∧ key ≤ n then key - 1 else -1
theorem ret_intD {x y : Int} (h : x = y) : Ending.returned (.int .i64 x) = .returned (.int .i64 y) := by rw [h]
set_option maxRecDepth 100000 in
set_option maxHeartbeats 4000000 in
theorem step20_spec (key : Int) (w : World) (b : Nat) (e : TypeId) (v : Value) (xs : List Iv) (hp : PlOk xs) (h : w.ownsRow b e 4 v xs.length (ivCs xs)) :
    Calls Try.prog 52 #[v, .int .i64 key] w fun en w' => en = .returned (.int .i64 (stepV xs.length key)) ∧ w = w' := by
  have HP := Lib.hid hp
  have hn11 : xs.length ≤ 11 := hp.1
  obtain ⟨n, hn⟩ : ∃ n, n = xs.length := ⟨_, rfl⟩
  have HN := Lib.hid hn
  rw [← hn] at h hn11 ⊢
  have HO := Lib.hid h
  have hs : ∃ p c, v = .slice p n c := by
    rcases own4_shape h with ⟨q, q'⟩ | ⟨g, cap, q, _⟩
    · exact ⟨none, 0, by rw [q, q']⟩
    · exact ⟨_, _, q⟩
  obtain ⟨p, c, rfl⟩ := hs
  clear h hn hp
  go_enter Try.func52, Try.ntmps52
  go_wp2_with fail
  go_loopw [5] (fun i wr => ∃ k : Nat, k ≤ n ∧ i = .int .i64 (k : Int) ∧ Hid (∀ j : Nat, j < k → (j : Int) + 1 ≠ key) ∧ wr = w) (fun i _ => n - (intOf i).toNat)
  case atStart => exact ⟨0, Nat.zero_le _, by go_num, Lib.hid (fun j hj => by omega), rfl⟩
  case round =>
    obtain ⟨k, hk, rfl, HA, rfl⟩ := hrel
    by_cases hlt : k < n
    · have q3 : (k : Int) < n := by omega
      obtain ⟨gx, cx, hgx, _, lgx⟩ := own4_pos HO.out (by omega)
      simp only [Value.slice.injEq, true_and] at hgx
      obtain ⟨rfl, rfl⟩ := hgx
      have r1 := own_iv HO.out HN.out k hlt
      have r2 := (HP.out.2 k (by have := HN.out; omega)).1.2
      obtain ⟨_, x1, _, _⟩ := r1
      rw [r2] at x1
      clear r2 lgx
      by_cases hq : (k : Int) + 1 = key
      · have HQ := Lib.hid (show stepV n key = (k : Int) by unfold stepV; rw [if_pos ⟨by omega, by omega⟩]; omega)
        subst hq
        go_wp2_with fail
        go_ret
        exact ⟨ret_intD HQ.out.symm, rfl⟩
      · have HA2 : Hid (∀ j : Nat, j < k + 1 → (j : Int) + 1 ≠ key) := Lib.hid (fun j hj => (show j < k ∨ j = k from by omega).elim (HA.out j) (fun q => by rw [q]; exact hq))
        have e0 : ((k : Int) + 1 == key) = false := by simpa using hq
        clear hq
        go_wp2_with fail
        go_roundw
        case rel => exact ⟨k + 1, hlt, by go_num, HA2, by trivial⟩
        case measure => simp [intOf]; omega
    · obtain rfl : k = n := by omega
      have HQ := Lib.hid (show stepV k key = -1 by
        unfold stepV
        rw [if_neg]
        rintro ⟨q1, q2⟩
        exact HA.out (key - 1).toNat (by omega) (by omega))
      go_wp2_with fail
      go_ret
      exact ⟨ret_intD HQ.out.symm, rfl⟩
theorem depV_yes {xs : List Iv} {K : Nat} (hp : PlOk xs) (hK : K ≤ xs.length) : depV xs (K : Int) = (K : Int) := if_pos ⟨hp, by omega, by omega⟩
theorem depV_no {xs : List Iv} {key : Int} (h : ¬ DepOk xs key) : depV xs key = -1 := if_neg h
/-- A valid plan's row at a world that goes on. -/
def PlRow (xs : List Iv) (b : Nat) (e : TypeId) (v : Value) (w : World) : Prop := w.ownsRow b e 4 v xs.length (ivCs xs)
theorem plRow_below {xs : List Iv} {b : Nat} {e : TypeId} {v : Value} {w w' : World} (h : PlRow xs b e v w) (hb : Below w.heap.size w w') : PlRow xs b e v w' := own4_below h hb
set_option maxRecDepth 100000 in
set_option maxHeartbeats 4000000 in
theorem depth_valid (b : Nat) (e : TypeId) (v : Value) (xs : List Iv) (hp : PlOk xs) : ∀ (K : Nat), K ≤ xs.length → ∀ (w : World), PlRow xs b e v w →
    Calls Try.prog 22 #[v, .int .i64 (K : Int)] w fun en w' => en = .returned (.int .i64 (K : Int)) ∧ Below w.heap.size w w'
  | 0, hK, w, h => by
    have hn11 : xs.length ≤ 11 := hp.1
    have PK := Lib.hid (planOk_spec w b e v xs (by omega) h)
    rw [show planB xs = true from decide_eq_true hp] at PK
    clear h hp
    go_enter Try.func22, Try.ntmps22
    go_wp2_with fail
    refine PK.out.mono ?_
    rintro e1 w1 ⟨rfl, b1⟩
    go_wp2_with fail
    go_ret
    exact ⟨rfl, b1⟩
  | K + 1, hK, w, h => by
    have hn11 : xs.length ≤ 11 := hp.1
    have PK := Lib.hid (planOk_spec w b e v xs (by omega) h)
    rw [show planB xs = true from decide_eq_true hp] at PK
    have IH := Lib.hid (depth_valid b e v xs hp K (by omega))
    have HP := Lib.hid hp
    have HR := Lib.hid h
    obtain ⟨gx, cx, rfl, _, lgx⟩ := own4_pos h (by omega)
    obtain ⟨n, hn⟩ : ∃ n, n = xs.length := ⟨_, rfl⟩
    have HN := Lib.hid hn
    have r1 := own_iv h rfl K hK
    have r2 := (hp.2 K hK).1.1
    have SV := Lib.hid (fun (W : World) (q : PlRow xs b e (.slice (some ⟨gx, 0, none⟩) xs.length cx) W) => step20_spec ((K + 1 : Nat) : Int) W b e _ xs hp q)
    rw [show stepV xs.length ((K + 1 : Nat) : Int) = (K : Int) by unfold stepV; rw [if_pos ⟨by omega, by omega⟩]; omega] at SV
    rw [← hn] at PK IH HR SV hK hn11 ⊢
    obtain ⟨x0, _, _, _⟩ := r1
    rw [r2] at x0
    have X0 := Lib.hid x0
    have LG := Lib.hid lgx
    have e0 : ((((K + 1 : Nat) : Int)) == 0) = false := by simp; omega
    have k0 : 0 ≤ (K : Int) := by omega
    have k1 : (K : Int) < (n : Int) := by omega
    obtain ⟨KK, hKK⟩ : ∃ z : Int, z = ((K + 1 : Nat) : Int) := ⟨_, rfl⟩
    rw [← hKK] at SV e0 ⊢
    have HKK := Lib.hid (show KK = 1 + (K : Int) by rw [hKK]; push_cast; omega)
    clear h hp hn r2 x0 lgx hKK hK
    go_enter Try.func22, Try.ntmps22
    go_wp2_with fail
    refine PK.out.mono ?_
    rintro e1 w1 ⟨rfl, b1⟩
    have R1 := Lib.hid (plRow_below HR.out b1)
    have c0 := (b1.cell (p := ⟨gx, K * 4, none⟩) LG.out).trans X0.out
    have B1 := Lib.hid b1
    clear b1 HR X0
    go_wp2_with fail
    refine (SV.out _ R1.out).mono ?_
    rintro e1 w2 ⟨rfl, rfl⟩
    go_wp2_with fail
    refine (IH.out _ R1.out).mono ?_
    rintro e1 w3 ⟨rfl, b3⟩
    go_wp2_with fail
    go_ret
    exact ⟨ret_intD HKK.out.symm, B1.out.trans (b3.mono B1.out.size)⟩
set_option maxRecDepth 100000 in
set_option maxHeartbeats 4000000 in
theorem depth_spec (key : Int) (w : World) (b : Nat) (e : TypeId) (v : Value) (xs : List Iv) (hl : xs.length ≤ 2000000) (h : w.ownsRow b e 4 v xs.length (ivCs xs)) :
    Calls Try.prog 22 #[v, .int .i64 key] w fun en w' => en = .returned (.int .i64 (depV xs key)) ∧ Below w.heap.size w w' := by
  by_cases hp : PlOk xs
  · by_cases hk : 0 ≤ key ∧ key ≤ xs.length
    · obtain ⟨K, rfl⟩ : ∃ K : Nat, key = K := ⟨key.toNat, by omega⟩
      rw [depV_yes hp (by omega)]
      exact depth_valid b e v xs hp K (by omega) w h
    · have PK := Lib.hid (planOk_spec w b e v xs hl h)
      rw [show planB xs = true from decide_eq_true hp] at PK
      have HV := Lib.hid (depV_no (xs := xs) (key := key) (fun q => hk q.2))
      have SV := Lib.hid (fun (W : World) (q : Below w.heap.size w W) => step20_spec key W b e v xs hp (own4_below h q))
      rw [show stepV xs.length key = -1 from if_neg (fun q => hk ⟨by omega, q.2⟩)] at SV
      have e0 : (key == 0) = false := by simp; omega
      clear h hp hk hl
      go_enter Try.func22, Try.ntmps22
      go_wp2_with fail
      refine PK.out.mono ?_
      rintro e1 w1 ⟨rfl, b1⟩
      have B1 := Lib.hid b1
      clear b1
      go_wp2_with fail
      refine (SV.out _ B1.out).mono ?_
      rintro e1 w2 ⟨rfl, rfl⟩
      go_wp2_with fail
      go_ret
      exact ⟨ret_intD HV.out.symm, B1.out⟩
  · have PK := Lib.hid (planOk_spec w b e v xs hl h)
    rw [show planB xs = false from decide_eq_false hp] at PK
    have HV := Lib.hid (depV_no (xs := xs) (key := key) (fun q => hp q.1))
    clear h hp
    go_enter Try.func22, Try.ntmps22
    go_wp2_with fail
    refine PK.out.mono ?_
    rintro e1 w1 ⟨rfl, b1⟩
    go_wp2_with fail
    go_ret
    exact ⟨ret_intD HV.out.symm, b1⟩
/-- The deepest key below i. -/
def deepTo (n i : Nat) : Int := if i = 0 then -1 else ((min (i - 1) n : Nat) : Int)
theorem deepTo_in {n i : Nat} (h : i ≤ n) : deepTo n (i + 1) = (i : Int) := by unfold deepTo; rw [if_neg (by omega), show i + 1 - 1 = i from rfl, Nat.min_eq_left h]
theorem deepTo_out {n i : Nat} (h : ¬ i ≤ n) : deepTo n (i + 1) = deepTo n i := by
  unfold deepTo
  rw [if_neg (by omega), if_neg (by omega), Nat.min_eq_right (by omega), Nat.min_eq_right (by omega)]
set_option maxRecDepth 100000 in
set_option maxHeartbeats 4000000 in
theorem deepest_spec (w : World) (b : Nat) (e : TypeId) (v : Value) (xs : List Iv) (hl : xs.length ≤ 2000000) (h : w.ownsRow b e 4 v xs.length (ivCs xs)) :
    Calls Try.prog 33 #[v] w fun en w' => en = .returned (.int .i64 (deepV xs)) ∧ Below w.heap.size w w' := by
  have CD := Lib.hid (fun (key : Int) (W : World) (q : Below w.heap.size w W) => depth_spec key W b e v xs hl (own4_below h q))
  clear h
  by_cases hp : PlOk xs
  · have hn11 : xs.length ≤ 11 := hp.1
    have HV : Hid (deepV xs = deepTo xs.length 12) := Lib.hid (by unfold deepV deepTo; rw [if_pos hp, if_neg (by omega), Nat.min_eq_right (by omega)])
    have DY := Lib.hid (fun (K : Nat) (hK : K ≤ xs.length) => depV_yes hp hK)
    have DN := Lib.hid (fun (key : Int) (hK : ¬ (0 ≤ key ∧ key ≤ xs.length)) => depV_no (xs := xs) (key := key) (fun q => hK q.2))
    obtain ⟨n, hn⟩ : ∃ n, n = xs.length := ⟨_, rfl⟩
    rw [← hn] at HV DY DN hn11
    clear hl hp hn
    go_enter Try.func33, Try.ntmps33
    go_wp2_with fail
    go_loopw [3, 4] (fun o i wr => ∃ k : Nat, k ≤ 12 ∧ i = .int .i64 (k : Int) ∧ o = .int .i64 (deepTo n k) ∧ Hid (Below w.heap.size w wr)) (fun _ i _ => 12 - (intOf i).toNat)
    case atStart => exact ⟨0, by omega, by go_num, rfl, Lib.hid (Below.refl _ _)⟩
    case round =>
      obtain ⟨k, hk, rfl, rfl, HB⟩ := hrel
      by_cases hlt : k < 12
      · have q3 : (k : Int) < 12 := by omega
        by_cases hkn : k ≤ n
        · have CK := Lib.hid (CD.out (k : Int) _ HB.out)
          rw [DY.out k hkn] at CK
          have HN := Lib.hid (deepTo_in hkn)
          have k0 : 0 ≤ (k : Int) := by omega
          rcases Nat.eq_zero_or_pos k with hz | hz
          · subst hz
            rw [show deepTo n 0 = -1 from rfl]
            go_wp2_with fail
            refine CK.out.mono ?_
            rintro e1 w1 ⟨rfl, b1⟩
            have HB1 := Lib.hid (HB.out.trans (b1.mono HB.out.size))
            clear b1 HB CK
            go_wp2_with fail
            go_roundw
            case rel => exact ⟨0 + 1, by omega, by go_num, by rw [HN.out]; rfl, HB1⟩
            case measure => simp [intOf]
          · obtain ⟨m, rfl⟩ : ∃ m, k = m + 1 := ⟨k - 1, by omega⟩
            rw [deepTo_in (n := n) (i := m) (by omega)]
            have CM := Lib.hid (fun (W : World) (q : Below w.heap.size w W) => CD.out (m : Int) W q)
            rw [DY.out m (by omega)] at CM
            have m1 : ¬ (m : Int) < 0 := by omega
            go_wp2_with fail
            refine CK.out.mono ?_
            rintro e1 w1 ⟨rfl, b1⟩
            have HB1 := Lib.hid (HB.out.trans (b1.mono HB.out.size))
            clear b1 HB CK
            go_wp2_with fail
            refine (CM.out _ HB1.out).mono ?_
            rintro e1 w2 ⟨rfl, b2⟩
            have HB2 := Lib.hid (HB1.out.trans (b2.mono HB1.out.size))
            clear b2 HB1 CM
            have m2 : (m : Int) < (((m + 1 : Nat)) : Int) := by omega
            go_wp2_with fail
            go_roundw
            case rel => exact ⟨m + 1 + 1, by omega, by go_num, by rw [HN.out]; push_cast; rfl, HB2⟩
            case measure => simp [intOf]; omega
        · have CK := Lib.hid (CD.out (k : Int) _ HB.out)
          rw [DN.out (k : Int) (by omega)] at CK
          have HN := Lib.hid (deepTo_out hkn)
          obtain ⟨D, hD⟩ : ∃ D, D = deepTo n k := ⟨_, rfl⟩
          rw [← hD] at HN ⊢
          clear hD
          go_wp2_with fail
          refine CK.out.mono ?_
          rintro e1 w1 ⟨rfl, b1⟩
          have HB1 := Lib.hid (HB.out.trans (b1.mono HB.out.size))
          clear b1 HB CK
          go_wp2_with fail
          go_roundw
          case rel => exact ⟨k + 1, hlt, by go_num, by rw [HN.out], HB1⟩
          case measure => simp [intOf]; omega
      · obtain rfl : k = 12 := by omega
        go_wp2_with fail
        go_ret
        exact ⟨ret_intD HV.out.symm, HB.out⟩
  · have HV : Hid (deepV xs = -1) := Lib.hid (if_neg hp)
    have DN := Lib.hid (fun (key : Int) => depV_no (xs := xs) (key := key) (fun q => hp q.1))
    clear hl hp
    go_enter Try.func33, Try.ntmps33
    go_wp2_with fail
    go_loopw [3, 4] (fun o i wr => ∃ k : Nat, k ≤ 12 ∧ i = .int .i64 (k : Int) ∧ o = .int .i64 (-1) ∧ Hid (Below w.heap.size w wr)) (fun _ i _ => 12 - (intOf i).toNat)
    case atStart => exact ⟨0, by omega, by go_num, rfl, Lib.hid (Below.refl _ _)⟩
    case round =>
      obtain ⟨k, hk, rfl, rfl, HB⟩ := hrel
      by_cases hlt : k < 12
      · have q3 : (k : Int) < 12 := by omega
        have CK := Lib.hid (CD.out (k : Int) _ HB.out)
        rw [DN.out (k : Int)] at CK
        go_wp2_with fail
        refine CK.out.mono ?_
        rintro e1 w1 ⟨rfl, b1⟩
        have HB1 := Lib.hid (HB.out.trans (b1.mono HB.out.size))
        clear b1 HB CK
        go_wp2_with fail
        go_roundw
        case rel => exact ⟨k + 1, hlt, by go_num, rfl, HB1⟩
        case measure => simp [intOf]; omega
      · obtain rfl : k = 12 := by omega
        go_wp2_with fail
        go_ret
        exact ⟨ret_intD HV.out.symm, HB.out⟩
end Go.Proofs.Ytbklnlmijkclmaa
