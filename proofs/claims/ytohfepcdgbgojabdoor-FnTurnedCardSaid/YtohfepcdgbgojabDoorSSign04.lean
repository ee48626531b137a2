/- Contract of spec.l04Times: a large number, multiplied by a power in place. -/
import Derived.Test.YtohfepcdgbgojabDoorBigWalks
import Derived.Test.YtohfepcdgbgojabDoorSignImpl
namespace Go.Proofs.YtohfepcdgbgojabDoor
open Go.RowKit
set_option linter.unusedVariables false
theorem intCs_set (out : List Int) (xs : List Int) (j : Nat) (y : Int) (h : j < xs.length) (ho : out.length = j) : (intCs (out ++ xs.drop j)).set j (.int .i64 y) = intCs ((out ++ [y]) ++ xs.drop (j + 1)) := by
  have e1 : xs.drop j = xs[j] :: xs.drop (j + 1) := List.drop_eq_getElem_cons h
  rw [e1]
  unfold intCs
  have e3 : j - (List.map (Value.int .i64) out).length = 0 := by simp; omega
  rw [List.map_append, List.set_append_right _ _ (by simp; omega), e3, List.map_cons, List.set_cons_zero, List.map_append, List.map_append, List.map_cons, List.map_nil, List.append_assoc, List.singleton_append]
theorem getD_app (out xs : List Int) (j : Nat) (h : j < xs.length) (ho : out.length = j) : (out ++ xs.drop j).getD j 0 = xs.getD j 0 := by
  subst ho
  rw [List.getD_eq_getElem?_getD, List.getD_eq_getElem?_getD, List.getElem?_append_right (Nat.le_refl _), Nat.sub_self, List.getElem?_drop, Nat.add_zero]
theorem ofB_ne (n : Nat) (h : 1 ≤ n) : 0 < (ofB n).length := by rw [ofB_pos n (by omega)]; simp
/-- The groups, multiplied once. -/
theorem step_carry {N V : Nat} {out : List Int} {c : Int} (hN : 1 ≤ N) (hs : N ≤ 5) (h : GTo (N : Int) (ofB V) out (ofB V).length c) (hc : 0 < c) : out ++ [c] = ofB (V * N) := by
  rw [← mulG_times N V hN, ← gTo_end h, ofB_small _ (by have := h.2.2.1; omega) (by omega)]
  congr 2
  omega
theorem step_none {N V : Nat} {out : List Int} {c : Int} (hN : 1 ≤ N) (h : GTo (N : Int) (ofB V) out (ofB V).length c) (hc : ¬ 0 < c) : out = ofB (V * N) := by
  rw [← mulG_times N V hN, ← gTo_end h, show c.toNat = 0 from by omega, ofB_zero, List.append_nil]
set_option maxRecDepth 100000 in
set_option maxHeartbeats 2000000 in
theorem stimes04_any (w : World) (base : Nat) (v : Value) (V B : Nat) (b E : Int) (hb : b = (B : Int)) (hV : 1 ≤ V) (hB1 : 2 ≤ B) (hB2 : B ≤ 5) (hE1 : 0 ≤ E) (hE2 : E ≤ 20000) (hl : ∀ k, k ≤ E.toNat → (ofB (V * B ^ k)).length ≤ 1000000) (hbase : base ≤ w.heap.size) (h : w.ownsRow base 3 1 v (ofB V).length (intCs (ofB V))) :
    Calls Tryd.prog 69 #[v, .int .i64 b, .int .i64 E] w fun e w' => ∃ v', e = .returned v' ∧ w'.ownsRow base 3 1 v' (ofB (V * B ^ E.toNat)).length (intCs (ofB (V * B ^ E.toNat))) ∧ Below base w w' := by
  subst hb
  obtain ⟨E, rfl⟩ := Int.eq_ofNat_of_zero_le hE1
  rw [Int.toNat_natCast] at hl ⊢
  obtain ⟨i0, hi, hz0, hz1, hz2⟩ := info_parts infoInt
  have HL := Lib.hid hl
  have H0 := Lib.hid (own_eq h (show ofB V = ofB (V * B ^ 0) from by rw [Nat.pow_zero, Nat.mul_one]) (by rw [Nat.pow_zero, Nat.mul_one]))
  clear hl h
  go_enter Tryd.func69, Tryd.ntmps69
  go_wp2
  go_loopw [0, 7, 8, 9, 10] (fun v x _ _ _ wr => ∃ (k : Nat), x = .int .i64 (k : Int) ∧ k ≤ E ∧ wr.ownsRow base 3 1 v (ofB (V * B ^ k)).length (intCs (ofB (V * B ^ k))) ∧ Below base w wr) (fun _ x _ _ _ _ => E - (intOf x).toNat)
  case atStart => exact ⟨0, rfl, Nat.zero_le _, H0.out, Below.refl _ _⟩
  case round =>
    obtain ⟨k, rfl, hk, hown, hbl⟩ := hrel
    clear H0
    by_cases hlt : k < E
    · have q3 : (k : Int) < E := by omega
      obtain ⟨P, hP⟩ : ∃ P, P = V * B ^ k := ⟨_, rfl⟩
      have hP1 : 1 ≤ P := by rw [hP]; exact Nat.mul_le_mul hV (pow_ge1 B k (by omega))
      have NX := Lib.hid (show P * B = V * B ^ (k + 1) from by rw [hP, Nat.mul_assoc, ← Nat.pow_succ])
      have hn1 : (ofB P).length ≤ 1000000 := by rw [hP]; exact HL.out k hk
      have hn2 : (ofB (P * B)).length ≤ 1000000 := by rw [NX.out]; exact HL.out (k + 1) hlt
      rw [← hP] at hown
      clear hP
      obtain ⟨n, hn⟩ : ∃ n, n = (ofB P).length := ⟨_, rfl⟩
      have hn0 : 0 < n := by rw [hn]; exact ofB_ne P hP1
      rw [← hn] at hown hn1
      have HN := Lib.hid hn
      have HX := Lib.hid (ofB_bd P)
      clear hn
      obtain ⟨g, cap, rfl, hg, hgl⟩ := own_pos hown hn0
      have HO := Lib.hid hown
      have HB := Lib.hid hbl
      have HN2 := Lib.hid hn2
      clear hown hbl hn2
      obtain ⟨wo, rfl⟩ : ∃ wo : World, wo = wr := ⟨_, rfl⟩
      go_wp2_with fail
      go_loopw [8, 9, 10] (fun c i _ wr => ∃ (j : Nat) (out : List Int) (y : Int), j ≤ n ∧ i = .int .i64 (j : Int) ∧ c = .int .i64 y ∧ GTo (B : Int) (ofB P) out j y ∧ wr.ownsRow base 3 1 (.slice (some ⟨g, 0, none⟩) n cap) n (intCs (out ++ (ofB P).drop j)) ∧ Below base w wr) (fun _ i _ _ => n - (intOf i).toNat)
      case atStart => exact ⟨0, [], 0, Nat.zero_le _, rfl, rfl, gTo_zero _ _ (by omega), by simpa using HO.out, HB.out⟩
      case round =>
        obtain ⟨j, out, c, hj, rfl, rfl, hto, hown, hb⟩ := hrel
        have c0 := hto.2.1
        have c1 := hto.2.2.1
        have HTO := Lib.hid hto
        have hoj : out.length = j := hto.1
        clear hto
        by_cases hlj : j < n
        · have q4 : (j : Int) < n := by omega
          have hjl : j < (ofB P).length := by have := HN.out; omega
          have q1 := own_icell hown j hlj
          rw [getD_app out (ofB P) j hjl hoj] at q1
          have q2 := hown.frozenAt j
          have hx0 := HX.out j hjl
          obtain ⟨x, hxk⟩ : ∃ x, x = (ofB P).getD j 0 := ⟨_, rfl⟩
          rw [← hxk] at q1 hx0
          obtain ⟨y, hy⟩ : ∃ y, x * (B : Int) = y := ⟨_, rfl⟩
          have y0 : 0 ≤ y := by rw [← hy]; exact Int.mul_nonneg hx0.1 (by omega)
          have y1 : y ≤ 9999 * (B : Int) := by rw [← hy]; exact Int.mul_le_mul_of_nonneg_right hx0.2 (by omega)
          have STEP := Lib.hid (gTo_step HTO.out hjl hxk hy y0 y1)
          have R1 := (hown.stored j (.int .i64 ((y + c) % 10000))).1
          rw [intCs_set out (ofB P) j _ hjl hoj] at R1
          have R2 : Below base w (wr.setCell ⟨g, j, none⟩ (.int .i64 ((y + c) % 10000))) := hb.setCell (p := ⟨g, j, none⟩) hg _
          have HR1 := Lib.hid R1
          have HR2 := Lib.hid R2
          clear hxk hx0 hown hb hjl hoj R1 R2
          go_wp2
          go_roundw
          case rel => exact ⟨j + 1, _, _, by omega, by go_num, rfl, STEP.out, HR1.out, HR2.out⟩
          case measure => simp [intOf]; omega
        · have q4 : ¬ (j : Int) < n := by omega
          obtain rfl : j = n := by omega
          have hto : GTo (B : Int) (ofB P) out (ofB P).length c := by have := HTO.out; rwa [HN.out] at this
          have hown' : wr.ownsRow base 3 1 (.slice (some ⟨g, 0, none⟩) j cap) j (intCs out) := by
            have := hown
            rw [List.drop_of_length_le (by have := HN.out; omega), List.append_nil] at this
            exact this
          clear hown
          by_cases hc : 0 < c
          · have E1 := Lib.hid (step_carry (by omega) hB2 hto hc)
            clear hto HTO
            go_wp2_with (at_builtin; refine wpList_append_lies _ rfl (.tmp 39) (.tmp 41) 24 rfl base 3 i0 (.int .i64 0) 1 8 Tryd.underlying24 hi hz0 hz1 hz2 rfl (by decide) _ j _ rfl (hown'.alloc _) ⟨wr.heap.size, 0, none⟩ 1 1 _ rfl rfl (World.news_of_block (heap_alloc_new wr _)) (by simp [Value.oneCell']) (by decide) (by unfold maxLen; omega) (by omega) (by have := hb.size; simp; omega) _ rfl ?_; intro g1 cap1 w1 hown2 hgrow hat hgt)
            have R1 := isnoc hoj.symm hown2
            have R2 : Below base w w1 := (hb.alloc (Nat.le_trans hbase hb.size) _).grown hgrow (by have := hb.size; simp; omega) (fun i hi => (hown'.lt i hi).1)
            have R3 := own_eq R1 (E1.out.trans (by rw [NX.out])) (by rw [E1.out, NX.out])
            clear hown2 hgrow hat hgt hown' hb R1
            go_wp2
            go_roundw
            case rel => exact ⟨k + 1, by go_num, hlt, R3, R2⟩
            case measure => simp [intOf]; omega
          · have E1 := step_none (by omega) hto hc
            have R3 := own_eq hown' (E1.trans (by rw [NX.out])) (by rw [← NX.out, ← E1]; exact hoj.symm)
            clear hto HTO E1 hown'
            go_wp2
            go_roundw
            case rel => exact ⟨k + 1, by go_num, hlt, R3, hb⟩
            case measure => simp [intOf]; omega
    · have q3 : ¬ (k : Int) < E := by omega
      obtain rfl : k = E := by omega
      have HO := Lib.hid hown
      clear hown
      go_wp2_with fail
      go_ret
      exact ⟨_, rfl, HO.out, hbl⟩
end Go.Proofs.YtohfepcdgbgojabDoor
/- Contracts of spec.l04Compare and spec.l04Sign. -/
namespace Go.Proofs.YtohfepcdgbgojabDoor
open Go.RowKit
set_option linter.unusedVariables false
set_option maxRecDepth 100000 in
set_option maxHeartbeats 2000000 in
theorem scompare04 (w : World) (b1 b2 : Nat) (e1 e2 : TypeId) (v1 v2 : Value) (xs ys : List Int) (hl1 : xs.length ≤ 2000000) (hl2 : ys.length ≤ 2000000) (h1 : w.ownsRow b1 e1 1 v1 xs.length (intCs xs)) (h2 : w.ownsRow b2 e2 1 v2 ys.length (intCs ys)) :
    Calls Tryd.prog 70 #[v1, v2] w fun e w' => e = .returned (.int .i64 (cmpB xs ys)) ∧ Below w.heap.size w w' := by
  obtain ⟨p1, c1, rfl⟩ := slice_cmp h1
  obtain ⟨p2, c2, rfl⟩ := slice_cmp h2
  obtain ⟨n, hn⟩ : ∃ n, n = xs.length := ⟨_, rfl⟩
  obtain ⟨m, hm⟩ : ∃ m, m = ys.length := ⟨_, rfl⟩
  rw [← hn] at h1 hl1 ⊢
  rw [← hm] at h2 hl2 ⊢
  have HN := Lib.hid hn
  have HM := Lib.hid hm
  clear hn hm
  by_cases hne : n = m
  · subst hne
    have HC := Lib.hid (show cmpB xs ys = cmpTo xs ys n from by unfold cmpB; rw [← HN.out, ← HM.out, if_neg (by omega), if_neg (by omega)])
    have t0 : ((n : Int) != (n : Int)) = false := by simp
    go_enter Tryd.func70, Tryd.ntmps70
    go_wp2
    go_loopw [5] (fun i wr => ∃ j d : Nat, j ≤ n ∧ i = .int .i64 ((j : Int) - 1) ∧ cmpB xs ys = cmpTo xs ys j ∧ wr = w.drewN d) (fun i _ => (intOf i + 1).toNat)
    case atStart => exact ⟨n, 0, Nat.le_refl _, rfl, HC.out, rfl⟩
    case round =>
      obtain ⟨j, d, hj, rfl, hc, rfl⟩ := hrel
      have HC := Lib.hid hc
      clear hc
      rcases j with _ | t
      · go_wp2
        go_ret
        exact ⟨ret_int (by rw [HC.out]; rfl), ⟨rfl, rfl, rfl, Nat.le_refl _, fun _ _ => rfl⟩⟩
      · rw [show ((t + 1 : Nat) : Int) - 1 = (t : Int) from by omega]
        obtain ⟨g1, k1, hv1, _, _⟩ := own_pos h1 (by omega)
        obtain ⟨g2, k2, hv2, _, _⟩ := own_pos h2 (by omega)
        cases hv1
        cases hv2
        have q1 := own_icell h1 t (by omega)
        have q2 := own_icell h2 t (by omega)
        have q3 : (t : Int) < n := by omega
        obtain ⟨x, hxk⟩ : ∃ x, x = xs.getD t 0 := ⟨_, rfl⟩
        obtain ⟨y, hyk⟩ : ∃ y, y = ys.getD t 0 := ⟨_, rfl⟩
        have HS := Lib.hid (show cmpTo xs ys (t + 1) = (if x < y then -1 else if y < x then 1 else cmpTo xs ys t) from by rw [hxk, hyk]; rfl)
        rw [← hxk] at q1
        rw [← hyk] at q2
        clear hxk hyk
        clear h1 h2
        by_cases hxy : x = y
        · have t1 : (x != y) = false := by simp [hxy]
          have E : cmpTo xs ys (t + 1) = cmpTo xs ys t := by rw [HS.out, if_neg (by omega), if_neg (by omega)]
          have HE := Lib.hid E
          clear hxy E
          go_wp2_with fail
          go_quiet (fail)
          go_wp2_with fail
          go_roundw
          case rel => exact ⟨t, _, by omega, by go_num, HC.out.trans HE.out, rfl⟩
          case measure => first | (simp [intOf]; done) | (simp [intOf]; omega)
        · have t1 : (x != y) = true := by simp [hxy]
          rcases (show x < y ∨ y < x from by omega) with hxy' | hxy'
          · have HE := Lib.hid (show cmpTo xs ys (t + 1) = -1 from by rw [HS.out, if_pos hxy'])
            clear hxy
            go_wp2_with fail
            go_quiet (fail)
            go_wp2_with fail
            go_quiet (fail)
            go_wp2_with fail
            go_ret
            exact ⟨ret_int (by rw [HC.out, HE.out]), ⟨rfl, rfl, rfl, Nat.le_refl _, fun _ _ => rfl⟩⟩
          · have HE := Lib.hid (show cmpTo xs ys (t + 1) = 1 from by rw [HS.out, if_neg (by omega), if_pos hxy'])
            have u1 : ¬ x < y := by omega
            clear hxy
            go_wp2_with fail
            go_quiet (fail)
            go_wp2_with fail
            go_quiet (fail)
            go_wp2_with fail
            go_ret
            exact ⟨ret_int (by rw [HC.out, HE.out]), ⟨rfl, rfl, rfl, Nat.le_refl _, fun _ _ => rfl⟩⟩
  · have t0 : ((n : Int) != (m : Int)) = true := by simp; omega
    rcases (show n < m ∨ m < n from by omega) with hnm | hnm
    · have HE := Lib.hid (show cmpB xs ys = -1 from by unfold cmpB; rw [← HN.out, ← HM.out, if_pos hnm])
      have u1 : (n : Int) < m := by omega
      clear hne h1 h2
      go_enter Tryd.func70, Tryd.ntmps70
      go_wp2_with fail
      go_ret
      exact ⟨ret_int HE.out.symm, Below.refl _ _⟩
    · have HE := Lib.hid (show cmpB xs ys = 1 from by unfold cmpB; rw [← HN.out, ← HM.out, if_neg (by omega), if_pos hnm])
      have u1 : ¬ (n : Int) < m := by omega
      clear hne h1 h2
      go_enter Tryd.func70, Tryd.ntmps70
      go_wp2_with fail
      go_ret
      exact ⟨ret_int HE.out.symm, Below.refl _ _⟩
/-- max(a, 0). -/
def mx (a : Int) : Int := max a 0
theorem mx_run (ats : Array TypeId) (ty : TypeId) (a : Int) : Builtin.max_ ats ty #[.int .i64 a, .int .i64 0] = pure (.int .i64 (mx a)) := by
  have e : mx a = if (0 : Int) > a then 0 else a := by unfold mx; split <;> omega
  rw [e]
  simp [Builtin.max_, Builtin.max2]
theorem mx_bd {a : Int} (h : a ≤ 10000) : 0 ≤ mx a ∧ mx a ≤ 20000 := by unfold mx; omega
theorem mx_nat (a : Int) : (mx a).toNat = a.toNat := by unfold mx; omega
theorem pw2_len {x : Int} (h : x ≤ 10000) : ∀ k, k ≤ (mx x).toNat → (ofB (1 * 2 ^ k)).length ≤ 1000000 := fun k hk => by
  have := mx_bd h; have := pw_groups k 0 0; rw [pw2]; omega
theorem pw3_len {x y : Int} (h : x ≤ 10000) (h' : y ≤ 10000) : ∀ k, k ≤ (mx y).toNat → (ofB (pw x.toNat 0 0 * 3 ^ k)).length ≤ 1000000 := fun k hk => by
  have := mx_bd h'; have := pw_groups x.toNat k 0; rw [pw3]; omega
theorem pw5_len {x y z : Int} (h : x ≤ 10000) (h' : y ≤ 10000) (h'' : z ≤ 10000) : ∀ k, k ≤ (mx z).toNat → (ofB (pw x.toNat y.toNat 0 * 5 ^ k)).length ≤ 1000000 := fun k hk => by
  have := mx_bd h''; have := pw_groups x.toNat y.toNat k; rw [pw5]; omega
theorem quot_one (x : Int) : x.tdiv 1 = x := Int.tdiv_one x
set_option maxRecDepth 100000 in
set_option maxHeartbeats 2000000 in
/-- Behind the division: both products, compared. -/
theorem sign04_walk (w : World) (t h f : Int) (t1 : -10000 ≤ t) (t2 : t ≤ 10000) (h1 : -10000 ≤ h) (h2 : h ≤ 10000) (f1 : -10000 ≤ f) (f2 : f ≤ 10000) :
    Calls Tryd.prog 42 #[.int .i64 t, .int .i64 h, .int .i64 f] w fun e w' => e = .returned (.int .i64 (sgnP t h f)) ∧ Below w.heap.size w w' := by
  have m1 := gcdI_nonneg t h
  have m2 := gcdI_le t h 10000 t1 t2 h1 h2
  have m3 := gcdI_nonneg (gcdI t h) f
  have m4 := gcdI_le (gcdI t h) f 10000 (by omega) m2 f1 f2
  obtain ⟨u, hu⟩ : ∃ u, u = gcdI t h := ⟨_, rfl⟩
  obtain ⟨g, hg⟩ : ∃ g, g = gcdI (gcdI t h) f := ⟨_, rfl⟩
  have hg2 : g = gcdI u f := by rw [hg, hu]
  rw [← hu] at m1 m2
  rw [← hg] at m3 m4
  have C1 := Lib.hid (gcd_spec t h w (by omega) (by omega) (by omega) (by omega))
  have C2 := Lib.hid (fun w => gcd_spec u f w (by omega) (by omega) (by omega) (by omega))
  rw [← hu] at C1
  rw [← hg2] at C2
  have HG := Lib.hid hg
  clear hg hg2 hu
  have hmx := mx_run
  go_enter Tryd.func42, Tryd.ntmps42
  go_wp2_with fail
  refine C1.out.mono ?_
  rintro e1 w1 ⟨rfl, n1, rfl⟩
  go_wp2_with fail
  refine (C2.out _).mono ?_
  rintro e1 w1 ⟨rfl, n2, rfl⟩
  have B0 := Lib.hid (below_drewN w (n1 + n2))
  by_cases hg1 : 1 < g
  · have q0 : (g == 0) = false := by simp; omega
    have gp : 1 ≤ g := by omega
    have Y := Lib.hid (sgnP_quot HG.out gp)
    obtain ⟨a1, a2⟩ := quot_bd2 t g 10000 gp t1 t2
    obtain ⟨b1, b2⟩ := quot_bd2 h g 10000 gp h1 h2
    obtain ⟨c1, c2⟩ := quot_bd2 f g 10000 gp f1 f2
    obtain ⟨x, hx⟩ : ∃ x, t.tdiv g = x := ⟨_, rfl⟩
    obtain ⟨y, hy⟩ : ∃ y, h.tdiv g = y := ⟨_, rfl⟩
    obtain ⟨z, hz⟩ : ∃ z, f.tdiv g = z := ⟨_, rfl⟩
    rw [hx, hy, hz] at Y
    rw [hx] at a1 a2
    rw [hy] at b1 b2
    rw [hz] at c1 c2
    clear HG C1 C2
    go_wp2_with fail
    clear hx hy hz
    obtain ⟨W0, hW⟩ : ∃ W, W = w.drewN (n1 + n2) := ⟨_, rfl⟩
    have hsz : W0.heap.size = w.heap.size := by rw [hW]; rfl
    rw [← hW] at B0 ⊢
    have O0 := one_lit W0 3
    rw [hsz] at O0
    have BA := Lib.hid (B0.out.alloc (Nat.le_of_eq hsz.symm) (.cells #[.int .i64 1] 3))
    clear hW hsz B0
    refine (stimes04_any _ w.heap.size _ 1 2 2 (mx x) rfl (by omega) (by omega) (by omega) (mx_bd (by omega)).1 (mx_bd (by omega)).2 (pw2_len (by omega)) BA.out.size (own_eq O0 ofB_one.symm (by rw [ofB_one]))).mono ?_
    rintro e1 w1 ⟨v1, rfl, o1, b1⟩
    rw [mx_nat, pw2] at o1
    have B1w := Lib.hid (BA.out.trans b1)
    clear b1 O0
    go_wp2_with fail
    refine (stimes04_any _ w.heap.size _ (pw (x).toNat 0 0) 3 3 (mx y) rfl (pw_pos _ _ _) (by omega) (by omega) (mx_bd (by omega)).1 (mx_bd (by omega)).2 (pw3_len (by omega) (by omega)) (Nat.le_trans (Nat.le_refl _) B1w.out.size) o1).mono ?_
    rintro e2 w2 ⟨v2, rfl, o2, b2⟩
    rw [mx_nat, pw3] at o2
    have B2w := Lib.hid (B1w.out.trans b2)
    clear b2 o1 B1w
    go_wp2_with fail
    refine (stimes04_any _ w.heap.size _ (pw (x).toNat (y).toNat 0) 5 5 (mx z) rfl (pw_pos _ _ _) (by omega) (by omega) (mx_bd (by omega)).1 (mx_bd (by omega)).2 (pw5_len (by omega) (by omega) (by omega)) (Nat.le_trans (Nat.le_refl _) B2w.out.size) o2).mono ?_
    rintro e3 w3 ⟨v3, rfl, o3, b3⟩
    rw [mx_nat, pw5] at o3
    have B3w := Lib.hid (B2w.out.trans b3)
    clear b3 o2 B2w
    obtain ⟨V, hV⟩ : ∃ V, V = w3 := ⟨_, rfl⟩
    rw [← hV] at o3 B3w ⊢
    have UP := Lib.hid o3
    clear hV o3
    go_wp2_with fail
    have O1 := one_lit V 3
    have VA := Lib.hid ((Below.refl V.heap.size V).alloc (Nat.le_refl _) (.cells #[.int .i64 1] 3))
    refine (stimes04_any _ V.heap.size _ 1 2 2 (mx (-x)) rfl (by omega) (by omega) (by omega) (mx_bd (by omega)).1 (mx_bd (by omega)).2 (pw2_len (by omega)) VA.out.size (own_eq O1 ofB_one.symm (by rw [ofB_one]))).mono ?_
    rintro e1 x1 ⟨v1, rfl, o1, b1⟩
    rw [mx_nat, pw2] at o1
    have B1x := Lib.hid (VA.out.trans b1)
    clear b1 O1
    go_wp2_with fail
    refine (stimes04_any _ V.heap.size _ (pw (-x).toNat 0 0) 3 3 (mx (-y)) rfl (pw_pos _ _ _) (by omega) (by omega) (mx_bd (by omega)).1 (mx_bd (by omega)).2 (pw3_len (by omega) (by omega)) (Nat.le_trans (Nat.le_refl _) B1x.out.size) o1).mono ?_
    rintro e2 x2 ⟨v2, rfl, o2, b2⟩
    rw [mx_nat, pw3] at o2
    have B2x := Lib.hid (B1x.out.trans b2)
    clear b2 o1 B1x
    go_wp2_with fail
    refine (stimes04_any _ V.heap.size _ (pw (-x).toNat (-y).toNat 0) 5 5 (mx (-z)) rfl (pw_pos _ _ _) (by omega) (by omega) (mx_bd (by omega)).1 (mx_bd (by omega)).2 (pw5_len (by omega) (by omega) (by omega)) (Nat.le_trans (Nat.le_refl _) B2x.out.size) o2).mono ?_
    rintro e3 x3 ⟨v3, rfl, o3, b3⟩
    rw [mx_nat, pw5] at o3
    have B3x := Lib.hid (B2x.out.trans b3)
    clear b3 o2 B2x
    have UP2 := own_below UP.out B3x.out
    have BF := Lib.hid (B3w.out.trans (B3x.out.mono B3w.out.size))
    clear UP B3w B3x
    go_wp2_with fail
    refine (scompare04 _ _ _ _ _ _ _ _ _ (pw_fit x y z (by omega) (by omega) (by omega)) (pw_fit (-x) (-y) (-z) (by omega) (by omega) (by omega)) UP2 o3).mono ?_
    rintro e4 w4 ⟨rfl, b4⟩
    rw [cmp_pw, Y.out]
    have BG := Lib.hid (BF.out.trans (b4.mono BF.out.size))
    clear b4 UP2 o3 BF
    go_wp2_with fail
    go_ret
    exact ⟨rfl, BG.out⟩
  · clear HG C1 C2
    go_wp2_with fail
    obtain ⟨W0, hW⟩ : ∃ W, W = w.drewN (n1 + n2) := ⟨_, rfl⟩
    have hsz : W0.heap.size = w.heap.size := by rw [hW]; rfl
    rw [← hW] at B0 ⊢
    have O0 := one_lit W0 3
    rw [hsz] at O0
    have BA := Lib.hid (B0.out.alloc (Nat.le_of_eq hsz.symm) (.cells #[.int .i64 1] 3))
    clear hW hsz B0
    refine (stimes04_any _ w.heap.size _ 1 2 2 (mx t) rfl (by omega) (by omega) (by omega) (mx_bd (by omega)).1 (mx_bd (by omega)).2 (pw2_len (by omega)) BA.out.size (own_eq O0 ofB_one.symm (by rw [ofB_one]))).mono ?_
    rintro e1 w1 ⟨v1, rfl, o1, b1⟩
    rw [mx_nat, pw2] at o1
    have B1w := Lib.hid (BA.out.trans b1)
    clear b1 O0
    go_wp2_with fail
    refine (stimes04_any _ w.heap.size _ (pw (t).toNat 0 0) 3 3 (mx h) rfl (pw_pos _ _ _) (by omega) (by omega) (mx_bd (by omega)).1 (mx_bd (by omega)).2 (pw3_len (by omega) (by omega)) (Nat.le_trans (Nat.le_refl _) B1w.out.size) o1).mono ?_
    rintro e2 w2 ⟨v2, rfl, o2, b2⟩
    rw [mx_nat, pw3] at o2
    have B2w := Lib.hid (B1w.out.trans b2)
    clear b2 o1 B1w
    go_wp2_with fail
    refine (stimes04_any _ w.heap.size _ (pw (t).toNat (h).toNat 0) 5 5 (mx f) rfl (pw_pos _ _ _) (by omega) (by omega) (mx_bd (by omega)).1 (mx_bd (by omega)).2 (pw5_len (by omega) (by omega) (by omega)) (Nat.le_trans (Nat.le_refl _) B2w.out.size) o2).mono ?_
    rintro e3 w3 ⟨v3, rfl, o3, b3⟩
    rw [mx_nat, pw5] at o3
    have B3w := Lib.hid (B2w.out.trans b3)
    clear b3 o2 B2w
    obtain ⟨V, hV⟩ : ∃ V, V = w3 := ⟨_, rfl⟩
    rw [← hV] at o3 B3w ⊢
    have UP := Lib.hid o3
    clear hV o3
    go_wp2_with fail
    have O1 := one_lit V 3
    have VA := Lib.hid ((Below.refl V.heap.size V).alloc (Nat.le_refl _) (.cells #[.int .i64 1] 3))
    refine (stimes04_any _ V.heap.size _ 1 2 2 (mx (-t)) rfl (by omega) (by omega) (by omega) (mx_bd (by omega)).1 (mx_bd (by omega)).2 (pw2_len (by omega)) VA.out.size (own_eq O1 ofB_one.symm (by rw [ofB_one]))).mono ?_
    rintro e1 x1 ⟨v1, rfl, o1, b1⟩
    rw [mx_nat, pw2] at o1
    have B1x := Lib.hid (VA.out.trans b1)
    clear b1 O1
    go_wp2_with fail
    refine (stimes04_any _ V.heap.size _ (pw (-t).toNat 0 0) 3 3 (mx (-h)) rfl (pw_pos _ _ _) (by omega) (by omega) (mx_bd (by omega)).1 (mx_bd (by omega)).2 (pw3_len (by omega) (by omega)) (Nat.le_trans (Nat.le_refl _) B1x.out.size) o1).mono ?_
    rintro e2 x2 ⟨v2, rfl, o2, b2⟩
    rw [mx_nat, pw3] at o2
    have B2x := Lib.hid (B1x.out.trans b2)
    clear b2 o1 B1x
    go_wp2_with fail
    refine (stimes04_any _ V.heap.size _ (pw (-t).toNat (-h).toNat 0) 5 5 (mx (-f)) rfl (pw_pos _ _ _) (by omega) (by omega) (mx_bd (by omega)).1 (mx_bd (by omega)).2 (pw5_len (by omega) (by omega) (by omega)) (Nat.le_trans (Nat.le_refl _) B2x.out.size) o2).mono ?_
    rintro e3 x3 ⟨v3, rfl, o3, b3⟩
    rw [mx_nat, pw5] at o3
    have B3x := Lib.hid (B2x.out.trans b3)
    clear b3 o2 B2x
    have UP2 := own_below UP.out B3x.out
    have BF := Lib.hid (B3w.out.trans (B3x.out.mono B3w.out.size))
    clear UP B3w B3x
    go_wp2_with fail
    refine (scompare04 _ _ _ _ _ _ _ _ _ (pw_fit t h f (by omega) (by omega) (by omega)) (pw_fit (-t) (-h) (-f) (by omega) (by omega) (by omega)) UP2 o3).mono ?_
    rintro e4 w4 ⟨rfl, b4⟩
    rw [cmp_pw]
    have BG := Lib.hid (BF.out.trans (b4.mono BF.out.size))
    clear b4 UP2 o3 BF
    go_wp2_with fail
    go_ret
    exact ⟨rfl, BG.out⟩
end Go.Proofs.YtohfepcdgbgojabDoor
