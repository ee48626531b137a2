/- Contract of spec.l04Times: a large number, multiplied by a power in place. -/
import Derived.Test.YtnlfmiheapcodaaDoorBigWalks
namespace Go.Proofs.YtnlfmiheapcodaaDoor
open Go.RowKit
set_option linter.unusedVariables false
theorem intCs_set (out : List Int) (xs : List Int) (j : Nat) (y : Int) (h : j < xs.length) (ho : out.length = j) : (intCs (out ++ xs.drop j)).set j (.int .i64 y) = intCs ((out ++ [y]) ++ xs.drop (j + 1)) := by
  have e1 : xs.drop j = xs[j] :: xs.drop (j + 1) := List.drop_eq_getElem_cons h
  rw [e1]
  unfold intCs
  have e3 : j - (List.map (Value.int .i64) out).length = 0 := by simp; omega
  rw [List.map_append, List.set_append_right _ _ (by simp; omega), e3, List.map_cons, List.set_cons_zero, List.map_append, List.map_append, List.map_cons, List.map_nil, List.append_assoc, List.singleton_append]
theorem getD_app (out xs : List Int) (j : Nat) (h : j < xs.length) (ho : out.length = j) : (out ++ xs.drop j).getD j 0 = xs.getD j 0 := by
  subst ho
  rw [List.getD_eq_getElem?_getD, List.getD_eq_getElem?_getD, List.getElem?_append_right (Nat.le_refl _), Nat.sub_self, List.getElem?_drop, Nat.add_zero]
theorem ofB_ne (n : Nat) (h : 1 ≤ n) : 0 < (ofB n).length := by rw [ofB_pos n (by omega)]; simp
/-- The groups, multiplied once. -/
theorem step_carry {N V : Nat} {out : List Int} {c : Int} (hN : 1 ≤ N) (hs : N ≤ 5) (h : GTo (N : Int) (ofB V) out (ofB V).length c) (hc : 0 < c) : out ++ [c] = ofB (V * N) := by
  rw [← mulG_times N V hN, ← gTo_end h, ofB_small _ (by have := h.2.2.1; omega) (by omega)]
  congr 2
  omega
theorem step_none {N V : Nat} {out : List Int} {c : Int} (hN : 1 ≤ N) (h : GTo (N : Int) (ofB V) out (ofB V).length c) (hc : ¬ 0 < c) : out = ofB (V * N) := by
  rw [← mulG_times N V hN, ← gTo_end h, show c.toNat = 0 from by omega, ofB_zero, List.append_nil]
set_option maxRecDepth 100000 in
set_option maxHeartbeats 2000000 in
theorem stimes04_any (w : World) (base : Nat) (v : Value) (V B : Nat) (b E : Int) (hb : b = (B : Int)) (hV : 1 ≤ V) (hB1 : 2 ≤ B) (hB2 : B ≤ 5) (hE1 : 0 ≤ E) (hE2 : E ≤ 20000) (hl : ∀ k, k ≤ E.toNat → (ofB (V * B ^ k)).length ≤ 1000000) (hbase : base ≤ w.heap.size) (h : w.ownsRow base 3 1 v (ofB V).length (intCs (ofB V))) :
    Calls Tryd.prog 43 #[v, .int .i64 b, .int .i64 E] w fun e w' => ∃ v', e = .returned v' ∧ w'.ownsRow base 3 1 v' (ofB (V * B ^ E.toNat)).length (intCs (ofB (V * B ^ E.toNat))) ∧ Below base w w' := by
  subst hb
  obtain ⟨E, rfl⟩ := Int.eq_ofNat_of_zero_le hE1
  rw [Int.toNat_natCast] at hl ⊢
  obtain ⟨i0, hi, hz0, hz1, hz2⟩ := info_parts infoInt
  have HL := Lib.hid hl
  have H0 := Lib.hid (own_eq h (show ofB V = ofB (V * B ^ 0) from by rw [Nat.pow_zero, Nat.mul_one]) (by rw [Nat.pow_zero, Nat.mul_one]))
  clear hl h
  go_enter Tryd.func43, Tryd.ntmps43
  go_wp2
  go_loopw [0, 7, 8, 9, 10] (fun v x _ _ _ wr => ∃ (k : Nat), x = .int .i64 (k : Int) ∧ k ≤ E ∧ wr.ownsRow base 3 1 v (ofB (V * B ^ k)).length (intCs (ofB (V * B ^ k))) ∧ Below base w wr) (fun _ x _ _ _ _ => E - (intOf x).toNat)
  case atStart => exact ⟨0, rfl, Nat.zero_le _, H0.out, Below.refl _ _⟩
  case round =>
    obtain ⟨k, rfl, hk, hown, hbl⟩ := hrel
    clear H0
    by_cases hlt : k < E
    · have q3 : (k : Int) < E := by omega
      obtain ⟨P, hP⟩ : ∃ P, P = V * B ^ k := ⟨_, rfl⟩
      have hP1 : 1 ≤ P := by rw [hP]; exact Nat.mul_le_mul hV (pow_ge1 B k (by omega))
      have NX := Lib.hid (show P * B = V * B ^ (k + 1) from by rw [hP, Nat.mul_assoc, ← Nat.pow_succ])
      have hn1 : (ofB P).length ≤ 1000000 := by rw [hP]; exact HL.out k hk
      have hn2 : (ofB (P * B)).length ≤ 1000000 := by rw [NX.out]; exact HL.out (k + 1) hlt
      rw [← hP] at hown
      clear hP
      obtain ⟨n, hn⟩ : ∃ n, n = (ofB P).length := ⟨_, rfl⟩
      have hn0 : 0 < n := by rw [hn]; exact ofB_ne P hP1
      rw [← hn] at hown hn1
      have HN := Lib.hid hn
      have HX := Lib.hid (ofB_bd P)
      clear hn
      obtain ⟨g, cap, rfl, hg, hgl⟩ := own_pos hown hn0
      have HO := Lib.hid hown
      have HB := Lib.hid hbl
      have HN2 := Lib.hid hn2
      clear hown hbl hn2
      obtain ⟨wo, rfl⟩ : ∃ wo : World, wo = wr := ⟨_, rfl⟩
      go_wp2_with fail
      go_loopw [8, 9, 10] (fun c i _ wr => ∃ (j : Nat) (out : List Int) (y : Int), j ≤ n ∧ i = .int .i64 (j : Int) ∧ c = .int .i64 y ∧ GTo (B : Int) (ofB P) out j y ∧ wr.ownsRow base 3 1 (.slice (some ⟨g, 0, none⟩) n cap) n (intCs (out ++ (ofB P).drop j)) ∧ Below base w wr) (fun _ i _ _ => n - (intOf i).toNat)
      case atStart => exact ⟨0, [], 0, Nat.zero_le _, rfl, rfl, gTo_zero _ _ (by omega), by simpa using HO.out, HB.out⟩
      case round =>
        obtain ⟨j, out, c, hj, rfl, rfl, hto, hown, hb⟩ := hrel
        have c0 := hto.2.1
        have c1 := hto.2.2.1
        have HTO := Lib.hid hto
        have hoj : out.length = j := hto.1
        clear hto
        by_cases hlj : j < n
        · have q4 : (j : Int) < n := by omega
          have hjl : j < (ofB P).length := by have := HN.out; omega
          have q1 := own_icell hown j hlj
          rw [getD_app out (ofB P) j hjl hoj] at q1
          have q2 := hown.frozenAt j
          have hx0 := HX.out j hjl
          obtain ⟨x, hxk⟩ : ∃ x, x = (ofB P).getD j 0 := ⟨_, rfl⟩
          rw [← hxk] at q1 hx0
          obtain ⟨y, hy⟩ : ∃ y, x * (B : Int) = y := ⟨_, rfl⟩
          have y0 : 0 ≤ y := by rw [← hy]; exact Int.mul_nonneg hx0.1 (by omega)
          have y1 : y ≤ 9999 * (B : Int) := by rw [← hy]; exact Int.mul_le_mul_of_nonneg_right hx0.2 (by omega)
          have STEP := Lib.hid (gTo_step HTO.out hjl hxk hy y0 y1)
          have R1 := (hown.stored j (.int .i64 ((y + c) % 10000))).1
          rw [intCs_set out (ofB P) j _ hjl hoj] at R1
          have R2 : Below base w (wr.setCell ⟨g, j, none⟩ (.int .i64 ((y + c) % 10000))) := hb.setCell (p := ⟨g, j, none⟩) hg _
          have HR1 := Lib.hid R1
          have HR2 := Lib.hid R2
          clear hxk hx0 hown hb hjl hoj R1 R2
          go_wp2
          go_roundw
          case rel => exact ⟨j + 1, _, _, by omega, by go_num, rfl, STEP.out, HR1.out, HR2.out⟩
          case measure => simp [intOf]; omega
        · have q4 : ¬ (j : Int) < n := by omega
          obtain rfl : j = n := by omega
          have hto : GTo (B : Int) (ofB P) out (ofB P).length c := by have := HTO.out; rwa [HN.out] at this
          have hown' : wr.ownsRow base 3 1 (.slice (some ⟨g, 0, none⟩) j cap) j (intCs out) := by
            have := hown
            rw [List.drop_of_length_le (by have := HN.out; omega), List.append_nil] at this
            exact this
          clear hown
          by_cases hc : 0 < c
          · have E1 := Lib.hid (step_carry (by omega) hB2 hto hc)
            clear hto HTO
            go_wp2_with (at_builtin; refine wpList_append_lies _ rfl (.tmp 39) (.tmp 41) 22 rfl base 3 i0 (.int .i64 0) 1 8 Tryd.underlying22 hi hz0 hz1 hz2 rfl (by decide) _ j _ rfl (hown'.alloc _) ⟨wr.heap.size, 0, none⟩ 1 1 _ rfl rfl (World.news_of_block (heap_alloc_new wr _)) (by simp [Value.oneCell']) (by decide) (by unfold maxLen; omega) (by omega) (by have := hb.size; simp; omega) _ rfl ?_; intro g1 cap1 w1 hown2 hgrow hat hgt)
            have R1 := isnoc hoj.symm hown2
            have R2 : Below base w w1 := (hb.alloc (Nat.le_trans hbase hb.size) _).grown hgrow (by have := hb.size; simp; omega) (fun i hi => (hown'.lt i hi).1)
            have R3 := own_eq R1 (E1.out.trans (by rw [NX.out])) (by rw [E1.out, NX.out])
            clear hown2 hgrow hat hgt hown' hb R1
            go_wp2
            go_roundw
            case rel => exact ⟨k + 1, by go_num, hlt, R3, R2⟩
            case measure => simp [intOf]; omega
          · have E1 := step_none (by omega) hto hc
            have R3 := own_eq hown' (E1.trans (by rw [NX.out])) (by rw [← NX.out, ← E1]; exact hoj.symm)
            clear hto HTO E1 hown'
            go_wp2
            go_roundw
            case rel => exact ⟨k + 1, by go_num, hlt, R3, hb⟩
            case measure => simp [intOf]; omega
    · have q3 : ¬ (k : Int) < E := by omega
      obtain rfl : k = E := by omega
      have HO := Lib.hid hown
      clear hown
      go_wp2_with fail
      go_ret
      exact ⟨_, rfl, HO.out, hbl⟩
end Go.Proofs.YtnlfmiheapcodaaDoor
