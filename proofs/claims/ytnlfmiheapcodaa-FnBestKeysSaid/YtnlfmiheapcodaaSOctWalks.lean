/- Contract of spec.OctavesIn. -/
import Derived.Test.YtnlfmiheapcodaaTonesMath
import Derived.Test.YtnlfmiheapcodaaSSign04
import Derived.Test.YtnlfmiheapcodaaNumBase
import Derived.Test.YtnlfmiheapcodaaToneWalks
import Derived.Test.YtnlfmiheapcodaaOctWalks
import Derived.Test.YtnlfmiheapcodaaSameTone
namespace Go.Proofs.Ytnlfmiheapcodaa
open Go.RowKit Go.Joins
set_option linter.unusedVariables false
/-- Where the counting upwards ends. -/
def TopAt (a b c d n N : Int) : Prop := OctAt a b c d n ∧ n ≤ N ∧ 0 ≤ N ∧ (N = 0 ∨ N = n) ∧ N * d ≤ 2012 ∧ -2012 ≤ n * d
theorem top_ex {a b c d n : Int} (h : OctAt a b c d n) : ∃ N, TopAt a b c d n N := by
  obtain ⟨d1, d2, a1, a2, b1, b2, c1, c2⟩ := okI_nums h.1
  have k := octAt_bd h rfl
  by_cases h0 : 0 ≤ n
  · exact ⟨n, h, Int.le_refl _, h0, Or.inr rfl, by omega, by omega⟩
  · exact ⟨0, h, by omega, Int.le_refl _, Or.inl rfl, by omega, by omega⟩
theorem up_bd {a b c d n N k : Int} (h : TopAt a b c d n N) (h0 : 0 ≤ k) (h1 : k ≤ N) : 0 ≤ (k + 1) * d ∧ (k + 1) * d ≤ 2100 := by
  obtain ⟨d1, d2, a1, a2, b1, b2, c1, c2⟩ := okI_nums h.1.1
  have e1 := mul_mono h1 d1
  have e2 := mul_mono h0 d1
  have := h.2.2.2.2.1
  rw [Int.add_mul, Int.one_mul]
  omega
theorem down_bd {a b c d n N k : Int} (h : TopAt a b c d n N) (h0 : n ≤ k) (h1 : k ≤ N) : -2100 ≤ k * d ∧ k * d ≤ 2100 := by
  obtain ⟨d1, d2, a1, a2, b1, b2, c1, c2⟩ := okI_nums h.1.1
  have e1 := mul_mono h1 d1
  have e2 := mul_mono h0 d1
  have := h.2.2.2.2.1
  have := h.2.2.2.2.2
  omega
theorem oct_sgnS {a b c d n N k p : Int} (h : TopAt a b c d n N) (hp : k * d = p) : (0 ≤ sgnP (a - p) b c → k ≤ n) ∧ (¬ 0 ≤ sgnP (a - p) b c → n < k) := by
  have e := h.1.2 k
  rw [hp] at e
  exact ⟨e.1, fun hs => by
    rcases (show n < k ∨ k ≤ n from by omega) with r | r
    · exact r
    · exact absurd (e.2 r) hs⟩
def intOfS : Value → Int | .int _ q => q | _ => 0
set_option maxRecDepth 100000 in
set_option maxHeartbeats 4000000 in
theorem octaves_spec_yes {a b c d n : Int} (h : OctAt a b c d n) (w : World) :
    Calls Try.prog 99 #[ivV a b c d] w fun e w' => e = .returned (.int .i64 n) ∧ Below w.heap.size w w' := by
  obtain ⟨d1, d2, a1, a2, b1, b2, c1, c2⟩ := okI_nums h.1
  obtain ⟨nb1, nb2⟩ := octAt_num h
  obtain ⟨N, hN⟩ := top_ex h
  have N1 := hN.2.2.1
  have N2 : N ≤ 2100 := by have := hN.2.2.2.1; omega
  have HN := Lib.hid hN
  have HX := Lib.hid h.1
  clear hN h
  go_enter Try.func99, Try.ntmps99
  go_wp2_with fail
  refine (sintervalOk_any _ _ _ _ _).mono ?_
  rintro e w1 ⟨rfl, hb⟩
  rw [HX.out]
  have F1 := Lib.hid (four_keep hb (four_alloc (w := w) (p := a) (q := b) (r := c) (s := d) (t := 32)))
  have B1 := Lib.hid ((below_alloc1 w _).trans (hb.mono (by simp)))
  clear hb
  go_wp2_with fail
  go_loopw [3] (fun x wr => ∃ k : Int, x = .int .i64 k ∧ (0 ≤ k ∧ k ≤ N) ∧ Four w.heap.size a b c d wr ∧ Below w.heap.size w wr) (fun x _ => (N - intOfS x).toNat)
  case atStart => exact ⟨0, rfl, ⟨by omega, N1⟩, F1.out, B1.out⟩
  case round =>
    obtain ⟨k, rfl, ⟨hk0, hk1⟩, hF, hB⟩ := hrel
    clear F1 B1
    have F1 := Lib.hid hF
    have B1 := Lib.hid hB
    obtain ⟨z0, z1, z2, z3, z4⟩ := hF
    obtain ⟨p, hp⟩ : ∃ p, (k + 1) * d = p := ⟨_, rfl⟩
    have pb := up_bd HN.out hk0 hk1
    rw [hp] at pb
    obtain ⟨p1, p2⟩ := pb
    have sg := oct_sgnS HN.out hp
    clear hB
    go_wp2_with fail
    refine (sign04_walk _ (a - p) b c (by omega) (by omega) (by omega) (by omega) (by omega) (by omega)).mono ?_
    rintro e1 w2 ⟨rfl, h2⟩
    have F2 := Lib.hid (four_keep h2 F1.out)
    have B2 := Lib.hid (B1.out.trans (h2.mono B1.out.size))
    clear z0 z1 z2 z3 z4 F1 B1 h2
    by_cases hs : 0 ≤ sgnP (a - p) b c
    · have hk2 := sg.1 hs
      have hk3 : k + 1 ≤ N := by have := HN.out.2.1; omega
      go_wp2_with fail
      go_roundw
      case rel => exact ⟨k + 1, rfl, ⟨by omega, hk3⟩, F2.out, B2.out⟩
      case measure => simp [intOfS]; omega
    · have hk2 := sg.2 (by omega)
      clear sg p1 p2 hp
      go_wp2_with fail
      clear hs
      go_loopw [3] (fun x wr => ∃ k : Int, x = .int .i64 k ∧ (n ≤ k ∧ k ≤ N) ∧ Four w.heap.size a b c d wr ∧ Below w.heap.size w wr) (fun x _ => (intOfS x - n).toNat)
      case atStart => exact ⟨k, rfl, ⟨by omega, hk1⟩, F2.out, B2.out⟩
      case round =>
        obtain ⟨j, rfl, ⟨hj0, hj1⟩, hF, hB⟩ := hrel
        clear F2 B2
        have F2 := Lib.hid hF
        have B2 := Lib.hid hB
        obtain ⟨z0, z1, z2, z3, z4⟩ := hF
        obtain ⟨r, hr⟩ : ∃ p, j * d = p := ⟨_, rfl⟩
        have rb := down_bd HN.out hj0 hj1
        rw [hr] at rb
        obtain ⟨r1, r2⟩ := rb
        have SG := Lib.hid (oct_sgnS HN.out hr)
        clear hB
        go_wp2_with fail
        refine (sign04_walk _ (a - r) b c (by omega) (by omega) (by omega) (by omega) (by omega) (by omega)).mono ?_
        rintro e1 w3 ⟨rfl, h3⟩
        have F3 := Lib.hid (four_keep h3 F2.out)
        have B3 := Lib.hid (B2.out.trans (h3.mono B2.out.size))
        clear z0 z1 z2 z3 z4 F2 B2 h3
        by_cases hs : sgnP (a - r) b c < 0
        · have hj2 := SG.out.2 (by omega)
          go_wp2_with fail
          go_roundw
          case rel => exact ⟨j - 1, rfl, ⟨by omega, by omega⟩, F3.out, B3.out⟩
          case measure => simp [intOfS]; omega
        · have hj2 := SG.out.1 (by omega)
          have hj3 : j = n := by omega
          go_wp2_with fail
          go_ret
          exact ⟨rfl, B3.out⟩
set_option maxHeartbeats 400000 in
theorem octaves_spec_no {a b c d : Int} (h : okI a b c d = false) (w : World) :
    Calls Try.prog 99 #[ivV a b c d] w fun e w' => e = .returned (.int .i64 0) ∧ Below w.heap.size w w' := by
  have HX := Lib.hid h
  clear h
  go_enter Try.func99, Try.ntmps99
  go_wp2_with fail
  refine (sintervalOk_any _ _ _ _ _).mono ?_
  rintro e w1 ⟨rfl, hb⟩
  rw [HX.out]
  have B1 := Lib.hid ((below_alloc1 w _).trans (hb.mono (by simp)))
  clear hb
  go_wp2_with fail
  go_ret
  exact ⟨rfl, B1.out⟩
end Go.Proofs.Ytnlfmiheapcodaa
/- Contract of spec.WithinOctave. -/
namespace Go.Proofs.Ytnlfmiheapcodaa
open Go.RowKit Go.Joins
set_option linter.unusedVariables false
theorem octAt_spec {a b c d n : Int} (h : OctAt a b c d n) (w : World) : Calls Try.prog 99 #[ivV a b c d] w fun e w' => e = .returned (.int .i64 n) ∧ Below w.heap.size w w' := octaves_spec_yes h w
set_option maxRecDepth 100000 in
set_option maxHeartbeats 2000000 in
theorem within_spec_yes {a b c d n m u p q r s : Int} {y : Bool} (h1 : OctAt a b c d n) (h2 : LessAt a d n m u) (h3 : CheckAt u b c d p q r s y) (w : World) :
    Calls Try.prog 90 #[ivV a b c d] w fun e w' => e = .returned (.tuple #[ivV p q r s, .bool y]) ∧ Below w.heap.size w w' := by
  have HX := Lib.hid h1.1
  have H1 := Lib.hid h1
  have H2 := Lib.hid h2
  have H3 := Lib.hid h3
  clear h1 h2 h3
  go_enter Try.func90, Try.ntmps90
  go_wp2_with fail
  refine (sintervalOk_any _ _ _ _ _).mono ?_
  rintro e w1 ⟨rfl, hb⟩
  rw [HX.out]
  have hf : Four w.heap.size a b c d w1 := four_keep hb (four_alF four_alloc)
  have hz : Zero4 (w.heap.size + 1) w1 := by
    refine zero4_keep hb ?_
    have e : w.heap.size + 1 = (w.alloc (.cells #[.int .i64 a, .int .i64 b, .int .i64 c, .int .i64 d] 32)).heap.size := by simp
    rw [e]
    exact zero4_alloc
  have B1 := Lib.hid ((below_alloc2 w _ _).trans (hb.mono (by simp; omega)))
  clear hb
  obtain ⟨l1, l2, l3, l4, l5, l6⟩ := H2.out
  obtain ⟨W1, hW⟩ : ∃ W, W = w1 := ⟨_, rfl⟩
  rw [← hW] at hf hz B1 ⊢
  clear hW
  obtain ⟨k, hk⟩ : ∃ k, k = w.heap.size := ⟨_, rfl⟩
  obtain ⟨z, hzz⟩ : ∃ k, k = w.heap.size + 1 := ⟨_, rfl⟩
  have hkz : k ≠ z := by omega
  have hbz : w.heap.size ≤ z := by omega
  rw [← hk] at hf
  rw [← hzz] at hz
  have F1 := Lib.hid hf
  have Z1 := Lib.hid hz
  have KZ := Lib.hid hkz
  have BZ := Lib.hid hbz
  clear hf hz hkz hbz
  go_upto_region 3 with fail
  rw [← hzz, ← hk]
  clear hzz hk
  have v1 : IntKind.i64.wrap (n * d) = m := by rw [l1]; exact IntWalk.i64_in _ (by omega)
  have v2 : IntKind.i64.wrap (a - m) = u := by rw [← l2]; exact IntWalk.i64_in _ (by omega)
  clear l1 l2
  go_region_held3 (fun w' => w'.cell? ⟨k, 0, none⟩ = some (.int .i64 a) ∧ w'.cell? ⟨k, 1, none⟩ = some (.int .i64 b) ∧ w'.cell? ⟨k, 2, none⟩ = some (.int .i64 c) ∧ w'.cell? ⟨k, 3, none⟩ = some (.int .i64 d)) (with_reducible first | exact four_cellsF (four_drewF F1.out) | exact four_cellsF (four_keep (by assumption) F1.out) | exact four_cellsF F1.out | exact four_cellsF (four_other KZ.out (four_keep (by assumption) F1.out)))
    (first
      | (go_at_call 99; refine (calls_fromF (W := W1) (by with_reducible first | assumption | exact (Below.refl _ _).drew) (octAt_spec H1.out _)).mono ?_; rintro e1 w2 ⟨rfl, hb⟩)
      | (go_at_call 98; refine (calls_zero (W := W1) Z1.out (by with_reducible first | assumption | exact (Below.refl _ _).drew) (checkAt_spec H3.out _)).mono ?_; rintro e1 w2 ⟨rfl, hb, hz⟩; obtain ⟨⟨zm, z0, z1, z2, z3⟩, zf⟩ := hz))
  obtain ⟨X, hX, ⟨gm, g0, g1, g2, g3⟩, gb⟩ := stored4 (p := p) (q := q) (r := r) (s := s) B1.out.size BZ.out hb ⟨zm, z0, z1, z2, z3⟩
  rw [← hX]
  have GB := Lib.hid (B1.out.trans gb)
  clear hX gb z0 z1 z2 z3 zm zf hb
  go_wp2_with fail
  refine bodyPost_ret (v := .tuple #[ivV p q r s, .bool y]) (by simp [results, Try.results90, go_sem, g0, g1, g2, g3]) rfl ⟨rfl, GB.out⟩
set_option maxHeartbeats 400000 in
theorem within_spec_no {a b c d : Int} (h : okI a b c d = false) (w : World) :
    Calls Try.prog 90 #[ivV a b c d] w fun e w' => e = .returned (.tuple #[ivV 0 0 0 0, .bool false]) ∧ Below w.heap.size w w' := by
  have HX := Lib.hid h
  clear h
  go_enter Try.func90, Try.ntmps90
  go_wp2_with fail
  refine (sintervalOk_any _ _ _ _ _).mono ?_
  rintro e w1 ⟨rfl, hb⟩
  rw [HX.out]
  obtain ⟨hc, hf⟩ := bcellT hb
  have q0 : w1.cell? ⟨w.heap.size + 1, 0, none⟩ = some (.int .i64 0) := by rw [hc _ _ (by simp)]; simp [go_sem]
  have q1 : w1.cell? ⟨w.heap.size + 1, 1, none⟩ = some (.int .i64 0) := by rw [hc _ _ (by simp)]; simp [go_sem]
  have q2 : w1.cell? ⟨w.heap.size + 1, 2, none⟩ = some (.int .i64 0) := by rw [hc _ _ (by simp)]; simp [go_sem]
  have q3 : w1.cell? ⟨w.heap.size + 1, 3, none⟩ = some (.int .i64 0) := by rw [hc _ _ (by simp)]; simp [go_sem]
  have kb : Below w.heap.size w w1 := (below_alloc2 w _ _).trans (hb.mono (by simp; omega))
  clear hb
  go_wp2_with fail
  refine bodyPost_ret (v := .tuple #[ivV 0 0 0 0, .bool false]) (by simp [results, Try.results90, go_sem, q0, q1, q2, q3]) rfl ⟨rfl, ?_⟩
  repeat' (first | exact kb | (refine Below.setCell ?_ (by simp) _))
theorem within_spec {a b c d p q r s : Int} {y : Bool} (h : WithinAt a b c d p q r s y) (w : World) :
    Calls Try.prog 90 #[ivV a b c d] w fun e w' => e = .returned (.tuple #[ivV p q r s, .bool y]) ∧ Below w.heap.size w w' := by
  rcases h with ⟨n, m, u, h1, h2, h3⟩ | ⟨h, rfl, rfl, rfl, rfl, rfl⟩
  · exact within_spec_yes h1 h2 h3 w
  · exact within_spec_no h w
end Go.Proofs.Ytnlfmiheapcodaa
/- Contract of spec.InvertInterval. -/
namespace Go.Proofs.Ytnlfmiheapcodaa
open Go.RowKit Go.Joins
set_option linter.unusedVariables false
end Go.Proofs.Ytnlfmiheapcodaa
/- Contract of spec.SamePitchClass. -/
namespace Go.Proofs.Ytnlfmiheapcodaa
open Go.RowKit Go.Joins
set_option linter.unusedVariables false
end Go.Proofs.Ytnlfmiheapcodaa
