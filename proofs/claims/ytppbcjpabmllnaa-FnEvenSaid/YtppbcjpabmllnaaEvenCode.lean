/- Contracts of impl.EvenPlaces, EvenScale, unevennessAt, IsEven and Unevenness. -/
import Derived.Test.YtppbcjpabmllnaaScaleCode
import Derived.Test.YtppbcjpabmllnaaEvenFacts
import Derived.Test.YtppbcjpabmllnaaSEven
import Derived.Test.YtppbcjpabmllnaaEvenImpl
namespace Go.Proofs.Ytppbcjpabmllnaa
open Go.RowKit Go.Joins
set_option linter.unusedVariables false
theorem fillL_pl (c s : Nat) : fillL (fun t => ((t * s / c : Nat) : Int)) c c = plTo c s c := by
  refine ext_getD (by rw [fillL_len, plTo_len]) fun j hj => ?_
  rw [fillL_len] at hj
  rw [fillL_get _ hj, if_pos hj, plTo_get c s c j hj]
/-- The places' distances, whatever the places are. -/
def endsL (c s : Int) : List Int := evF c s ++ [s]
def gapF (c s : Int) (t : Nat) : Int := (endsL c s).getD (t + 1) 0 - (endsL c s).getD t 0
theorem ends_yes {c s : Nat} (h : EvIn (c : Int) (s : Int)) : evF (c : Int) (s : Int) = plTo c s c := by
  unfold evF; rw [if_pos h, Int.toNat_natCast, Int.toNat_natCast]
theorem ends_get {c s : Nat} (h : EvIn (c : Int) (s : Int)) {t : Nat} (ht : t ≤ c) : (endsL (c : Int) (s : Int)).getD t 0 = ((t * s / c : Nat) : Int) := by
  unfold endsL
  rw [ends_yes h, List.getD_eq_getElem?_getD, List.getElem?_append]
  have hl := plTo_len c s c
  by_cases e : t < c
  · rw [if_pos (by omega), ← List.getD_eq_getElem?_getD, plTo_get c s c t e]
  · obtain rfl : t = c := by omega
    rw [if_neg (by omega), hl, Nat.sub_self, Nat.mul_div_cancel_left s (by have := h.1.1; omega)]
    rfl
theorem gap_yes {c s : Nat} (h : EvIn (c : Int) (s : Int)) : fillL (gapF (c : Int) (s : Int)) c c = dfL c s := by
  refine ext_getD (by rw [fillL_len, dfL_len]) fun j hj => ?_
  rw [fillL_len] at hj
  unfold dfL
  rw [fillL_get _ hj, if_pos hj, dfTo_get c s c j hj]
  unfold gapF
  rw [ends_get h (by omega), ends_get h (by omega)]
/-- EvenScale is the row of the distances if it is a scale. -/
theorem es_gap (c s : Int) : esF c s = if ScOk (fillL (gapF c s) (evF c s).length (evF c s).length) then fillL (gapF c s) (evF c s).length (evF c s).length else [] := by
  by_cases h : EvIn c s
  · obtain ⟨cn, rfl⟩ : ∃ cn : Nat, c = (cn : Int) := ⟨c.toNat, by have := h.1; omega⟩
    obtain ⟨sn, rfl⟩ : ∃ sn : Nat, s = (sn : Int) := ⟨s.toNat, by have := h.1; have := h.2; omega⟩
    rw [show (evF (cn : Int) (sn : Int)).length = cn from by rw [ends_yes h, plTo_len], gap_yes h]
    unfold esF
    rw [Int.toNat_natCast, Int.toNat_natCast]
    by_cases k : ScOk (dfL cn sn)
    · rw [if_pos ⟨h, k⟩, if_pos k]
    · rw [if_neg (fun q => k q.2), if_neg k]
  · have e : (evF c s).length = 0 := by unfold evF; rw [if_neg h]; rfl
    rw [e]
    unfold esF
    rw [if_neg (fun q => h q.1), if_neg]
    intro q
    have := q.1
    rw [fillL_len] at this
    omega
/-- The places lie from 0 to 60. -/
theorem ends_bd {c s : Int} {t : Nat} (ht : t < (evF c s).length) : (0 ≤ (endsL c s).getD (t + 1) 0 ∧ (endsL c s).getD (t + 1) 0 ≤ 720) ∧ 0 ≤ (endsL c s).getD t 0 ∧ (endsL c s).getD t 0 ≤ 720 := by
  by_cases h : EvIn c s
  · obtain ⟨cn, rfl⟩ : ∃ cn : Nat, c = (cn : Int) := ⟨c.toNat, by have := h.1; omega⟩
    obtain ⟨sn, rfl⟩ : ∃ sn : Nat, s = (sn : Int) := ⟨s.toNat, by have := h.1; have := h.2; omega⟩
    rw [ends_yes h, plTo_len] at ht
    have hb : ∀ t, t ≤ cn → t * sn / cn ≤ 720 := fun t ht => Nat.le_trans (Nat.div_le_self _ _) (Nat.le_trans (Nat.mul_le_mul (show t ≤ 12 from by have := h.1; omega) (show sn ≤ 60 from by have := h.2; omega)) (by omega))
    rw [ends_get h (by omega), ends_get h (by omega)]
    have h1 := hb (t + 1) (by omega)
    have h2 := hb t (by omega)
    generalize (t + 1) * sn / cn = y1 at h1 ⊢
    generalize t * sn / cn = y0 at h2 ⊢
    omega
  · unfold evF at ht; rw [if_neg h] at ht; simp at ht
set_option maxRecDepth 100000 in
set_option maxHeartbeats 4000000 in
theorem places_impl : PlacesImpl := by
  intro c s ys hy w
  obtain ⟨i0, hif, hz0, hz1, hz2⟩ := info_parts infoInt
  have HY := Lib.hid hy
  clear hy
  by_cases h1 : s < c
  · have R : Hid (ys = []) := Lib.hid (by rw [HY.out]; exact if_neg (fun q : EvIn c s => by have := q.2.1; omega))
    go_enter Try.func17, Try.ntmps17
    go_wp2_with fail
    go_ret
    exact ⟨_, rfl, by rw [R.out]; exact World.ownsRow_nil _ _ _ _, Below.refl _ _⟩
  by_cases h2 : c < 1
  · have R : Hid (ys = []) := Lib.hid (by rw [HY.out]; exact if_neg (fun q : EvIn c s => by have := q.1.1; omega))
    go_enter Try.func17, Try.ntmps17
    go_wp2_with fail
    go_ret
    exact ⟨_, rfl, by rw [R.out]; exact World.ownsRow_nil _ _ _ _, Below.refl _ _⟩
  by_cases h3 : 12 < c
  · have R : Hid (ys = []) := Lib.hid (by rw [HY.out]; exact if_neg (fun q : EvIn c s => by have := q.1.2; omega))
    go_enter Try.func17, Try.ntmps17
    go_wp2_with fail
    go_ret
    exact ⟨_, rfl, by rw [R.out]; exact World.ownsRow_nil _ _ _ _, Below.refl _ _⟩
  by_cases h4 : 60 < s
  · have R : Hid (ys = []) := Lib.hid (by rw [HY.out]; exact if_neg (fun q : EvIn c s => by have := q.2.2; omega))
    go_enter Try.func17, Try.ntmps17
    go_wp2_with fail
    go_ret
    exact ⟨_, rfl, by rw [R.out]; exact World.ownsRow_nil _ _ _ _, Below.refl _ _⟩
  obtain ⟨n, rfl⟩ : ∃ n : Nat, c = (n : Int) := ⟨c.toNat, by omega⟩
  obtain ⟨sn, rfl⟩ : ∃ sn : Nat, s = (sn : Int) := ⟨s.toNat, by omega⟩
  have R := Lib.hid (show ys = fillL (fun t => ((t * sn / n : Nat) : Int)) n n from by
    rw [HY.out, fillL_pl]; exact ends_yes ⟨⟨by omega, by omega⟩, by omega, by omega⟩)
  have h12 : 1 ≤ n ∧ n ≤ 12 := by omega
  have h60 : sn ≤ 60 := by omega
  go_enter Try.func17, Try.ntmps17
  go_wp2_with (at_make; refine wpList_make_full _ rfl _ _ 24 rfl w.heap.size 3 i0 (.int .i64 0) 1 Try.underlying24 hif hz0 hz1 _ _ _ _ n rfl rfl rfl rfl (by rw [hz2]; omega) (by unfold maxLen; omega) (Nat.le_refl _) ?_; intro w3 hown1 hgrow1)
  have I0 : Hid (IntR w.heap.size w.heap.size n n w (fillL (fun t => ((t * sn / n : Nat) : Int)) n 0) w3) := Lib.hid (intR_new hown1 ((Below.refl _ _).grown hgrow1 (Nat.le_refl _) (by simp)))
  clear hown1 hgrow1
  obtain ⟨g, hg⟩ : ∃ g, g = w.heap.size := ⟨_, rfl⟩
  rw [← hg] at I0 ⊢
  have HG := Lib.hid hg
  clear hg
  go_wp2_with fail
  go_loopw [22] (fun x wr => ∃ t : Nat, t ≤ n ∧ x = .int .i64 (t : Int) ∧ Hid (IntR g g n n w (fillL (fun t => ((t * sn / n : Nat) : Int)) n t) wr)) (fun x _ => n - (intOf x).toNat)
  case atStart => exact ⟨0, Nat.zero_le _, by go_num, I0⟩
  case round =>
    clear I0
    obtain ⟨t, ht, rfl, HI⟩ := hrel
    by_cases hlt : t < n
    · have q3 : (t : Int) < n := by omega
      have q4 : (0 : Int) ≤ (t : Int) := by omega
      have HLT := Lib.hid hlt
      obtain ⟨u, hu⟩ : ∃ u, u = t * sn := ⟨_, rfl⟩
      have hub : u ≤ 12 * 60 := by rw [hu]; exact Nat.mul_le_mul (by omega) (by omega)
      have wm2 : (t : Int) * (sn : Int) = (u : Int) := by rw [hu]; push_cast; rfl
      have wm : IntKind.i64.wrap ((t : Int) * (sn : Int)) = (u : Int) := by rw [wm2]; exact IntWalk.i64_in _ (by omega)
      obtain ⟨y, hy⟩ : ∃ y : Nat, y = u / n := ⟨_, rfl⟩
      have hyb : y ≤ 720 := by rw [hy]; have := Nat.div_le_self u n; omega
      have dv2 : (u : Int) / (n : Int) = (y : Int) := by rw [hy]; push_cast; rfl
      have dv : (u : Int).tdiv (n : Int) = (y : Int) := by rw [Int.tdiv_eq_ediv_of_nonneg (by omega)]; exact dv2
      have wv : IntKind.i64.wrap (y : Int) = (y : Int) := IntWalk.i64_in _ (by omega)
      have z0 : ¬ (n : Int) = 0 := by omega
      have z0n : ¬ n = 0 := by omega
      have HYY := Lib.hid (show (y : Int) = ((t * sn / n : Nat) : Int) from by rw [hy, hu])
      have fz := HI.out.free t
      have ck := HI.out.cell hlt
      have I5 : Hid (IntR g g n n w (fillL (fun t => ((t * sn / n : Nat) : Int)) n (t + 1)) (wr.setCell ⟨g, t, none⟩ (.int .i64 (y : Int)))) := Lib.hid (by
        have k := HI.out.put t y
        rw [HYY.out, show (fillL (fun t => ((t * sn / n : Nat) : Int)) n t).set t ((t * sn / n : Nat) : Int) = fillL (fun t => ((t * sn / n : Nat) : Int)) n (t + 1) from fillL_set (fun t => ((t * sn / n : Nat) : Int)) hlt, ← HYY.out] at k
        exact k)
      generalize (fillL (fun t => ((t * sn / n : Nat) : Int)) n t).getD t 0 = z at ck
      clear hu hy hlt HI HY R
      go_wp2_with fail
      go_roundw
      case rel => exact ⟨t + 1, HLT.out, by go_num, I5⟩
      case measure => have := HLT.out; simp [intOf]; omega
    · have q3 : ¬ (t : Int) < n := by omega
      obtain rfl : t = n := by omega
      go_wp2_with fail
      go_ret
      refine ⟨_, rfl, ?_, ?_⟩
      · rw [R.out, fillL_len]; rw [← HG.out]; exact HI.out.row
      · have := HI.out.bel; rw [HG.out] at this; exact this
set_option maxRecDepth 100000 in
set_option maxHeartbeats 4000000 in
theorem unAt_off {xs : List Int} {k : Nat} {d : Int} (hd : d = hiS xs k - loS xs k) (hs : ScOk xs) (hk : k ≤ xs.length) (w : World) (b : Nat) (v : Value) (h : OffI w b v xs.length xs) :
    Calls Try.prog 33 #[cirV v, .int .i64 k] w fun en w' => en = .returned (.int .i64 d) ∧ Below w.heap.size w w' := by
  have SP := Lib.hid (fun X (hX : Below w.heap.size w X) => spans_off xs (k : Int) _ rfl X b v (by have := hs.1; omega) (off_below h hX))
  obtain ⟨n, hn⟩ : ∃ n, n = xs.length := ⟨_, rfl⟩
  rw [← hn] at h hk
  have HN := Lib.hid hn
  have HD := Lib.hid hd
  have HS := Lib.hid hs
  have hn12 : 1 ≤ n ∧ n ≤ 12 := by rw [hn]; exact hs.1
  obtain ⟨p, c, rfl⟩ := off_slice h
  obtain ⟨W0, hW0⟩ : ∃ W0, W0 = w.alloc (.cells #[.slice p n c] 26) := ⟨_, rfl⟩
  have B0 : Hid (Below w.heap.size w W0) := Lib.hid (by rw [hW0]; exact below_alloc1 w _)
  obtain ⟨_, c0, _⟩ : One w.heap.size (.slice p n c) W0 := by rw [hW0]; exact one_alloc
  have SK := SP.out W0 B0.out
  rw [sps_yes hs (by omega)] at SK
  have SKH := Lib.hid SK
  clear SK h hn hd hs SP
  go_enter Try.func33, Try.ntmps33
  go_upto_region 1 with fail
  rw [← hW0]
  obtain ⟨m, hm⟩ : ∃ m, m = w.heap.size := ⟨_, rfl⟩
  rw [← hm] at c0 ⊢
  have HM := Lib.hid hm
  clear hW0 hm
  go_wp2_with fail
  refine SKH.out.mono ?_
  rintro e2 w2 ⟨v2, rfl, o2, b2⟩
  have B3 := Lib.hid (B0.out.trans (b2.mono B0.out.size))
  have hp := sps_pos HS.out.1.1 k
  have hlb := sps_len xs k xs.length
  have dlh := lo_hi_bd HS.out (k := k) (by omega)
  have llh := lo_hi HS.out.1.1 k
  obtain ⟨lo, hlo⟩ : ∃ x, x = loS xs k := ⟨_, rfl⟩
  obtain ⟨hi, hhi⟩ : ∃ x, x = hiS xs k := ⟨_, rfl⟩
  rw [← hlo, ← hhi] at dlh llh
  obtain ⟨g, cap, rfl, _, _⟩ := own_pos o2 hp
  have q1 := own_icell o2 0 hp
  have q2 := own_icell o2 ((spsTo xs k xs.length).length - 1) (by omega)
  rw [show (spsTo xs k xs.length).getD 0 0 = lo from hlo.symm] at q1
  rw [show (spsTo xs k xs.length).getD ((spsTo xs k xs.length).length - 1) 0 = hi from hhi.symm] at q2
  have HU := Lib.hid (show d = hi - lo from by rw [HD.out, hlo, hhi])
  obtain ⟨r, hr⟩ : ∃ r, (spsTo xs k xs.length).length = r + 1 := ⟨(spsTo xs k xs.length).length - 1, by omega⟩
  rw [hr] at q2 hlb ⊢
  rw [Nat.add_sub_cancel] at q2
  have hr12 : r ≤ 12 := by have := HN.out; omega
  clear hlo hhi o2 b2 hp hr c0 SKH
  have z1 : ((r + 1 : Nat) : Int) - 1 = (r : Int) := by omega
  have z2 : (r : Int) < ((r + 1 : Nat) : Int) := by omega
  have z3 : (0 : Int) ≤ (r : Int) := by omega
  have z4 : (0 : Int) < ((r + 1 : Nat) : Int) := by omega
  go_wp2_with fail
  go_quiet (fail)
  go_wp2_with fail
  go_ret
  exact ⟨ret_int HU.out.symm, B3.out.trans (below_drewN.mono B3.out.size)⟩
theorem diff_all {xs : List Int} (h : ScOk xs) : hiS xs xs.length - loS xs xs.length = 0 := by
  unfold hiS loS
  rw [sps_whole h]
  simp
theorem diff_none {xs : List Int} (h : ScOk xs) : hiS xs 0 - loS xs 0 = 0 := by
  obtain ⟨i, _, e1⟩ := lo_has h.1.1 0
  obtain ⟨j, _, e2⟩ := hi_has h.1.1 0
  rw [e1, e2]
  rfl
/-- The sum of the differences, from the count 0 on. -/
def unZ (xs : List Int) : Nat → Int
  | 0 => 0
  | k + 1 => unZ xs k + (hiS xs k - loS xs k)
theorem unZ_un {xs : List Int} (h : ScOk xs) : ∀ k, unZ xs (k + 1) = unTo xs k
  | 0 => by show 0 + (hiS xs 0 - loS xs 0) = 0; rw [diff_none h]; rfl
  | k + 1 => by show unZ xs (k + 1) + _ = unTo xs k + _; rw [unZ_un h k]
theorem unZ_end {xs : List Int} (h : ScOk xs) : unZ xs xs.length = unTo xs xs.length := by
  rw [← unZ_un h]
  show _ = unZ xs xs.length + (hiS xs xs.length - loS xs xs.length)
  rw [diff_all h]; omega
theorem unZ_bd {xs : List Int} (h : ScOk xs) : ∀ k, k ≤ 12 → 0 ≤ unZ xs k ∧ unZ xs k ≤ 240 * k
  | 0, _ => by simp [unZ]
  | k + 1, hk => by rw [unZ_un h]; have := un_bd h k (by omega); omega
theorem even_round {xs : List Int} (h : ScOk xs) (hh : ∀ j, j < xs.length → hiS xs j - loS xs j ≤ 1) : decide (EvenS xs) = true :=
  decide_eq_true ⟨h, fun k hk => by
    by_cases e : k < xs.length
    · exact hh k e
    · obtain rfl : k = xs.length := by omega
      rw [diff_all h]; omega⟩
def IsEvenOff : Prop := ∀ (xs : List Int) (y : Bool), EvnAt xs y → ∀ (w : World) (b : Nat) (v : Value), xs.length ≤ 2000000 → OffI w b v xs.length xs →
    Calls Try.prog 12 #[cirV v] w fun en w' => en = .returned (.bool y) ∧ Below w.heap.size w w'
def UnevenOff : Prop := ∀ (xs : List Int) (y : Int), UnAt xs y → ∀ (w : World) (b : Nat) (v : Value), xs.length ≤ 2000000 → OffI w b v xs.length xs →
    Calls Try.prog 13 #[cirV v] w fun en w' => en = .returned (.int .i64 y) ∧ Below w.heap.size w w'
set_option maxRecDepth 100000 in
set_option maxHeartbeats 4000000 in
theorem isEven_off : IsEvenOff := by
  intro xs y hy w b v hl h
  have CO := Lib.hid (fun X (hX : Below w.heap.size w X) => scOk_off xs (scB xs) rfl X b v hl (off_below h hX))
  have UN := Lib.hid (fun X (k : Nat) (d : Int) (hd : d = hiS xs k - loS xs k) (hs : ScOk xs) (hk : k ≤ xs.length) (hX : Below w.heap.size w X) => unAt_off hd hs hk X b v (off_below h hX))
  have HF := Lib.hid hy
  obtain ⟨n, hn⟩ : ∃ n, n = xs.length := ⟨_, rfl⟩
  rw [← hn] at h hl
  have HN := Lib.hid hn
  obtain ⟨p, c, rfl⟩ := off_slice h
  obtain ⟨W0, hW0⟩ : ∃ W0, W0 = w.alloc (.cells #[.slice p n c] 26) := ⟨_, rfl⟩
  have B0 : Hid (Below w.heap.size w W0) := Lib.hid (by rw [hW0]; exact below_alloc1 w _)
  have X0 : Hid (One w.heap.size (.slice p n c) W0) := Lib.hid (by rw [hW0]; exact one_alloc)
  have CK := Lib.hid (CO.out W0 B0.out)
  obtain ⟨_, c0, _⟩ := X0.out
  clear h hn hy CO
  by_cases hs : ScOk xs
  · rw [show scB xs = true from decide_eq_true hs] at CK
    have HS := Lib.hid hs
    clear hs
    go_enter Try.func12, Try.ntmps12
    go_upto_region 1 with fail
    rw [← hW0]
    obtain ⟨m, hm⟩ : ∃ m, m = w.heap.size := ⟨_, rfl⟩
    rw [← hm] at X0 c0 ⊢
    have HM := Lib.hid hm
    clear hW0 hm
    go_wp2_with fail
    refine CK.out.mono ?_
    rintro e1 w1 ⟨rfl, b1⟩
    have X1 := Lib.hid (one_keep b1 X0.out)
    obtain ⟨_, c1, _⟩ := X1.out
    have B1 := Lib.hid (B0.out.trans (b1.mono B0.out.size))
    clear b1 c0 CK X0
    go_wp2_with fail
    go_loopw [10] (fun x wr => ∃ k : Nat, k ≤ n ∧ x = .int .i64 (k : Int) ∧ Hid (∀ j, j < k → hiS xs j - loS xs j ≤ 1) ∧ Hid (Below w1.heap.size w1 wr)) (fun x _ => n - (intOf x).toNat)
    case atStart => exact ⟨0, Nat.zero_le _, by go_num, Lib.hid (fun j hj => by omega), Lib.hid (Below.refl _ _)⟩
    case round =>
      clear c1
      obtain ⟨k, hk, rfl, HA, HB⟩ := hrel
      obtain ⟨_, c1, _⟩ := one_keep HB.out X1.out
      by_cases hlt : k < n
      · have q3 : (k : Int) < n := by omega
        obtain ⟨d, hd⟩ : ∃ d, d = hiS xs k - loS xs k := ⟨_, rfl⟩
        have UK := Lib.hid (UN.out wr k d hd HS.out (by have := HN.out; omega) (B1.out.trans (HB.out.mono B1.out.size)))
        have HK := Lib.hid hlt
        have HD := Lib.hid hd
        clear hlt hd
        go_wp2_with fail
        refine UK.out.mono ?_
        rintro e1 w2 ⟨rfl, b1⟩
        have B2 := Lib.hid (HB.out.trans (b1.mono HB.out.size))
        clear b1 c1 UK
        by_cases h2 : 1 < d
        · have R := Lib.hid (show y = false from by rw [HF.out]; exact decide_eq_false (fun q : EvenS xs => by have := q.2 k (by have := HK.out; have := HN.out; omega); have := HD.out; omega))
          have B3 := Lib.hid (B1.out.trans (B2.out.mono B1.out.size))
          go_wp2_with fail
          go_ret
          exact ⟨ret_bool R.out.symm, B3.out⟩
        · have A2 : Hid (∀ j, j < k + 1 → hiS xs j - loS xs j ≤ 1) := Lib.hid (fun j hj => by
            by_cases e : j < k
            · exact HA.out j e
            · obtain rfl : j = k := by omega
              have := HD.out; omega)
          go_wp2_with fail
          go_roundw
          case rel => exact ⟨k + 1, HK.out, by go_num, A2, B2⟩
          case measure => have := HK.out; simp [intOf]; omega
      · have q3 : ¬ (k : Int) < n := by omega
        obtain rfl : k = n := by omega
        have R := Lib.hid (show y = true from by rw [HF.out]; exact even_round HS.out (by rw [← HN.out]; exact HA.out))
        have B4 := Lib.hid (B1.out.trans (HB.out.mono B1.out.size))
        go_wp2_with fail
        go_ret
        exact ⟨ret_bool R.out.symm, B4.out⟩
  · rw [show scB xs = false from decide_eq_false hs] at CK
    have R : Hid (y = false) := Lib.hid (by rw [HF.out]; exact decide_eq_false (fun q => hs q.1))
    clear hs
    go_enter Try.func12, Try.ntmps12
    go_upto_region 1 with fail
    rw [← hW0]
    clear hW0
    go_wp2_with fail
    refine CK.out.mono ?_
    rintro e1 w1 ⟨rfl, b1⟩
    have B1 := Lib.hid (B0.out.trans (b1.mono B0.out.size))
    clear b1
    go_wp2_with fail
    go_ret
    exact ⟨ret_bool R.out.symm, B1.out⟩
set_option maxRecDepth 100000 in
set_option maxHeartbeats 4000000 in
theorem uneven_off : UnevenOff := by
  intro xs y hy w b v hl h
  have CO := Lib.hid (fun X (hX : Below w.heap.size w X) => scOk_off xs (scB xs) rfl X b v hl (off_below h hX))
  have UN := Lib.hid (fun X (k : Nat) (d : Int) (hd : d = hiS xs k - loS xs k) (hs : ScOk xs) (hk : k ≤ xs.length) (hX : Below w.heap.size w X) => unAt_off hd hs hk X b v (off_below h hX))
  have HF := Lib.hid hy
  obtain ⟨n, hn⟩ : ∃ n, n = xs.length := ⟨_, rfl⟩
  rw [← hn] at h hl
  have HN := Lib.hid hn
  obtain ⟨p, c, rfl⟩ := off_slice h
  obtain ⟨W0, hW0⟩ : ∃ W0, W0 = w.alloc (.cells #[.slice p n c] 26) := ⟨_, rfl⟩
  have B0 : Hid (Below w.heap.size w W0) := Lib.hid (by rw [hW0]; exact below_alloc1 w _)
  have X0 : Hid (One w.heap.size (.slice p n c) W0) := Lib.hid (by rw [hW0]; exact one_alloc)
  have CK := Lib.hid (CO.out W0 B0.out)
  obtain ⟨_, c0, _⟩ := X0.out
  clear h hn hy CO
  by_cases hs : ScOk xs
  · rw [show scB xs = true from decide_eq_true hs] at CK
    have HS := Lib.hid hs
    have hn12 : 1 ≤ n ∧ n ≤ 12 := by rw [HN.out]; exact hs.1
    clear hs
    go_enter Try.func13, Try.ntmps13
    go_upto_region 1 with fail
    rw [← hW0]
    obtain ⟨m, hm⟩ : ∃ m, m = w.heap.size := ⟨_, rfl⟩
    rw [← hm] at X0 c0 ⊢
    have HM := Lib.hid hm
    clear hW0 hm
    go_wp2_with fail
    refine CK.out.mono ?_
    rintro e1 w1 ⟨rfl, b1⟩
    have X1 := Lib.hid (one_keep b1 X0.out)
    obtain ⟨_, c1, _⟩ := X1.out
    have B1 := Lib.hid (B0.out.trans (b1.mono B0.out.size))
    clear b1 c0 CK X0
    go_wp2_with fail
    go_loopw [3, 11] (fun s x wr => ∃ (k : Nat) (S : Int), k ≤ n ∧ x = .int .i64 (k : Int) ∧ s = .int .i64 S ∧ Hid (S = unZ xs k) ∧ Hid (Below w1.heap.size w1 wr)) (fun _ x _ => n - (intOf x).toNat)
    case atStart => exact ⟨0, 0, Nat.zero_le _, by go_num, rfl, Lib.hid rfl, Lib.hid (Below.refl _ _)⟩
    case round =>
      clear c1
      obtain ⟨k, S, hk, rfl, rfl, HSS, HB⟩ := hrel
      obtain ⟨_, c1, _⟩ := one_keep HB.out X1.out
      have hb := unZ_bd HS.out k (by omega)
      rw [← HSS.out] at hb
      by_cases hlt : k < n
      · have q3 : (k : Int) < n := by omega
        have hd2 := lo_hi_bd HS.out (k := k) (by omega)
        have hd3 := lo_hi HS.out.1.1 k
        obtain ⟨d, hd⟩ : ∃ d, d = hiS xs k - loS xs k := ⟨_, rfl⟩
        have hd4 : 0 ≤ d ∧ d ≤ 240 := by omega
        have UK := Lib.hid (UN.out wr k d hd HS.out (by have := HN.out; omega) (B1.out.trans (HB.out.mono B1.out.size)))
        have HK := Lib.hid hlt
        have S2 : Hid (S + d = unZ xs (k + 1)) := Lib.hid (by show S + d = unZ xs k + _; rw [HSS.out, hd])
        clear hlt hd hd2 hd3
        go_wp2_with fail
        refine UK.out.mono ?_
        rintro e1 w2 ⟨rfl, b1⟩
        have B2 := Lib.hid (HB.out.trans (b1.mono HB.out.size))
        clear b1 c1 UK
        go_wp2_with fail
        go_roundw
        case rel => exact ⟨k + 1, S + d, HK.out, by go_num, by go_num, S2, B2⟩
        case measure => have := HK.out; simp [intOf]; omega
      · have q3 : ¬ (k : Int) < n := by omega
        obtain rfl : k = n := by omega
        have R := Lib.hid (show y = S from by rw [HF.out, HSS.out]; unfold unF; rw [if_pos HS.out, HN.out]; exact (unZ_end HS.out).symm)
        have B4 := Lib.hid (B1.out.trans (HB.out.mono B1.out.size))
        go_wp2_with fail
        go_ret
        exact ⟨ret_int R.out.symm, B4.out⟩
  · rw [show scB xs = false from decide_eq_false hs] at CK
    have R : Hid (y = 0) := Lib.hid (by rw [HF.out]; exact if_neg hs)
    clear hs
    go_enter Try.func13, Try.ntmps13
    go_upto_region 1 with fail
    rw [← hW0]
    clear hW0
    go_wp2_with fail
    refine CK.out.mono ?_
    rintro e1 w1 ⟨rfl, b1⟩
    have B1 := Lib.hid (B0.out.trans (b1.mono B0.out.size))
    clear b1
    go_wp2_with fail
    go_ret
    exact ⟨ret_int R.out.symm, B1.out⟩
theorem isEven_impl : IsEvenImpl := fun xs y hy w b e v hl h => isEven_off xs y hy w b v hl (off_own h)
theorem uneven_impl : UnevenImpl := fun xs y hy w b e v hl h => uneven_off xs y hy w b v hl (off_own h)
set_option maxRecDepth 100000 in
set_option maxHeartbeats 8000000 in
theorem evenScale_impl : EvScImpl := by
  intro c s ys hy w
  obtain ⟨i0, hif, hz0, hz1, hz2⟩ := info_parts infoInt
  obtain ⟨W0, hW⟩ : ∃ W, W = w.alloc (.cells #[.slice none 0 0] 26) := ⟨_, rfl⟩
  have B0 : Hid (Below w.heap.size w W0) := Lib.hid (by rw [hW]; exact below_alloc1 w _)
  have Z0 : Hid (One w.heap.size (.slice none 0 0) W0) := Lib.hid (by rw [hW]; exact one_alloc)
  have PL := Lib.hid (places_impl c s _ rfl W0)
  have HE := Lib.hid (fun t (ht : t < (evF c s).length) => ends_bd ht)
  have h12 := evF_len c s
  have R : Hid (ys = if ScOk (fillL (gapF c s) (evF c s).length (evF c s).length) then fillL (gapF c s) (evF c s).length (evF c s).length else []) := Lib.hid (by rw [hy]; exact es_gap c s)
  have HEE := Lib.hid (show endsL c s = evF c s ++ [s] from rfl)
  have HGG := Lib.hid (show ∀ t, gapF c s t = (endsL c s).getD (t + 1) 0 - (endsL c s).getD t 0 from fun _ => rfl)
  generalize endsL c s = E at HE HEE HGG
  generalize gapF c s = F at HGG R
  generalize evF c s = P at PL HE h12 HEE R
  obtain ⟨n, hn⟩ : ∃ n, n = P.length := ⟨_, rfl⟩
  rw [← hn] at HE h12 R
  have HN := Lib.hid hn
  have HW := Lib.hid hW
  clear hn hW hy
  obtain ⟨q, hq⟩ : ∃ q, q = w.heap.size := ⟨_, rfl⟩
  rw [← hq] at Z0
  have HQ := Lib.hid hq
  go_enter Try.func10, Try.ntmps10
  go_upto_region 1 with fail
  rw [← HW.out, ← hq]
  clear hq
  go_wp2_with fail
  refine PL.out.mono ?_
  rintro e1 w1 ⟨vp, rfl, o1, b1⟩
  rw [← HN.out] at o1
  obtain ⟨p1, c1, rfl⟩ := own_slice o1
  have O1 := Lib.hid o1
  have Z1 := Lib.hid (one_keep b1 Z0.out)
  have B1 := Lib.hid (B0.out.trans (b1.mono B0.out.size))
  have hsz := b1.size
  clear o1 b1 PL
  go_upto_region 2 with (at_builtin; refine wpList_append_lies _ rfl (.tmp 11) (.tmp 13) 24 rfl W0.heap.size 3 i0 (.int .i64 0) 1 8 Try.underlying24 hif hz0 hz1 hz2 rfl (by decide) _ n _ rfl (O1.out.alloc _) ⟨_, 0, none⟩ 1 1 _ rfl rfl (World.news_of_block (heap_alloc_new _ _)) (by simp [Value.oneCell']) (by decide) (by unfold maxLen; omega) (by omega) (by simp; omega) _ rfl ?_; intro g1 cap1 w5 hown' hgrow hat hgt)
  have HEL : Hid (intCs E = intCs P ++ [.int .i64 s]) := Lib.hid (by rw [HEE.out]; simp [intCs])
  rw [← HEL.out] at hown'
  have O5 := Lib.hid hown'
  have Z5 := Lib.hid (one_grown (one_al (o := .cells #[.int .i64 s] 3) Z1.out) hgrow (fun e => by
    have h1 := (O1.out.lt _ e).1
    have h2 := Z0.out.1
    omega))
  have B5 := Lib.hid ((B1.out.alloc B1.out.size _).grown hgrow (Nat.le_trans B1.out.size (by simp)) (fun j hj => Nat.le_trans B0.out.size (O1.out.lt j hj).1))
  have hsw : q < w5.heap.size := Z5.out.1
  clear hown' hgrow hat hgt O1 Z1 B1 hsz
  go_wp2_with (at_make; refine wpList_make_full _ rfl _ _ 24 rfl w5.heap.size 3 i0 (.int .i64 0) 1 Try.underlying24 hif hz0 hz1 _ _ _ _ n rfl rfl rfl rfl (by rw [hz2]; omega) (by unfold maxLen; omega) (Nat.le_refl _) ?_; intro w3 hown1 hgrow1)
  have I0 : Hid (IntR w5.heap.size w5.heap.size n n w5 (fillL F n 0) w3) := Lib.hid (intR_new hown1 ((Below.refl _ _).grown hgrow1 (Nat.le_refl _) (by simp)))
  clear hown1 hgrow1
  obtain ⟨g, hg⟩ : ∃ g, g = w5.heap.size := ⟨_, rfl⟩
  rw [← hg] at I0 ⊢
  have HG := Lib.hid hg
  clear hg
  go_wp2_with fail
  go_loopw [21] (fun x wr => ∃ t : Nat, t ≤ n ∧ x = .int .i64 (t : Int) ∧ Hid (IntR g g n n w5 (fillL F n t) wr)) (fun x _ => n - (intOf x).toNat)
  case atStart => exact ⟨0, Nat.zero_le _, by go_num, I0⟩
  case round =>
    clear I0
    obtain ⟨t, ht, rfl, HI⟩ := hrel
    by_cases hlt : t < n
    · have q3 : (t : Int) < n := by omega
      have q4 : (0 : Int) ≤ (t : Int) := by omega
      have q5 : (0 : Int) ≤ (t : Int) + 1 := by omega
      have q6 : (t : Int) + 1 < (n : Int) + 1 := by omega
      have q7 : (t : Int) < (n : Int) + 1 := by omega
      have q8 : ((t : Int) + 1).toNat = t + 1 := by omega
      have HLT := Lib.hid hlt
      have hb := HE.out t hlt
      obtain ⟨x1, hx1⟩ : ∃ x, x = E.getD (t + 1) 0 := ⟨_, rfl⟩
      obtain ⟨x0, hx0⟩ : ∃ x, x = E.getD t 0 := ⟨_, rfl⟩
      rw [← hx1, ← hx0] at hb
      have BW : Below w5.heap.size w5 wr := by have := HI.out.bel; rw [HG.out] at this; exact this
      have hE := own_below O5.out BW
      have c1' : wr.cell? ⟨g1, t + 1, none⟩ = some (.int .i64 x1) := by rw [hx1]; exact own_icell hE (t + 1) (by omega)
      have c0' : wr.cell? ⟨g1, t, none⟩ = some (.int .i64 x0) := by rw [hx0]; exact own_icell hE t (by omega)
      have d1' : wr.drew.cell? ⟨g1, t + 1, none⟩ = some (.int .i64 x1) := c1'
      have d0' : wr.drew.cell? ⟨g1, t, none⟩ = some (.int .i64 x0) := c0'
      have fz := HI.out.free t
      have ck := HI.out.cell hlt
      have dk : wr.drew.cell? ⟨g, t, none⟩ = _ := ck
      have I5 : ∃ X, X = (wr.setCell ⟨g, t, none⟩ (.int .i64 (x1 - x0))).drew ∧ IntR g g n n w5 (fillL F n (t + 1)) X := by
        refine ⟨_, rfl, ?_⟩
        have k := (HI.out.put t (F t)).drew
        rw [fillL_set F hlt, HGG.out t, ← hx1, ← hx0] at k
        exact k
      generalize (fillL F n t).getD t 0 = z at ck dk
      clear hx1 hx0 BW hE hlt HI
      go_wp2_with fail
      go_region
      obtain ⟨X, hX, hS⟩ := I5
      rw [← hX]
      have I6 := Lib.hid hS
      clear hX hS c1' c0' d1' d0' ck dk fz
      go_wp2_with fail
      go_roundw
      case rel => exact ⟨t + 1, HLT.out, by go_num, I6⟩
      case measure => have := HLT.out; simp [intOf]; omega
    · have q3 : ¬ (t : Int) < n := by omega
      obtain rfl : t = n := by omega
      obtain ⟨D, hD⟩ : ∃ D, D = fillL F t t := ⟨_, rfl⟩
      have hDl : D.length = t := by rw [hD]; exact fillL_len F t t
      rw [← hD] at HI R
      obtain ⟨m, hm⟩ : ∃ m, m = wr.heap.size := ⟨_, rfl⟩
      obtain ⟨W7, hW7⟩ : ∃ W, W = wr.alloc (.cells #[.slice (some ⟨g, 0, none⟩) t t] 26) := ⟨_, rfl⟩
      have BW : Below w5.heap.size w5 wr := by have := HI.out.bel; rw [HG.out] at this; exact this
      have b7 : Below wr.heap.size wr W7 := by rw [hW7]; exact below_alloc1 wr _
      have X7 : Hid (One m (.slice (some ⟨g, 0, none⟩) t t) W7) := Lib.hid (by rw [hW7, hm]; exact one_alloc)
      have Z7 := Lib.hid (one_keep b7 (one_keep BW Z5.out))
      have B7 := Lib.hid (B5.out.trans ((BW.trans (b7.mono BW.size)).mono B5.out.size))
      have O7 := Lib.hid (own_below HI.out.row b7)
      obtain ⟨z, hz⟩ : ∃ z, z = scB D := ⟨_, rfl⟩
      have CK := Lib.hid (scOk_impl D z hz W7 g 3 (.slice (some ⟨g, 0, none⟩) t t) (by omega) (own_eq O7.out rfl hDl.symm))
      have HZ := Lib.hid hz
      have HDL := Lib.hid hDl
      obtain ⟨_, c7, _⟩ := X7.out
      clear BW b7 HI O5 Z5 B5 hD hDl hz HE
      go_wp2_with fail
      rw [← hW7]
      clear hW7
      try rw [← hm]
      clear hm
      refine CK.out.mono ?_
      rintro e2 w2 ⟨rfl, b2⟩
      obtain ⟨_, c8, _⟩ := one_keep b2 X7.out
      have Z8 := Lib.hid (one_keep b2 Z7.out)
      obtain ⟨_, z8, f8⟩ := Z8.out
      have O8 := Lib.hid (own_below O7.out b2)
      have B8 := Lib.hid (B7.out.trans (b2.mono B7.out.size))
      clear b2 c7 CK
      cases z
      · have RR : Hid (ys = []) := Lib.hid (by rw [R.out, if_neg]; exact of_decide_eq_false HZ.out.symm)
        obtain ⟨_, x1, _⟩ := one_set (u := .slice none 0 0) Z8.out
        go_wp2_with fail
        refine bodyPost_ret (v := cirV (.slice none 0 0)) (by simp [results, Try.results10, go_sem, x1]) rfl ⟨_, rfl, by rw [RR.out]; exact World.ownsRow_nil _ _ _ _, B8.out.setCell (by rw [← HQ.out]; simp) _⟩
      · have RR : Hid (ys = D) := Lib.hid (by rw [R.out, if_pos]; exact of_decide_eq_true HZ.out.symm)
        obtain ⟨_, x1, _⟩ := one_set (u := .slice (some ⟨g, 0, none⟩) t t) Z8.out
        have hqg : q < g := by rw [HG.out]; exact hsw
        go_wp2_with fail
        refine bodyPost_ret (v := cirV (.slice (some ⟨g, 0, none⟩) t t)) (by simp [results, Try.results10, go_sem, x1]) rfl ⟨_, rfl, ?_, B8.out.setCell (by rw [← HQ.out]; simp) _⟩
        have O9 := ownsRow_setCell_below O8.out (a := ⟨q, 0, none⟩) (by simp only; omega) (.slice (some ⟨g, 0, none⟩) t t)
        rw [RR.out]
        exact own_base (own_eq O9 rfl HDL.out.symm) (by have := HQ.out; omega)
end Go.Proofs.Ytppbcjpabmllnaa
