/- Contracts of spec.EvenPlaces, spec.Unevenness and spec.IsEven. Written by even.py. -/
import Derived.Test.YtppbcjpabmllnaaEvenMath
import Derived.Test.YtppbcjpabmllnaaSScale
import Derived.Test.YtppbcjpabmllnaaTakeD
import Derived.Deep.QuietTactic
import Derived.BigQuiet
import Derived.Deep.RegionHeld3
namespace Go.Proofs.Ytppbcjpabmllnaa
open Go.RowKit Go.Joins
set_option linter.unusedVariables false
theorem below_drewN {w : World} {n : Nat} : Below w.heap.size w (w.drewN n) := ⟨rfl, rfl, rfl, Nat.le_refl _, fun _ _ => rfl⟩
theorem pl_snoc {w : World} {B g cap k c s : Nat} {e : TypeId} {y : Int} (hy : y = ((k * s / c : Nat) : Int)) (h : w.ownsRow B e 1 (.slice (some ⟨g, 0, none⟩) (k + 1) cap) (k + 1) (intCs (plTo c s k) ++ [.int .i64 y])) : w.ownsRow B e 1 (.slice (some ⟨g, 0, none⟩) (k + 1) cap) (k + 1) (intCs (plTo c s (k + 1))) := by
  have e1 : intCs (plTo c s (k + 1)) = intCs (plTo c s k) ++ [.int .i64 y] := by
    show intCs (plTo c s k ++ [((k * s / c : Nat) : Int)]) = _
    rw [← hy]
    simp [intCs]
  rw [e1]
  exact h
set_option maxRecDepth 100000 in
set_option maxHeartbeats 4000000 in
theorem places_spec {c s : Int} {ys : List Int} (hf : EvAt c s ys) (w : World) :
    Calls Try.prog 16 #[.int .i64 c, .int .i64 s] w (OwnPost 3 ys w) := by
  obtain ⟨i0, hif, hz0, hz1, hz2⟩ := info_parts infoInt
  have I1 := Lib.hid (fun X => inT_any c 1 12 X)
  have I2 := Lib.hid (fun X => inT_any s c 60 X)
  obtain ⟨W0, hW0⟩ : ∃ W0, W0 = w.alloc (.cells #[] 3) := ⟨_, rfl⟩
  have O0 : Hid (W0.ownsRow w.heap.size 3 1 (.slice (some ⟨w.heap.size, 0, none⟩) 0 0) 0 (intCs [])) := Lib.hid (by rw [hW0]; exact own_zero_lit w _)
  have B0 : Hid (Below w.heap.size w W0) := Lib.hid (by rw [hW0]; exact below_alloc1 w _)
  obtain ⟨v0, hv0⟩ : ∃ v0, v0 = Value.slice (some ⟨w.heap.size, 0, none⟩) 0 0 := ⟨_, rfl⟩
  rw [← hv0] at O0
  by_cases hs : EvIn c s
  · obtain ⟨h1, h2⟩ := hs
    rw [decide_eq_true h1] at I1
    rw [decide_eq_true h2] at I2
    have HY := Lib.hid (show ys = plTo c.toNat s.toNat c.toNat from by rw [hf]; exact if_pos ⟨h1, h2⟩)
    obtain ⟨cn, rfl⟩ : ∃ cn : Nat, c = (cn : Int) := ⟨c.toNat, by omega⟩
    obtain ⟨sn, rfl⟩ : ∃ sn : Nat, s = (sn : Int) := ⟨s.toNat, by omega⟩
    rw [Int.toNat_natCast, Int.toNat_natCast] at HY
    clear hf
    go_enter Try.func16, Try.ntmps16
    go_upto_region 2 with fail
    rw [← hW0, ← hv0]
    clear hW0 hv0
    go_wp2_with fail
    go_loopw [5, 6] (fun v x wr => ∃ k : Nat, k ≤ cn ∧ x = .int .i64 (k : Int) ∧ Hid (wr.ownsRow w.heap.size 3 1 v k (intCs (plTo cn sn k))) ∧ Hid (Below w.heap.size w wr)) (fun _ x _ => 13 - (intOf x).toNat)
    case atStart => exact ⟨0, Nat.zero_le _, by go_num, O0, B0⟩
    case round =>
      clear O0 B0
      obtain ⟨k, hk, rfl, HO, HB⟩ := hrel
      obtain ⟨pv, cv, rfl⟩ := own_slice HO.out
      by_cases hlt : k < cn
      · have q3 : (k : Int) < cn := by omega
        have HLT := Lib.hid hlt
        obtain ⟨u, hu⟩ : ∃ u, u = k * sn := ⟨_, rfl⟩
        have hub : u ≤ 12 * 60 := by rw [hu]; exact Nat.mul_le_mul (by omega) (by omega)
        have wm2 : (k : Int) * (sn : Int) = (u : Int) := by rw [hu]; push_cast; rfl
        have wm : IntKind.i64.wrap ((k : Int) * (sn : Int)) = (u : Int) := by rw [wm2]; exact IntWalk.i64_in _ (by omega)
        obtain ⟨y, hy⟩ : ∃ y : Nat, y = u / cn := ⟨_, rfl⟩
        have hyb : y ≤ 720 := by rw [hy]; have := Nat.div_le_self u cn; omega
        have dv2 : (u : Int) / (cn : Int) = (y : Int) := by rw [hy]; push_cast; rfl
        have dv : (u : Int).tdiv (cn : Int) = (y : Int) := by rw [Int.tdiv_eq_ediv_of_nonneg (by omega)]; exact dv2
        have wv : IntKind.i64.wrap (y : Int) = (y : Int) := IntWalk.i64_in _ (by omega)
        have z0 : ¬ (cn : Int) = 0 := by omega
        have z0n : ¬ cn = 0 := by omega
        have HY2 := Lib.hid (show (y : Int) = ((k * sn / cn : Nat) : Int) from by rw [hy, hu])
        clear hu hy hlt
        go_wp2_with fail
        refine (I1.out _).mono ?_
        rintro e1 w1 ⟨rfl, rfl⟩
        go_wp2_with fail
        refine (I2.out _).mono ?_
        rintro e2 w2 ⟨rfl, rfl⟩
        go_wp2_with (at_builtin; refine wpList_append_lies _ rfl (.tmp 22) (.tmp 28) 24 rfl w.heap.size 3 i0 (.int .i64 0) 1 8 Try.underlying24 hif hz0 hz1 hz2 rfl (by decide) _ k _ rfl (HO.out.alloc _) ⟨_, 0, none⟩ 1 1 _ rfl rfl (World.news_of_block (heap_alloc_new _ _)) (by simp [Value.oneCell']) (by decide) (by unfold maxLen; omega) (by omega) (by have := HB.out.size; simp; omega) _ rfl ?_; intro g1 cap1 w5 hown' hgrow hat hgt)
        have R5 := Lib.hid ((HB.out.alloc HB.out.size _).grown hgrow (Nat.le_trans HB.out.size (by simp)) (fun j hj => (HO.out.lt j hj).1))
        have O5 := Lib.hid (pl_snoc HY2.out hown')
        clear hown' hgrow hat hgt HO HB wm wm2 dv dv2
        go_wp2_with fail
        go_roundw
        case rel => exact ⟨k + 1, HLT.out, by go_num, O5, R5⟩
        case measure => simp [intOf]; have := HLT.out; omega
      · have q3 : ¬ (k : Int) < cn := by omega
        obtain rfl : k = cn := by omega
        go_wp2_with fail
        go_ret
        refine ⟨_, rfl, ?_, HB.out⟩
        rw [HY.out, plTo_len]
        exact HO.out
  · have HY := Lib.hid (show ys = [] from by rw [hf]; exact if_neg hs)
    obtain ⟨z1, hz1'⟩ : ∃ z, z = decide (1 ≤ c ∧ c ≤ 12) := ⟨_, rfl⟩
    obtain ⟨z2, hz2'⟩ : ∃ z, z = decide (c ≤ s ∧ s ≤ 60) := ⟨_, rfl⟩
    rw [← hz1'] at I1
    rw [← hz2'] at I2
    have hzz : z1 = false ∨ z2 = false := by
      by_cases a : 1 ≤ c ∧ c ≤ 12
      · by_cases b : c ≤ s ∧ s ≤ 60
        · exact absurd ⟨a, b⟩ hs
        · exact .inr (by rw [hz2']; exact decide_eq_false b)
      · exact .inl (by rw [hz1']; exact decide_eq_false a)
    clear hs hf hz1' hz2'
    go_enter Try.func16, Try.ntmps16
    go_upto_region 2 with fail
    rw [← hW0, ← hv0]
    clear hW0
    go_wp2_with fail
    go_loopw [5, 6] (fun v x wr => v = v0 ∧ x = .int .i64 0 ∧ wr = W0) (fun _ _ _ => 0)
    case atStart => exact ⟨rfl, rfl, rfl⟩
    case round =>
      obtain ⟨hv, rfl, hwr⟩ := hrel
      subst hwr
      rw [hv]
      have FINL : OwnPost 3 ys w (.returned v0) wr := ⟨v0, rfl, by rw [HY.out]; exact O0.out, B0.out⟩
      have HF := Lib.hid FINL
      clear FINL hv0 hv
      by_cases h0 : 0 < c
      · cases z1
        · go_wp2_with fail
          refine (I1.out _).mono ?_
          rintro e1 w1 ⟨rfl, rfl⟩
          go_wp2_with fail
          go_ret
          exact HF.out
        · obtain rfl : z2 = false := hzz.resolve_left (by simp)
          go_wp2_with fail
          refine (I1.out _).mono ?_
          rintro e1 w1 ⟨rfl, rfl⟩
          go_wp2_with fail
          refine (I2.out _).mono ?_
          rintro e2 w2 ⟨rfl, rfl⟩
          go_wp2_with fail
          go_ret
          exact HF.out
      · go_wp2_with fail
        go_ret
        exact HF.out
/-- Unevenness is no large number. -/
theorem lo_hi_bd {xs : List Int} (hs : ScOk xs) {k : Nat} (hk : k ≤ 12) : (0 ≤ loS xs k ∧ loS xs k ≤ 240) ∧ 0 ≤ hiS xs k ∧ hiS xs k ≤ 240 := by
  obtain ⟨i, _, e1⟩ := lo_has hs.1.1 k
  obtain ⟨j, _, e2⟩ := hi_has hs.1.1 k
  have a := sp_bd hs i k
  have b := sp_bd hs j k
  rw [e1, e2]
  omega
theorem un_bd {xs : List Int} (hs : ScOk xs) : ∀ k, k ≤ 12 → 0 ≤ unTo xs k ∧ unTo xs k ≤ 240 * k
  | 0, _ => by simp [unTo]
  | k + 1, h => by
    have e := un_bd hs k (by omega)
    have d := lo_hi_bd hs (k := k + 1) h
    have l := lo_hi hs.1.1 (k + 1)
    unfold unTo
    omega
def UnAt (xs : List Int) (y : Int) : Prop := y = unF xs
def EvnAt (xs : List Int) (y : Bool) : Prop := y = decide (EvenS xs)
set_option maxRecDepth 100000 in
set_option maxHeartbeats 4000000 in
theorem uneven_spec {xs : List Int} {y : Int} (hf : UnAt xs y) (w : World) (b : Nat) (e : TypeId) (v : Value) (hl : xs.length ≤ 2000000) (h : w.ownsRow b e 1 v xs.length (intCs xs)) :
    Calls Try.prog 28 #[cirV v] w fun en w' => en = .returned (.int .i64 y) ∧ Below w.heap.size w w' := by
  have CO := Lib.hid (fun X (hX : Below w.heap.size w X) => scOk_spec (y := scB xs) rfl X b e v hl (own_below h hX))
  have SP := Lib.hid (fun X (k : Nat) (hX : Below w.heap.size w X) => spans_spec (i := (k : Int)) rfl X b e v hl (own_below h hX))
  have HF := Lib.hid hf
  obtain ⟨n, hn⟩ : ∃ n, n = xs.length := ⟨_, rfl⟩
  rw [← hn] at h
  have HN := Lib.hid hn
  obtain ⟨p, c, rfl⟩ := own_slice h
  obtain ⟨W0, hW0⟩ : ∃ W0, W0 = w.alloc (.cells #[.slice p n c] 26) := ⟨_, rfl⟩
  have B0 : Hid (Below w.heap.size w W0) := Lib.hid (by rw [hW0]; exact below_alloc1 w _)
  have X0 : Hid (One w.heap.size (.slice p n c) W0) := Lib.hid (by rw [hW0]; exact one_alloc)
  clear hf
  by_cases hs : ScOk xs
  · rw [show scB xs = true from decide_eq_true hs] at CO
    have HS := Lib.hid hs
    have hn12 : 1 ≤ n ∧ n ≤ 12 := by rw [hn]; exact hs.1
    clear h hl hn hs
    go_enter Try.func28, Try.ntmps28
    go_upto_region 1 with fail
    rw [← hW0]
    clear hW0
    obtain ⟨m, hm⟩ : ∃ m, m = w.heap.size := ⟨_, rfl⟩
    rw [← hm] at X0 ⊢
    have HM := Lib.hid hm
    clear hm
    go_wp2_with fail
    go_loopw [3, 4] (fun s x wr => ∃ (t : Nat) (S : Int), t ≤ n ∧ S = unTo xs t ∧ s = .int .i64 S ∧ x = .int .i64 ((t : Int) + 1) ∧ Hid (Below W0.heap.size W0 wr)) (fun _ x _ => 14 - (intOf x).toNat)
    case atStart => exact ⟨0, 0, Nat.zero_le _, rfl, rfl, by go_num, Lib.hid (Below.refl _ _)⟩
    case round =>
      obtain ⟨t, S, ht, hS, rfl, rfl, HB⟩ := hrel
      have hb := un_bd HS.out t (by omega)
      rw [← hS] at hb
      have HSS := Lib.hid hS
      clear hS
      obtain ⟨_, c1, _⟩ := one_keep HB.out X0.out
      by_cases hlt : t < n
      · have q3 : (t : Int) + 1 ≤ n := by omega
        have CK := Lib.hid (CO.out wr (B0.out.trans (HB.out.mono B0.out.size)))
        have HLT := Lib.hid hlt
        go_wp2_with fail
        refine CK.out.mono ?_
        rintro e1 w1 ⟨rfl, b1⟩
        have B2 := Lib.hid (HB.out.trans (b1.mono HB.out.size))
        obtain ⟨_, c2, _⟩ := one_keep B2.out X0.out
        have SK := SP.out w1 (t + 1) (B0.out.trans (B2.out.mono B0.out.size))
        rw [sps_yes HS.out (by have := HN.out; omega), show ((t + 1 : Nat) : Int) = (t : Int) + 1 from by omega] at SK
        have SKH := Lib.hid SK
        clear c1 b1 CK HB SK hlt
        go_wp2_with fail
        refine SKH.out.mono ?_
        rintro e2 w2 ⟨v2, rfl, o2, b2⟩
        have B3 := Lib.hid (B2.out.trans (b2.mono B2.out.size))
        have hp := sps_pos HS.out.1.1 (t + 1)
        have hlb := sps_len xs (t + 1) xs.length
        have dlh := lo_hi_bd HS.out (k := t + 1) (by have := HLT.out; omega)
        have llh := lo_hi HS.out.1.1 (t + 1)
        obtain ⟨lo, hlo⟩ : ∃ x, x = loS xs (t + 1) := ⟨_, rfl⟩
        obtain ⟨hi, hhi⟩ : ∃ x, x = hiS xs (t + 1) := ⟨_, rfl⟩
        rw [← hlo, ← hhi] at dlh llh
        obtain ⟨g, cap, rfl, _, _⟩ := own_pos o2 hp
        have q1 := own_icell o2 0 hp
        have q2 := own_icell o2 ((spsTo xs (t + 1) xs.length).length - 1) (by omega)
        rw [show (spsTo xs (t + 1) xs.length).getD 0 0 = lo from hlo.symm] at q1
        rw [show (spsTo xs (t + 1) xs.length).getD ((spsTo xs (t + 1) xs.length).length - 1) 0 = hi from hhi.symm] at q2
        have HU := Lib.hid (show unTo xs (t + 1) = S + hi - lo from by
          show unTo xs t + (hiS xs (t + 1) - loS xs (t + 1)) = _
          rw [← HSS.out, ← hlo, ← hhi]; omega)
        obtain ⟨r, hr⟩ : ∃ r, (spsTo xs (t + 1) xs.length).length = r + 1 := ⟨(spsTo xs (t + 1) xs.length).length - 1, by omega⟩
        rw [hr] at q2 hlb ⊢
        rw [Nat.add_sub_cancel] at q2
        have hr12 : r ≤ 12 := by have := HN.out; omega
        clear hlo hhi o2 b2 hp hr c2 SKH B2
        have z1 : ((r + 1 : Nat) : Int) - 1 = (r : Int) := by omega
        have z2 : (r : Int) < ((r + 1 : Nat) : Int) := by omega
        have z3 : (0 : Int) ≤ (r : Int) := by omega
        have z4 : (0 : Int) < ((r + 1 : Nat) : Int) := by omega
        go_wp2_with fail
        go_quiet (fail)
        go_wp2_with fail
        go_roundw
        case rel => exact ⟨t + 1, S + hi - lo, HLT.out, HU.out.symm, by go_num, by go_num, Lib.hid (B3.out.trans (below_drewN.mono B3.out.size))⟩
        case measure => simp [intOf]; have := HLT.out; omega
      · have q3 : ¬ (t : Int) + 1 ≤ n := by omega
        obtain rfl : t = n := by omega
        have R := Lib.hid (show y = S from by rw [HF.out, HSS.out]; unfold unF; rw [if_pos HS.out, HN.out])
        have B3 := Lib.hid (B0.out.trans (HB.out.mono B0.out.size))
        go_wp2_with fail
        go_ret
        exact ⟨ret_int R.out.symm, B3.out⟩
  · rw [show scB xs = false from decide_eq_false hs] at CO
    have R := Lib.hid (show y = 0 from by rw [HF.out]; exact if_neg hs)
    obtain ⟨_, c0, _⟩ := X0.out
    have CK := Lib.hid (CO.out W0 B0.out)
    clear h hl hn hs CO SP
    go_enter Try.func28, Try.ntmps28
    go_upto_region 1 with fail
    rw [← hW0]
    clear hW0
    go_wp2_with fail
    go_loopw [3, 4] (fun s k wr => s = .int .i64 0 ∧ k = .int .i64 1 ∧ wr = W0) (fun _ _ _ => 0)
    case atStart => exact ⟨rfl, rfl, rfl⟩
    case round =>
      obtain ⟨rfl, rfl, hwr⟩ := hrel
      subst hwr
      by_cases hlt : 1 ≤ n
      · have q3 : (1 : Int) ≤ n := by omega
        go_wp2_with fail
        refine CK.out.mono ?_
        rintro e1 w1 ⟨rfl, b1⟩
        have B3 := Lib.hid (B0.out.trans (b1.mono B0.out.size))
        go_wp2_with fail
        go_ret
        exact ⟨ret_int R.out.symm, B3.out⟩
      · have q3 : ¬ (1 : Int) ≤ n := by omega
        go_wp2_with fail
        go_ret
        exact ⟨ret_int R.out.symm, B0.out⟩
theorem even_end {xs : List Int} (h : ∀ k, k < xs.length + 1 → hiS xs k - loS xs k ≤ 1) : decide (EvenS xs) = scB xs := by
  by_cases hs : ScOk xs
  · rw [show scB xs = true from decide_eq_true hs]
    exact decide_eq_true ⟨hs, h⟩
  · rw [show scB xs = false from decide_eq_false hs]
    exact decide_eq_false (fun q => hs q.1)
/-- What IsEven looks at, in a row of spans. -/
def EvC (L : List Int) : Prop := L.length ≤ 2 ∧ (L.length = 2 → L.getD 1 0 - L.getD 0 0 = 1)
theorem evC_iff {xs : List Int} (h : 0 < xs.length) (k : Nat) : EvC (spsTo xs k xs.length) ↔ hiS xs k - loS xs k ≤ 1 := by
  have hp := sps_pos h k
  have ha := sps_asc xs k xs.length
  unfold EvC hiS loS
  generalize spsTo xs k xs.length = L at hp ha
  constructor
  · rintro ⟨h1, h2⟩
    rcases (show L.length = 1 ∨ L.length = 2 from by omega) with e | e
    · rw [e]
      show L.getD 0 0 - L.getD 0 0 ≤ 1
      omega
    · have := h2 e
      rw [e]
      show L.getD 1 0 - L.getD 0 0 ≤ 1
      omega
  · intro hd
    refine ⟨Classical.byContradiction fun q => ?_, fun e => ?_⟩
    · have h1 := asc_get ha (show 0 < 1 from by omega) (show 1 < L.length from by omega)
      have h2 := asc_get ha (show 1 < L.length - 1 from by omega) (by omega)
      omega
    · have h1 := asc_get ha (show 0 < 1 from by omega) (show 1 < L.length from by omega)
      rw [e] at hd
      have hd' : L.getD 1 0 - L.getD 0 0 ≤ 1 := hd
      omega
theorem evC_nil : EvC [] := ⟨by simp, fun e => by simp at e⟩
/-- The loop's end and a bad row. -/
theorem evn_end {xs : List Int} (h : ∀ k, k < xs.length + 1 → EvC (spsL xs k)) : decide (EvenS xs) = scB xs := by
  by_cases hs : ScOk xs
  · refine even_end fun k hk => (evC_iff hs.1.1 k).1 ?_
    have := h k hk
    rwa [sps_yes hs (by omega)] at this
  · rw [show scB xs = false from decide_eq_false hs]
    exact decide_eq_false (fun q => hs q.1)
theorem evn_bad {xs : List Int} {k : Nat} (hk : k < xs.length + 1) (h : ¬ EvC (spsL xs k)) : decide (EvenS xs) = false :=
  decide_eq_false (fun q : EvenS xs => h (by rw [sps_yes q.1 (by omega)]; exact (evC_iff q.1.1.1 k).2 (q.2 k hk)))
set_option maxRecDepth 100000 in
set_option maxHeartbeats 8000000 in
theorem iseven_spec {xs : List Int} {y : Bool} (hf : EvnAt xs y) (w : World) (b : Nat) (e : TypeId) (v : Value) (hl : xs.length ≤ 2000000) (h : w.ownsRow b e 1 v xs.length (intCs xs)) :
    Calls Try.prog 26 #[cirV v] w fun en w' => en = .returned (.bool y) ∧ Below w.heap.size w w' := by
  have CO := Lib.hid (fun X (hX : Below w.heap.size w X) => scOk_spec (y := scB xs) rfl X b e v hl (own_below h hX))
  have SP := Lib.hid (fun X (k : Nat) (hX : Below w.heap.size w X) => spans_spec (i := (k : Int)) rfl X b e v hl (own_below h hX))
  have HF := Lib.hid hf
  obtain ⟨n, hn⟩ : ∃ n, n = xs.length := ⟨_, rfl⟩
  rw [← hn] at h hl
  have HN := Lib.hid hn
  obtain ⟨p, c, rfl⟩ := own_slice h
  obtain ⟨W0, hW0⟩ : ∃ W0, W0 = w.alloc (.cells #[.slice p n c] 26) := ⟨_, rfl⟩
  have B0 : Hid (Below w.heap.size w W0) := Lib.hid (by rw [hW0]; exact below_alloc1 w _)
  have X0 : Hid (One w.heap.size (.slice p n c) W0) := Lib.hid (by rw [hW0]; exact one_alloc)
  clear h hn hf
  go_enter Try.func26, Try.ntmps26
  go_upto_region 1 with fail
  rw [← hW0]
  obtain ⟨m, hm⟩ : ∃ m, m = w.heap.size := ⟨_, rfl⟩
  rw [← hm] at X0 ⊢
  have HM := Lib.hid hm
  clear hW0 hm
  go_wp2_with fail
  go_loopw [3] (fun x wr => ∃ k : Nat, k ≤ n + 1 ∧ x = .int .i64 (k : Int) ∧ Hid (∀ j, j < k → EvC (spsL xs j)) ∧ Hid (Below W0.heap.size W0 wr)) (fun x _ => n + 2 - (intOf x).toNat)
  case atStart => exact ⟨0, Nat.zero_le _, by go_num, Lib.hid (fun j hj => by omega), Lib.hid (Below.refl _ _)⟩
  case round =>
    obtain ⟨k, hk, rfl, HA, HB⟩ := hrel
    obtain ⟨_, c1', _⟩ := one_keep HB.out X0.out
    by_cases hlt : k ≤ n
    · have q3 : (k : Int) ≤ n := by omega
      have SK := Lib.hid (SP.out wr k (B0.out.trans (HB.out.mono B0.out.size)))
      have HK := Lib.hid hlt
      have hl12 := spsL_len xs k
      obtain ⟨L, hL⟩ : ∃ L, L = spsL xs k := ⟨_, rfl⟩
      rw [← hL] at SK hl12
      have HLL := Lib.hid hL
      clear hlt hL
      go_wp2_with fail
      refine SK.out.mono ?_
      rintro e1 w1 ⟨v1, rfl, o1, b1⟩
      have B2 := Lib.hid (HB.out.trans (b1.mono HB.out.size))
      clear b1 c1' SK
      by_cases h2 : L.length = 2
      · rw [h2] at o1
        obtain ⟨g, c1, rfl, _, _⟩ := own_pos o1 (by omega)
        obtain ⟨x0, hx0⟩ : ∃ x, x = L.getD 0 0 := ⟨_, rfl⟩
        obtain ⟨x1, hx1⟩ : ∃ x, x = L.getD 1 0 := ⟨_, rfl⟩
        have q0 := own_icell o1 0 (by omega)
        have q1 := own_icell o1 1 (by omega)
        rw [← hx0] at q0
        rw [← hx1] at q1
        obtain ⟨dd, hdd⟩ : ∃ d, d = IntKind.i64.wrap (x1 - x0) := ⟨_, rfl⟩
        have wd := hdd.symm
        obtain ⟨z, hz⟩ : ∃ z, z = (dd != 1) := ⟨_, rfl⟩
        have wz := hz.symm
        have HXB : Hid (dd = x1 - x0) := Lib.hid (by
          have hm : ∀ t, t < 2 → 0 ≤ L.getD t 0 ∧ L.getD t 0 ≤ 240 := fun t ht => by
            rw [HLL.out]
            have hmem : L.getD t 0 ∈ L := get_mem (by omega)
            rw [HLL.out] at hmem
            unfold spsL at hmem ⊢
            by_cases hin : SpsIn xs (k : Int)
            · rw [if_pos hin] at hmem ⊢
              obtain ⟨i, _, ei⟩ := (sps_mem xs _ _ _).1 hmem
              rw [ei]
              have a := sp_bd hin.1 i (k : Int).toNat
              have := hin.1.1
              have := hin.2
              omega
            · rw [if_neg hin] at hmem; simp at hmem
          have a := hm 0 (by omega)
          have b := hm 1 (by omega)
          rw [← hx0] at a
          rw [← hx1] at b
          rw [hdd]
          exact IntWalk.i64_in _ (by omega))
        have HE := Lib.hid (show z = false ↔ EvC (spsL xs k) from by
          rw [← HLL.out, hz, HXB.out, hx0, hx1]
          unfold EvC
          rw [h2]
          simp)
        clear hx0 hx1 hdd hz h2 o1
        go_upto_region 5 with fail
        refine wp_region_held_drew (S := (fun w' => w'.cell? ⟨g, 1, none⟩ = some (.int .i64 x1) ∧ w'.cell? ⟨g, 0, none⟩ = some (.int .i64 x0))) (by kernel_rfl) ?_ (fun hHeld => ?_)
        · exact ⟨q1, q0⟩
        refine takeD (i := 0) (d := (some 15)) (v := (.slice (some ⟨g, 0, none⟩) 2 c1)) rfl rfl (by kernel_rfl) (by kernel_rfl) (by kernel_rfl) (fun _ _ _ h => h) (Or.inl ⟨by kernel_rfl, ?_⟩) (by assumption) ?_
        · intro wS hSw
          (try dsimp only at hSw)
          go_simp
          first | done | assumption | (simp; done) | (simp; omega)
        (try simp only [Act.put]); (try simp only [List.setIfInBounds_toArray]); (try simp only [List.set_cons_succ]); (try simp only [List.set_cons_zero])
        refine takeD (i := 1) (d := (some 16)) (v := (.int .i64 2)) rfl rfl (by kernel_rfl) (by kernel_rfl) (by kernel_rfl) (fun _ _ _ h => h) (Or.inl ⟨by kernel_rfl, ?_⟩) (by assumption) ?_
        · intro wS hSw
          (try dsimp only at hSw)
          go_simp
          first | done | assumption | (simp; done) | (simp; omega)
        (try simp only [Act.put]); (try simp only [List.setIfInBounds_toArray]); (try simp only [List.set_cons_succ]); (try simp only [List.set_cons_zero])
        refine takeD (i := 2) (d := (some 17)) (v := (.bool false)) rfl rfl (by kernel_rfl) (by kernel_rfl) (by kernel_rfl) (fun _ _ _ h => h) (Or.inl ⟨by kernel_rfl, ?_⟩) (by assumption) ?_
        · intro wS hSw
          (try dsimp only at hSw)
          go_simp
          first | done | assumption | (simp; done) | (simp; omega)
        (try simp only [Act.put]); (try simp only [List.setIfInBounds_toArray]); (try simp only [List.set_cons_succ]); (try simp only [List.set_cons_zero])
        refine takeD (i := 3) (d := (some 18)) (v := (.bool false)) rfl rfl (by kernel_rfl) (by kernel_rfl) (by kernel_rfl) (fun _ _ _ h => h) (Or.inl ⟨by kernel_rfl, ?_⟩) (by assumption) ?_
        · intro wS hSw
          (try dsimp only at hSw)
          go_simp
          first | done | assumption | (simp; done) | (simp; omega)
        (try simp only [Act.put]); (try simp only [List.setIfInBounds_toArray]); (try simp only [List.set_cons_succ]); (try simp only [List.set_cons_zero])
        refine takeD (i := 4) (d := (some 19)) (v := (.slice (some ⟨g, 0, none⟩) 2 c1)) rfl rfl (by kernel_rfl) (by kernel_rfl) (by kernel_rfl) (fun _ _ _ h => h) (Or.inl ⟨by kernel_rfl, ?_⟩) (by assumption) ?_
        · intro wS hSw
          (try dsimp only at hSw)
          go_simp
          first | done | assumption | (simp; done) | (simp; omega)
        (try simp only [Act.put]); (try simp only [List.setIfInBounds_toArray]); (try simp only [List.set_cons_succ]); (try simp only [List.set_cons_zero])
        refine takeD (i := 5) (d := (some 20)) (v := (.int .i64 2)) rfl rfl (by kernel_rfl) (by kernel_rfl) (by kernel_rfl) (fun _ _ _ h => h) (Or.inl ⟨by kernel_rfl, ?_⟩) (by assumption) ?_
        · intro wS hSw
          (try dsimp only at hSw)
          go_simp
          first | done | assumption | (simp; done) | (simp; omega)
        (try simp only [Act.put]); (try simp only [List.setIfInBounds_toArray]); (try simp only [List.set_cons_succ]); (try simp only [List.set_cons_zero])
        refine takeD (i := 6) (d := (some 21)) (v := (.bool true)) rfl rfl (by kernel_rfl) (by kernel_rfl) (by kernel_rfl) (fun _ _ _ h => h) (Or.inl ⟨by kernel_rfl, ?_⟩) (by assumption) ?_
        · intro wS hSw
          (try dsimp only at hSw)
          go_simp
          first | done | assumption | (simp; done) | (simp; omega)
        (try simp only [Act.put]); (try simp only [List.setIfInBounds_toArray]); (try simp only [List.set_cons_succ]); (try simp only [List.set_cons_zero])
        refine takeD (i := 7) (d := (some 22)) (v := (.bool true)) rfl rfl (by kernel_rfl) (by kernel_rfl) (by kernel_rfl) (fun _ _ _ h => h) (Or.inl ⟨by kernel_rfl, ?_⟩) (by assumption) ?_
        · intro wS hSw
          (try dsimp only at hSw)
          go_simp
          first | done | assumption | (simp; done) | (simp; omega)
        (try simp only [Act.put]); (try simp only [List.setIfInBounds_toArray]); (try simp only [List.set_cons_succ]); (try simp only [List.set_cons_zero])
        refine takeD (i := 8) (d := (some 23)) (v := (.slice (some ⟨g, 0, none⟩) 2 c1)) rfl rfl (by kernel_rfl) (by kernel_rfl) (by kernel_rfl) (fun _ _ _ h => h) (Or.inl ⟨by kernel_rfl, ?_⟩) (by assumption) ?_
        · intro wS hSw
          (try dsimp only at hSw)
          go_simp
          first | done | assumption | (simp; done) | (simp; omega)
        (try simp only [Act.put]); (try simp only [List.setIfInBounds_toArray]); (try simp only [List.set_cons_succ]); (try simp only [List.set_cons_zero])
        refine takeD (i := 9) (d := (some 24)) (v := (.pointer (some ⟨g, 1, none⟩))) rfl rfl (by kernel_rfl) (by kernel_rfl) (by kernel_rfl) (fun _ _ _ h => h) (Or.inl ⟨by kernel_rfl, ?_⟩) (by assumption) ?_
        · intro wS hSw
          (try dsimp only at hSw)
          go_simp
          first | done | assumption | (simp; done) | (simp; omega)
        (try simp only [Act.put]); (try simp only [List.setIfInBounds_toArray]); (try simp only [List.set_cons_succ]); (try simp only [List.set_cons_zero])
        refine takeD (i := 10) (d := (some 25)) (v := (.int .i64 x1)) rfl rfl (by kernel_rfl) (by kernel_rfl) (by kernel_rfl) (fun _ _ _ h => h) (Or.inl ⟨by kernel_rfl, ?_⟩) (by assumption) ?_
        · intro wS hSw
          (try dsimp only at hSw)
          go_simp
          first | done | assumption | (simp; done) | (simp; omega)
        (try simp only [Act.put]); (try simp only [List.setIfInBounds_toArray]); (try simp only [List.set_cons_succ]); (try simp only [List.set_cons_zero])
        refine takeD (i := 11) (d := (some 26)) (v := (.slice (some ⟨g, 0, none⟩) 2 c1)) rfl rfl (by kernel_rfl) (by kernel_rfl) (by kernel_rfl) (fun _ _ _ h => h) (Or.inl ⟨by kernel_rfl, ?_⟩) (by assumption) ?_
        · intro wS hSw
          (try dsimp only at hSw)
          go_simp
          first | done | assumption | (simp; done) | (simp; omega)
        (try simp only [Act.put]); (try simp only [List.setIfInBounds_toArray]); (try simp only [List.set_cons_succ]); (try simp only [List.set_cons_zero])
        refine takeD (i := 12) (d := (some 27)) (v := (.pointer (some ⟨g, 0, none⟩))) rfl rfl (by kernel_rfl) (by kernel_rfl) (by kernel_rfl) (fun _ _ _ h => h) (Or.inl ⟨by kernel_rfl, ?_⟩) (by assumption) ?_
        · intro wS hSw
          (try dsimp only at hSw)
          go_simp
          first | done | assumption | (simp; done) | (simp; omega)
        (try simp only [Act.put]); (try simp only [List.setIfInBounds_toArray]); (try simp only [List.set_cons_succ]); (try simp only [List.set_cons_zero])
        refine takeD (i := 13) (d := (some 28)) (v := (.int .i64 x0)) rfl rfl (by kernel_rfl) (by kernel_rfl) (by kernel_rfl) (fun _ _ _ h => h) (Or.inl ⟨by kernel_rfl, ?_⟩) (by assumption) ?_
        · intro wS hSw
          (try dsimp only at hSw)
          go_simp
          first | done | assumption | (simp; done) | (simp; omega)
        (try simp only [Act.put]); (try simp only [List.setIfInBounds_toArray]); (try simp only [List.set_cons_succ]); (try simp only [List.set_cons_zero])
        refine takeD (i := 14) (d := (some 29)) (v := (.int .i64 dd)) rfl rfl (by kernel_rfl) (by kernel_rfl) (by kernel_rfl) (fun _ _ _ h => h) (Or.inl ⟨by kernel_rfl, ?_⟩) (by assumption) ?_
        · intro wS hSw
          (try dsimp only at hSw)
          go_simp
          first | done | assumption | (simp; done) | (simp; omega)
        (try simp only [Act.put]); (try simp only [List.setIfInBounds_toArray]); (try simp only [List.set_cons_succ]); (try simp only [List.set_cons_zero])
        refine takeD (i := 15) (d := (some 30)) (v := (.bool z)) rfl rfl (by kernel_rfl) (by kernel_rfl) (by kernel_rfl) (fun _ _ _ h => h) (Or.inl ⟨by kernel_rfl, ?_⟩) (by assumption) ?_
        · intro wS hSw
          (try dsimp only at hSw)
          go_simp
          first | done | assumption | (simp; done) | (simp; omega)
        (try simp only [Act.put]); (try simp only [List.setIfInBounds_toArray]); (try simp only [List.set_cons_succ]); (try simp only [List.set_cons_zero])
        refine takeD (i := 16) (d := (some 31)) (v := (.bool z)) rfl rfl (by kernel_rfl) (by kernel_rfl) (by kernel_rfl) (fun _ _ _ h => h) (Or.inl ⟨by kernel_rfl, ?_⟩) (by assumption) ?_
        · intro wS hSw
          (try dsimp only at hSw)
          go_simp
          first | done | assumption | (simp; done) | (simp; omega)
        (try simp only [Act.put]); (try simp only [List.setIfInBounds_toArray]); (try simp only [List.set_cons_succ]); (try simp only [List.set_cons_zero])
        refine takeD (i := 17) (d := (some 32)) (v := (.bool z)) rfl rfl (by kernel_rfl) (by kernel_rfl) (by kernel_rfl) (fun _ _ _ h => h) (Or.inl ⟨by kernel_rfl, ?_⟩) (by assumption) ?_
        · intro wS hSw
          (try dsimp only at hSw)
          go_simp
          first | done | assumption | (simp; done) | (simp; omega)
        (try simp only [Act.put]); (try simp only [List.setIfInBounds_toArray]); (try simp only [List.set_cons_succ]); (try simp only [List.set_cons_zero])
        refine wpAnyH_done (by kernel_rfl) ?_ _
        cases z
        · go_wp2_with fail
          go_roundw
          case rel => exact ⟨k + 1, by have := HK.out; omega, by go_num, Lib.hid (fun j hj => (show j < k ∨ j = k from by omega).elim (HA.out j) (fun e => by rw [e]; exact HE.out.1 rfl)), Lib.hid B2.out.drew⟩
          case measure => simp [intOf]; have := HK.out; omega
        · have R := Lib.hid (show y = false from by rw [HF.out]; exact evn_bad (k := k) (by have := HN.out; have := HK.out; omega) (fun q => by cases HE.out.2 q))
          have B3 := Lib.hid (B0.out.trans (B2.out.drew.mono B0.out.size))
          go_wp2_with fail
          go_ret
          exact ⟨ret_bool R.out.symm, B3.out⟩
      · obtain ⟨l, hll⟩ : ∃ l, l = L.length := ⟨_, rfl⟩
        rw [← hll] at o1 hl12
        obtain ⟨p1, c1, rfl⟩ := own_slice o1
        have hl2 : ¬ l = 2 := by omega
        clear o1
        by_cases h3 : 2 < l
        · have R := Lib.hid (show y = false from by rw [HF.out]; exact evn_bad (k := k) (by have := HN.out; have := HK.out; omega) (fun q => by have := q.1; rw [← HLL.out] at this; omega))
          have q4 : (2 : Int) < l := by omega
          have B3 := Lib.hid (B0.out.trans (B2.out.drew.mono B0.out.size))
          clear hll h2 hl2
          go_upto_region 5 with fail
          refine wp_region_held_drew (S := (fun _ => True)) (by kernel_rfl) ?_ (fun hHeld => ?_)
          · exact trivial
          refine takeD (i := 0) (d := (some 15)) (v := (.slice p1 l c1)) rfl rfl (by kernel_rfl) (by kernel_rfl) (by kernel_rfl) (fun _ _ _ h => h) (Or.inl ⟨by kernel_rfl, ?_⟩) (by assumption) ?_
          · intro wS hSw
            (try dsimp only at hSw)
            go_simp
            first | done | assumption | (simp; done) | (simp; omega)
          (try simp only [Act.put]); (try simp only [List.setIfInBounds_toArray]); (try simp only [List.set_cons_succ]); (try simp only [List.set_cons_zero])
          refine takeD (i := 1) (d := (some 16)) (v := (.int .i64 (l : Int))) rfl rfl (by kernel_rfl) (by kernel_rfl) (by kernel_rfl) (fun _ _ _ h => h) (Or.inl ⟨by kernel_rfl, ?_⟩) (by assumption) ?_
          · intro wS hSw
            (try dsimp only at hSw)
            go_simp
            first | done | assumption | (simp; done) | (simp; omega)
          (try simp only [Act.put]); (try simp only [List.setIfInBounds_toArray]); (try simp only [List.set_cons_succ]); (try simp only [List.set_cons_zero])
          refine takeD (i := 2) (d := (some 17)) (v := (.bool true)) rfl rfl (by kernel_rfl) (by kernel_rfl) (by kernel_rfl) (fun _ _ _ h => h) (Or.inl ⟨by kernel_rfl, ?_⟩) (by assumption) ?_
          · intro wS hSw
            (try dsimp only at hSw)
            go_simp
            first | done | assumption | (simp; done) | (simp; omega)
          (try simp only [Act.put]); (try simp only [List.setIfInBounds_toArray]); (try simp only [List.set_cons_succ]); (try simp only [List.set_cons_zero])
          refine takeD (i := 3) (d := (some 18)) (v := (.bool true)) rfl rfl (by kernel_rfl) (by kernel_rfl) (by kernel_rfl) (fun _ _ _ h => h) (Or.inl ⟨by kernel_rfl, ?_⟩) (by assumption) ?_
          · intro wS hSw
            (try dsimp only at hSw)
            go_simp
            first | done | assumption | (simp; done) | (simp; omega)
          (try simp only [Act.put]); (try simp only [List.setIfInBounds_toArray]); (try simp only [List.set_cons_succ]); (try simp only [List.set_cons_zero])
          refine takeD (i := 4) (d := (some 19)) (v := undef) rfl rfl (by kernel_rfl) (by kernel_rfl) (by kernel_rfl) (fun _ _ _ h => h) (Or.inr ⟨by kernel_rfl, rfl⟩) (by assumption) ?_
          (try simp only [Act.put]); (try simp only [List.setIfInBounds_toArray]); (try simp only [List.set_cons_succ]); (try simp only [List.set_cons_zero])
          refine takeD (i := 5) (d := (some 20)) (v := undef) rfl rfl (by kernel_rfl) (by kernel_rfl) (by kernel_rfl) (fun _ _ _ h => h) (Or.inr ⟨by kernel_rfl, rfl⟩) (by assumption) ?_
          (try simp only [Act.put]); (try simp only [List.setIfInBounds_toArray]); (try simp only [List.set_cons_succ]); (try simp only [List.set_cons_zero])
          refine takeD (i := 6) (d := (some 21)) (v := undef) rfl rfl (by kernel_rfl) (by kernel_rfl) (by kernel_rfl) (fun _ _ _ h => h) (Or.inr ⟨by kernel_rfl, rfl⟩) (by assumption) ?_
          (try simp only [Act.put]); (try simp only [List.setIfInBounds_toArray]); (try simp only [List.set_cons_succ]); (try simp only [List.set_cons_zero])
          refine takeD (i := 7) (d := (some 22)) (v := undef) rfl rfl (by kernel_rfl) (by kernel_rfl) (by kernel_rfl) (fun _ _ _ h => h) (Or.inr ⟨by kernel_rfl, rfl⟩) (by assumption) ?_
          (try simp only [Act.put]); (try simp only [List.setIfInBounds_toArray]); (try simp only [List.set_cons_succ]); (try simp only [List.set_cons_zero])
          refine takeD (i := 8) (d := (some 23)) (v := undef) rfl rfl (by kernel_rfl) (by kernel_rfl) (by kernel_rfl) (fun _ _ _ h => h) (Or.inr ⟨by kernel_rfl, rfl⟩) (by assumption) ?_
          (try simp only [Act.put]); (try simp only [List.setIfInBounds_toArray]); (try simp only [List.set_cons_succ]); (try simp only [List.set_cons_zero])
          refine takeD (i := 9) (d := (some 24)) (v := undef) rfl rfl (by kernel_rfl) (by kernel_rfl) (by kernel_rfl) (fun _ _ _ h => h) (Or.inr ⟨by kernel_rfl, rfl⟩) (by assumption) ?_
          (try simp only [Act.put]); (try simp only [List.setIfInBounds_toArray]); (try simp only [List.set_cons_succ]); (try simp only [List.set_cons_zero])
          refine takeD (i := 10) (d := (some 25)) (v := undef) rfl rfl (by kernel_rfl) (by kernel_rfl) (by kernel_rfl) (fun _ _ _ h => h) (Or.inr ⟨by kernel_rfl, rfl⟩) (by assumption) ?_
          (try simp only [Act.put]); (try simp only [List.setIfInBounds_toArray]); (try simp only [List.set_cons_succ]); (try simp only [List.set_cons_zero])
          refine takeD (i := 11) (d := (some 26)) (v := undef) rfl rfl (by kernel_rfl) (by kernel_rfl) (by kernel_rfl) (fun _ _ _ h => h) (Or.inr ⟨by kernel_rfl, rfl⟩) (by assumption) ?_
          (try simp only [Act.put]); (try simp only [List.setIfInBounds_toArray]); (try simp only [List.set_cons_succ]); (try simp only [List.set_cons_zero])
          refine takeD (i := 12) (d := (some 27)) (v := undef) rfl rfl (by kernel_rfl) (by kernel_rfl) (by kernel_rfl) (fun _ _ _ h => h) (Or.inr ⟨by kernel_rfl, rfl⟩) (by assumption) ?_
          (try simp only [Act.put]); (try simp only [List.setIfInBounds_toArray]); (try simp only [List.set_cons_succ]); (try simp only [List.set_cons_zero])
          refine takeD (i := 13) (d := (some 28)) (v := undef) rfl rfl (by kernel_rfl) (by kernel_rfl) (by kernel_rfl) (fun _ _ _ h => h) (Or.inr ⟨by kernel_rfl, rfl⟩) (by assumption) ?_
          (try simp only [Act.put]); (try simp only [List.setIfInBounds_toArray]); (try simp only [List.set_cons_succ]); (try simp only [List.set_cons_zero])
          refine takeD (i := 14) (d := (some 29)) (v := undef) rfl rfl (by kernel_rfl) (by kernel_rfl) (by kernel_rfl) (fun _ _ _ h => h) (Or.inr ⟨by kernel_rfl, rfl⟩) (by assumption) ?_
          (try simp only [Act.put]); (try simp only [List.setIfInBounds_toArray]); (try simp only [List.set_cons_succ]); (try simp only [List.set_cons_zero])
          refine takeD (i := 15) (d := (some 30)) (v := undef) rfl rfl (by kernel_rfl) (by kernel_rfl) (by kernel_rfl) (fun _ _ _ h => h) (Or.inr ⟨by kernel_rfl, rfl⟩) (by assumption) ?_
          (try simp only [Act.put]); (try simp only [List.setIfInBounds_toArray]); (try simp only [List.set_cons_succ]); (try simp only [List.set_cons_zero])
          refine takeD (i := 16) (d := (some 31)) (v := undef) rfl rfl (by kernel_rfl) (by kernel_rfl) (by kernel_rfl) (fun _ _ _ h => h) (Or.inr ⟨by kernel_rfl, rfl⟩) (by assumption) ?_
          (try simp only [Act.put]); (try simp only [List.setIfInBounds_toArray]); (try simp only [List.set_cons_succ]); (try simp only [List.set_cons_zero])
          refine takeD (i := 17) (d := (some 32)) (v := (.bool true)) rfl rfl (by kernel_rfl) (by kernel_rfl) (by kernel_rfl) (fun _ _ _ h => h) (Or.inl ⟨by kernel_rfl, ?_⟩) (by assumption) ?_
          · intro wS hSw
            (try dsimp only at hSw)
            go_simp
            first | done | assumption | (simp; done) | (simp; omega)
          (try simp only [Act.put]); (try simp only [List.setIfInBounds_toArray]); (try simp only [List.set_cons_succ]); (try simp only [List.set_cons_zero])
          refine wpAnyH_done (by kernel_rfl) ?_ _
          go_wp2_with fail
          go_ret
          exact ⟨ret_bool R.out.symm, B3.out⟩
        · have HE := Lib.hid (show EvC (spsL xs k) from ⟨by rw [← HLL.out]; omega, fun e => by rw [← HLL.out] at e; exact absurd e h2⟩)
          have q4 : ¬ (2 : Int) < l := by omega
          have q5 : ((l : Int) == 2) = false := by simp; omega
          clear hll h2
          go_upto_region 5 with fail
          refine wp_region_held_drew (S := (fun _ => True)) (by kernel_rfl) ?_ (fun hHeld => ?_)
          · exact trivial
          refine takeD (i := 0) (d := (some 15)) (v := (.slice p1 l c1)) rfl rfl (by kernel_rfl) (by kernel_rfl) (by kernel_rfl) (fun _ _ _ h => h) (Or.inl ⟨by kernel_rfl, ?_⟩) (by assumption) ?_
          · intro wS hSw
            (try dsimp only at hSw)
            go_simp
            first | done | assumption | (simp; done) | (simp; omega)
          (try simp only [Act.put]); (try simp only [List.setIfInBounds_toArray]); (try simp only [List.set_cons_succ]); (try simp only [List.set_cons_zero])
          refine takeD (i := 1) (d := (some 16)) (v := (.int .i64 (l : Int))) rfl rfl (by kernel_rfl) (by kernel_rfl) (by kernel_rfl) (fun _ _ _ h => h) (Or.inl ⟨by kernel_rfl, ?_⟩) (by assumption) ?_
          · intro wS hSw
            (try dsimp only at hSw)
            go_simp
            first | done | assumption | (simp; done) | (simp; omega)
          (try simp only [Act.put]); (try simp only [List.setIfInBounds_toArray]); (try simp only [List.set_cons_succ]); (try simp only [List.set_cons_zero])
          refine takeD (i := 2) (d := (some 17)) (v := (.bool false)) rfl rfl (by kernel_rfl) (by kernel_rfl) (by kernel_rfl) (fun _ _ _ h => h) (Or.inl ⟨by kernel_rfl, ?_⟩) (by assumption) ?_
          · intro wS hSw
            (try dsimp only at hSw)
            go_simp
            first | done | assumption | (simp; done) | (simp; omega)
          (try simp only [Act.put]); (try simp only [List.setIfInBounds_toArray]); (try simp only [List.set_cons_succ]); (try simp only [List.set_cons_zero])
          refine takeD (i := 3) (d := (some 18)) (v := (.bool false)) rfl rfl (by kernel_rfl) (by kernel_rfl) (by kernel_rfl) (fun _ _ _ h => h) (Or.inl ⟨by kernel_rfl, ?_⟩) (by assumption) ?_
          · intro wS hSw
            (try dsimp only at hSw)
            go_simp
            first | done | assumption | (simp; done) | (simp; omega)
          (try simp only [Act.put]); (try simp only [List.setIfInBounds_toArray]); (try simp only [List.set_cons_succ]); (try simp only [List.set_cons_zero])
          refine takeD (i := 4) (d := (some 19)) (v := (.slice p1 l c1)) rfl rfl (by kernel_rfl) (by kernel_rfl) (by kernel_rfl) (fun _ _ _ h => h) (Or.inl ⟨by kernel_rfl, ?_⟩) (by assumption) ?_
          · intro wS hSw
            (try dsimp only at hSw)
            go_simp
            first | done | assumption | (simp; done) | (simp; omega)
          (try simp only [Act.put]); (try simp only [List.setIfInBounds_toArray]); (try simp only [List.set_cons_succ]); (try simp only [List.set_cons_zero])
          refine takeD (i := 5) (d := (some 20)) (v := (.int .i64 (l : Int))) rfl rfl (by kernel_rfl) (by kernel_rfl) (by kernel_rfl) (fun _ _ _ h => h) (Or.inl ⟨by kernel_rfl, ?_⟩) (by assumption) ?_
          · intro wS hSw
            (try dsimp only at hSw)
            go_simp
            first | done | assumption | (simp; done) | (simp; omega)
          (try simp only [Act.put]); (try simp only [List.setIfInBounds_toArray]); (try simp only [List.set_cons_succ]); (try simp only [List.set_cons_zero])
          refine takeD (i := 6) (d := (some 21)) (v := (.bool false)) rfl rfl (by kernel_rfl) (by kernel_rfl) (by kernel_rfl) (fun _ _ _ h => h) (Or.inl ⟨by kernel_rfl, ?_⟩) (by assumption) ?_
          · intro wS hSw
            (try dsimp only at hSw)
            go_simp
            first | done | assumption | (simp; done) | (simp; omega)
          (try simp only [Act.put]); (try simp only [List.setIfInBounds_toArray]); (try simp only [List.set_cons_succ]); (try simp only [List.set_cons_zero])
          refine takeD (i := 7) (d := (some 22)) (v := (.bool false)) rfl rfl (by kernel_rfl) (by kernel_rfl) (by kernel_rfl) (fun _ _ _ h => h) (Or.inl ⟨by kernel_rfl, ?_⟩) (by assumption) ?_
          · intro wS hSw
            (try dsimp only at hSw)
            go_simp
            first | done | assumption | (simp; done) | (simp; omega)
          (try simp only [Act.put]); (try simp only [List.setIfInBounds_toArray]); (try simp only [List.set_cons_succ]); (try simp only [List.set_cons_zero])
          refine takeD (i := 8) (d := (some 23)) (v := undef) rfl rfl (by kernel_rfl) (by kernel_rfl) (by kernel_rfl) (fun _ _ _ h => h) (Or.inr ⟨by kernel_rfl, rfl⟩) (by assumption) ?_
          (try simp only [Act.put]); (try simp only [List.setIfInBounds_toArray]); (try simp only [List.set_cons_succ]); (try simp only [List.set_cons_zero])
          refine takeD (i := 9) (d := (some 24)) (v := undef) rfl rfl (by kernel_rfl) (by kernel_rfl) (by kernel_rfl) (fun _ _ _ h => h) (Or.inr ⟨by kernel_rfl, rfl⟩) (by assumption) ?_
          (try simp only [Act.put]); (try simp only [List.setIfInBounds_toArray]); (try simp only [List.set_cons_succ]); (try simp only [List.set_cons_zero])
          refine takeD (i := 10) (d := (some 25)) (v := undef) rfl rfl (by kernel_rfl) (by kernel_rfl) (by kernel_rfl) (fun _ _ _ h => h) (Or.inr ⟨by kernel_rfl, rfl⟩) (by assumption) ?_
          (try simp only [Act.put]); (try simp only [List.setIfInBounds_toArray]); (try simp only [List.set_cons_succ]); (try simp only [List.set_cons_zero])
          refine takeD (i := 11) (d := (some 26)) (v := undef) rfl rfl (by kernel_rfl) (by kernel_rfl) (by kernel_rfl) (fun _ _ _ h => h) (Or.inr ⟨by kernel_rfl, rfl⟩) (by assumption) ?_
          (try simp only [Act.put]); (try simp only [List.setIfInBounds_toArray]); (try simp only [List.set_cons_succ]); (try simp only [List.set_cons_zero])
          refine takeD (i := 12) (d := (some 27)) (v := undef) rfl rfl (by kernel_rfl) (by kernel_rfl) (by kernel_rfl) (fun _ _ _ h => h) (Or.inr ⟨by kernel_rfl, rfl⟩) (by assumption) ?_
          (try simp only [Act.put]); (try simp only [List.setIfInBounds_toArray]); (try simp only [List.set_cons_succ]); (try simp only [List.set_cons_zero])
          refine takeD (i := 13) (d := (some 28)) (v := undef) rfl rfl (by kernel_rfl) (by kernel_rfl) (by kernel_rfl) (fun _ _ _ h => h) (Or.inr ⟨by kernel_rfl, rfl⟩) (by assumption) ?_
          (try simp only [Act.put]); (try simp only [List.setIfInBounds_toArray]); (try simp only [List.set_cons_succ]); (try simp only [List.set_cons_zero])
          refine takeD (i := 14) (d := (some 29)) (v := undef) rfl rfl (by kernel_rfl) (by kernel_rfl) (by kernel_rfl) (fun _ _ _ h => h) (Or.inr ⟨by kernel_rfl, rfl⟩) (by assumption) ?_
          (try simp only [Act.put]); (try simp only [List.setIfInBounds_toArray]); (try simp only [List.set_cons_succ]); (try simp only [List.set_cons_zero])
          refine takeD (i := 15) (d := (some 30)) (v := undef) rfl rfl (by kernel_rfl) (by kernel_rfl) (by kernel_rfl) (fun _ _ _ h => h) (Or.inr ⟨by kernel_rfl, rfl⟩) (by assumption) ?_
          (try simp only [Act.put]); (try simp only [List.setIfInBounds_toArray]); (try simp only [List.set_cons_succ]); (try simp only [List.set_cons_zero])
          refine takeD (i := 16) (d := (some 31)) (v := (.bool false)) rfl rfl (by kernel_rfl) (by kernel_rfl) (by kernel_rfl) (fun _ _ _ h => h) (Or.inl ⟨by kernel_rfl, ?_⟩) (by assumption) ?_
          · intro wS hSw
            (try dsimp only at hSw)
            go_simp
            first | done | assumption | (simp; done) | (simp; omega)
          (try simp only [Act.put]); (try simp only [List.setIfInBounds_toArray]); (try simp only [List.set_cons_succ]); (try simp only [List.set_cons_zero])
          refine takeD (i := 17) (d := (some 32)) (v := (.bool false)) rfl rfl (by kernel_rfl) (by kernel_rfl) (by kernel_rfl) (fun _ _ _ h => h) (Or.inl ⟨by kernel_rfl, ?_⟩) (by assumption) ?_
          · intro wS hSw
            (try dsimp only at hSw)
            go_simp
            first | done | assumption | (simp; done) | (simp; omega)
          (try simp only [Act.put]); (try simp only [List.setIfInBounds_toArray]); (try simp only [List.set_cons_succ]); (try simp only [List.set_cons_zero])
          refine wpAnyH_done (by kernel_rfl) ?_ _
          go_wp2_with fail
          go_roundw
          case rel => exact ⟨k + 1, by have := HK.out; omega, by go_num, Lib.hid (fun j hj => (show j < k ∨ j = k from by omega).elim (HA.out j) (fun e => by rw [e]; exact HE.out)), Lib.hid B2.out.drew⟩
          case measure => simp [intOf]; have := HK.out; omega
    · have q3 : ¬ (k : Int) ≤ n := by omega
      have R := Lib.hid (show y = scB xs from by rw [HF.out]; exact evn_end (fun j hj => HA.out j (by have := HN.out; omega)))
      have CK := Lib.hid (CO.out wr (B0.out.trans (HB.out.mono B0.out.size)))
      have B3 := Lib.hid (B0.out.trans (HB.out.mono B0.out.size))
      obtain ⟨z, hz⟩ : ∃ z, z = scB xs := ⟨_, rfl⟩
      rw [← hz] at CK R
      clear hz
      go_wp2_with fail
      refine CK.out.mono ?_
      rintro e1 w1 ⟨rfl, b1⟩
      have B4 := Lib.hid (B3.out.trans (b1.mono B3.out.size))
      clear b1
      go_wp2_with fail
      go_ret
      exact ⟨ret_bool R.out.symm, B4.out⟩
end Go.Proofs.Ytppbcjpabmllnaa
