/- Contract of spec.EvenScale. Written by evensc.py. -/
import Derived.Test.YtppbcjpabmllnaaEvenFacts
import Derived.Test.YtppbcjpabmllnaaSEven
import Derived.RangeFuncBox
import Derived.Deep.RegionLaw
import Derived.Deep.DeepCutAuto
namespace Go.Proofs.Ytppbcjpabmllnaa
open Go.RowKit Go.Joins
set_option linter.unusedVariables false
theorem df_snoc {w : World} {B g cap k c s : Nat} {e : TypeId} {y : Int} (hy : y = (((k + 1) * s / c : Nat) : Int) - ((k * s / c : Nat) : Int)) (h : w.ownsRow B e 1 (.slice (some ⟨g, 0, none⟩) (k + 1) cap) (k + 1) (intCs (dfTo c s k) ++ [.int .i64 y])) : w.ownsRow B e 1 (.slice (some ⟨g, 0, none⟩) (k + 1) cap) (k + 1) (intCs (dfTo c s (k + 1))) := by
  have e1 : intCs (dfTo c s (k + 1)) = intCs (dfTo c s k) ++ [.int .i64 y] := by
    show intCs (dfTo c s k ++ [(((k + 1) * s / c : Nat) : Int) - ((k * s / c : Nat) : Int)]) = _
    rw [← hy]
    simp [intCs]
  rw [e1]
  exact h
/-- A row is kept where a box that is not its block is written. -/
theorem ownsRow_keepS {w : World} {base n m : Nat} {e : TypeId} {v : Value} {xs : List Value} (h : w.ownsRow base e 1 v n xs) (hm : ∀ g, v.ownBlock = some g → g < m) (u : Value) : (w.setCell ⟨m, 0, none⟩ u).ownsRow base e 1 v n xs := by
  refine own_grownC h (grownBy_setCell' w m u) (fun g hg e => ?_)
  have := hm g hg
  injection e
  omega
set_option maxRecDepth 100000 in
set_option maxHeartbeats 8000000 in
theorem evenscale_spec {c0 s0 : Int} {ys : List Int} (hf : EsAt c0 s0 ys) (w : World) :
    Calls Try.prog 21 #[.int .i64 c0, .int .i64 s0] w (CirPost ys w) := by
  obtain ⟨i0, hif, hz0, hz1, hz2⟩ := info_parts infoInt
  obtain ⟨q, hq⟩ : ∃ q, q = w.heap.size := ⟨_, rfl⟩
  obtain ⟨W0, hW⟩ : ∃ W, W = w.alloc (.cells #[.slice none 0 0] 26) := ⟨_, rfl⟩
  have b0 : Below w.heap.size w W0 := by rw [hW]; exact below_alloc1 w _
  have Z0 : Hid (One q (.slice none 0 0) W0) := Lib.hid (by rw [hW, hq]; exact one_alloc)
  have HQ := Lib.hid hq
  have HF := Lib.hid hf
  have B0 := Lib.hid b0
  clear hf b0
  by_cases hs : EvIn c0 s0
  · have hs2 := hs
    obtain ⟨h1, h2⟩ := hs2
    obtain ⟨cn, rfl⟩ : ∃ cn : Nat, c0 = (cn : Int) := ⟨c0.toNat, by omega⟩
    obtain ⟨sn, rfl⟩ : ∃ sn : Nat, s0 = (sn : Int) := ⟨s0.toNat, by omega⟩
    have hc12 : 1 ≤ cn ∧ cn ≤ 12 := by omega
    have hs60 : sn ≤ 60 := by omega
    have HIN := Lib.hid hs
    clear hs h1 h2
    go_enter Try.func21, Try.ntmps21
    go_upto_region 1 with fail
    rw [← hW, ← hq]
    clear hW hq
    go_wp2_with fail
    refine (places_spec rfl W0).mono ?_
    rintro e1 w1 ⟨vp, rfl, o1, b1⟩
    rw [show evF (cn : Int) (sn : Int) = plTo cn sn cn from by unfold evF; rw [if_pos HIN.out, Int.toNat_natCast, Int.toNat_natCast], plTo_len] at o1
    obtain ⟨gp, cp, rfl, hgp, hgl⟩ := own_pos o1 (by omega)
    obtain ⟨m, hm⟩ : ∃ m, m = w1.heap.size := ⟨_, rfl⟩
    obtain ⟨W1, hW1⟩ : ∃ W, W = w1.alloc (.cells #[.slice none 0 0] 26) := ⟨_, rfl⟩
    have A1 : Below w1.heap.size w1 W1 := by rw [hW1]; exact below_alloc1 w1 _
    have X0 : Hid (One m (.slice none 0 0) W1) := Lib.hid (by rw [hW1, hm]; exact one_alloc)
    have Z1' := Lib.hid (one_keep A1 (one_keep b1 Z0.out))
    have P0 := Lib.hid (own_below o1 A1)
    have B1' := Lib.hid (B0.out.trans ((b1.trans (A1.mono b1.size)).mono B0.out.size))
    have hqm : q < m := by rw [hm]; have := b1.size; have := Z0.out.1; omega
    have hgm : gp < m := by rw [hm]; exact hgl
    have HPL : Hid (∀ g, (Value.slice (some ⟨gp, 0, none⟩) cn cp).ownBlock = some g → g < m) := Lib.hid (fun g hg => by simp [Value.ownBlock] at hg; omega)
    clear o1 b1 A1 Z0 B0 hgp hgl
    go_upto_region 3 with fail
    rw [← hW1, ← hm]
    clear hW1 hm
    go_wp2_with fail
    go_loopw [7] (fun x wr => ∃ (k : Nat) (p : Option Addr) (c : Nat), k ≤ cn ∧ x = .int .i64 k ∧ Hid (wr.ownsRow (m + 1) 3 1 (.slice p k c) k (intCs (dfTo cn sn k))) ∧ Hid (One m (.slice p k c) wr) ∧ Hid (One q (.slice none 0 0) wr) ∧ Hid (wr.ownsRow W0.heap.size 3 1 (.slice (some ⟨gp, 0, none⟩) cn cp) cn (intCs (plTo cn sn cn))) ∧ Hid (Below w.heap.size w wr)) (fun x _ => 12 - (intOf x).toNat)
    case atStart => exact ⟨0, none, 0, Nat.zero_le _, rfl, Lib.hid (World.ownsRow_nil _ _ _ _), X0, Z1', P0, B1'⟩
    case round =>
      clear X0 Z1' P0 B1'
      obtain ⟨k, p, c, hk, rfl, O1, X1, Z1, P1, B1⟩ := hrel
      by_cases hlt : k < cn
      · have q3 : (k : Int) < cn := by omega
        have HLT := Lib.hid hlt
        have hyb : ∀ t, t ≤ cn → t * sn / cn ≤ 720 := fun t ht => Nat.le_trans (Nat.div_le_self _ _) (Nat.le_trans (Nat.mul_le_mul ht hs60) (by omega))
        obtain ⟨y0, hy0⟩ : ∃ y : Nat, y = k * sn / cn := ⟨_, rfl⟩
        obtain ⟨y1, hy1⟩ : ∃ y : Nat, y = (k + 1) * sn / cn := ⟨_, rfl⟩
        have hb0 : y0 ≤ 720 := by rw [hy0]; exact hyb k hk
        have hb1 : y1 ≤ 720 := by rw [hy1]; exact hyb (k + 1) hlt
        have q0 : wr.cell? ⟨gp, k, none⟩ = some (.int .i64 (y0 : Int)) := (own_icell P1.out k hlt).trans (by rw [plTo_get cn sn cn k hlt, ← hy0])
        obtain ⟨dd, hdd⟩ : ∃ d : Int, d = (y1 : Int) - y0 := ⟨_, rfl⟩
        have wd : IntKind.i64.wrap ((y1 : Int) - y0) = dd := by rw [hdd]; exact IntWalk.i64_in _ (by omega)
        have HD := Lib.hid (show dd = (((k + 1) * sn / cn : Nat) : Int) - ((k * sn / cn : Nat) : Int) from by rw [hdd, hy0, hy1])
        obtain ⟨x1l, x1, x1f⟩ := X1.out
        have hbase : m + 1 ≤ wr.heap.size := x1l
        have X3 : Hid (One m (.slice p k c) (wr.alloc (.cells #[.int .i64 dd] 3)).drew) := Lib.hid (one_al X1.out)
        have Z3 : Hid (One q (.slice none 0 0) (wr.alloc (.cells #[.int .i64 dd] 3)).drew) := Lib.hid (one_al Z1.out)
        have P3 : Hid ((wr.alloc (.cells #[.int .i64 dd] 3)).drew.ownsRow W0.heap.size 3 1 (.slice (some ⟨gp, 0, none⟩) cn cp) cn (intCs (plTo cn sn cn))) := Lib.hid (own_below P1.out ((Below.refl _ _).alloc (Nat.le_refl _) _).drew)
        have B3 : Hid (Below w.heap.size w (wr.alloc (.cells #[.int .i64 dd] 3)).drew) := Lib.hid (B1.out.alloc B1.out.size (.cells #[.int .i64 dd] 3)).drew
        by_cases hlast : k + 1 < cn
        · have q4 : (k : Int) + 1 < cn := by omega
          have q5 : wr.cell? ⟨gp, k + 1, none⟩ = some (.int .i64 (y1 : Int)) := (own_icell P1.out (k + 1) hlast).trans (by rw [plTo_get cn sn cn (k + 1) hlast, ← hy1])
          clear hy0 hy1 hdd hlt hyb hlast
          go_upto_region 9 with fail
          go_region_law ((refine step_append_lies _ rfl (.tmp 31) (.tmp 38) 24 rfl (m + 1) 3 i0 (.int .i64 0) 1 8 Try.underlying24 hif hz0 hz1 hz2 rfl (by decide) (.slice p k c) k _ rfl (O1.out.alloc _) ⟨wr.heap.size, 0, none⟩ 1 1 _ rfl rfl (World.news_of_block (heap_alloc_new wr _)) (by simp [Value.oneCell']) (by decide) (by unfold maxLen; omega) (by omega) (by simp; omega) _ rfl ?_); intro g1 cap1 w5 hown' hgrow hat hgt; obtain ⟨y5l, y5, y5f⟩ := one_grown X3.out (w' := w5) hgrow (fun e => by have := (O1.out.lt _ e).1; omega))
          all_goals
            have X5 := Lib.hid (one_set (u := .slice (some ⟨g1, 0, none⟩) (k + 1) cap1) (⟨y5l, y5, y5f⟩ : One m (.slice p k c) w5))
            have Z5 := Lib.hid (one_oth (j := 0) (u := .slice (some ⟨g1, 0, none⟩) (k + 1) cap1) (show m ≠ q from by omega) (one_grown Z3.out hgrow (fun e => by have := (O1.out.lt _ e).1; omega)))
            have P5 := Lib.hid (ownsRow_keepS (own_grownC P3.out hgrow (fun g' hg' e => by have := HPL.out g' hg'; have := (O1.out.lt g' e).1; omega)) HPL.out (.slice (some ⟨g1, 0, none⟩) (k + 1) cap1))
            have B5 := Lib.hid ((B3.out.grown hgrow B3.out.size (fun j hj => by have := (O1.out.lt j hj).1; have := HQ.out; omega)).setCell (p := ⟨m, 0, none⟩) (by have := HQ.out; simp only; omega) (.slice (some ⟨g1, 0, none⟩) (k + 1) cap1))
            have O5 := Lib.hid (ownsRow_setCell_below (df_snoc HD.out hown') (a := ⟨m, 0, none⟩) (by simp only; omega) (.slice (some ⟨g1, 0, none⟩) (k + 1) cap1))
            clear hown' hgrow hat hgt X3 Z3 B3 P3 O1 X1 Z1 B1 P1 q0
            go_wp2_with fail
            go_roundw
            case rel => exact ⟨k + 1, some ⟨g1, 0, none⟩, cap1, HLT.out, by go_num, O5, X5, Z5, P5, B5⟩
            case measure => simp [intOf]; have := HLT.out; omega
        · have q4 : ¬ (k : Int) + 1 < cn := by omega
          have hsn : y1 = sn := by rw [hy1, show k + 1 = cn from by omega, Nat.mul_div_cancel_left sn hc12.1]
          clear hy0 hy1 hdd hlt hyb hlast
          subst hsn
          go_upto_region 9 with fail
          go_region_law ((refine step_append_lies _ rfl (.tmp 31) (.tmp 38) 24 rfl (m + 1) 3 i0 (.int .i64 0) 1 8 Try.underlying24 hif hz0 hz1 hz2 rfl (by decide) (.slice p k c) k _ rfl (O1.out.alloc _) ⟨wr.heap.size, 0, none⟩ 1 1 _ rfl rfl (World.news_of_block (heap_alloc_new wr _)) (by simp [Value.oneCell']) (by decide) (by unfold maxLen; omega) (by omega) (by simp; omega) _ rfl ?_); intro g1 cap1 w5 hown' hgrow hat hgt; obtain ⟨y5l, y5, y5f⟩ := one_grown X3.out (w' := w5) hgrow (fun e => by have := (O1.out.lt _ e).1; omega))
          all_goals
            have X5 := Lib.hid (one_set (u := .slice (some ⟨g1, 0, none⟩) (k + 1) cap1) (⟨y5l, y5, y5f⟩ : One m (.slice p k c) w5))
            have Z5 := Lib.hid (one_oth (j := 0) (u := .slice (some ⟨g1, 0, none⟩) (k + 1) cap1) (show m ≠ q from by omega) (one_grown Z3.out hgrow (fun e => by have := (O1.out.lt _ e).1; omega)))
            have P5 := Lib.hid (ownsRow_keepS (own_grownC P3.out hgrow (fun g' hg' e => by have := HPL.out g' hg'; have := (O1.out.lt g' e).1; omega)) HPL.out (.slice (some ⟨g1, 0, none⟩) (k + 1) cap1))
            have B5 := Lib.hid ((B3.out.grown hgrow B3.out.size (fun j hj => by have := (O1.out.lt j hj).1; have := HQ.out; omega)).setCell (p := ⟨m, 0, none⟩) (by have := HQ.out; simp only; omega) (.slice (some ⟨g1, 0, none⟩) (k + 1) cap1))
            have O5 := Lib.hid (ownsRow_setCell_below (df_snoc HD.out hown') (a := ⟨m, 0, none⟩) (by simp only; omega) (.slice (some ⟨g1, 0, none⟩) (k + 1) cap1))
            clear hown' hgrow hat hgt X3 Z3 B3 P3 O1 X1 Z1 B1 P1 q0
            go_wp2_with fail
            go_roundw
            case rel => exact ⟨k + 1, some ⟨g1, 0, none⟩, cap1, HLT.out, by go_num, O5, X5, Z5, P5, B5⟩
            case measure => simp [intOf]; have := HLT.out; omega
      · have q3 : ¬ (k : Int) < cn := by omega
        obtain rfl : k = cn := by omega
        obtain ⟨_, x1, _⟩ := X1.out
        have hdl := dfL_len k sn
        have CK := scOk_spec (xs := dfL k sn) (y := scB (dfL k sn)) rfl wr _ _ (.slice p k c) (by rw [hdl]; omega) (by rw [hdl]; exact O1.out)
        obtain ⟨z, hz⟩ : ∃ z, z = scB (dfL k sn) := ⟨_, rfl⟩
        rw [← hz] at CK
        have CKH := Lib.hid CK
        have HZ := Lib.hid hz
        clear CK hz
        go_wp2_with fail
        refine CKH.out.mono ?_
        rintro e2 w2 ⟨rfl, b2⟩
        have X2 := Lib.hid (one_keep b2 X1.out)
        have Z2 := Lib.hid (one_keep b2 Z1.out)
        have O2 := Lib.hid (own_below O1.out b2)
        have B2 := Lib.hid (B1.out.trans (b2.mono B1.out.size))
        obtain ⟨_, x2, _⟩ := X2.out
        obtain ⟨_, z2, zf⟩ := Z2.out
        clear x1 b2 O1 X1 Z1 P1 B1 CKH
        cases z
        · have HY := Lib.hid (show ys = [] from by
            rw [HF.out]
            unfold esF
            rw [if_neg]
            rintro ⟨_, h⟩
            rw [Int.toNat_natCast, Int.toNat_natCast] at h
            have := HZ.out
            rw [show scB (dfL k sn) = true from decide_eq_true h] at this
            cases this)
          have B6 := Lib.hid (B2.out.setCell (p := ⟨q, 0, none⟩) (by have := HQ.out; simp only; omega) (.slice none 0 0))
          obtain ⟨_, x6, _⟩ := one_set (u := .slice none 0 0) Z2.out
          go_wp2_with fail
          refine bodyPost_ret (v := cirV (.slice none 0 0)) (by simp [results, Try.results21, go_sem, z2]) rfl ⟨_, rfl, by rw [HY.out]; exact World.ownsRow_nil _ _ _ _, ?_⟩
          first | exact B6.out | exact B2.out
        · have HY := Lib.hid (show ys = dfTo k sn k from by
            rw [HF.out]
            unfold esF
            rw [if_pos ⟨HIN.out, by rw [Int.toNat_natCast, Int.toNat_natCast]; exact of_decide_eq_true HZ.out.symm⟩, Int.toNat_natCast, Int.toNat_natCast]
            rfl)
          have O6 := Lib.hid (ownsRow_setCell_below O2.out (a := ⟨q, 0, none⟩) (by simp only; omega) (.slice p k c))
          have B6 := Lib.hid (B2.out.setCell (p := ⟨q, 0, none⟩) (by have := HQ.out; simp only; omega) (.slice p k c))
          obtain ⟨_, x6, _⟩ := one_set (u := .slice p k c) Z2.out
          have hqm2 : w.heap.size ≤ m + 1 := by have := HQ.out; omega
          clear O2 Z2 X2 B2
          go_wp2_with fail
          refine bodyPost_ret (v := cirV (.slice p k c)) (by simp [results, Try.results21, go_sem, x6]) rfl ⟨_, rfl, ?_, B6.out⟩
          rw [HY.out, dfTo_len]
          exact own_base O6.out hqm2
  · have HY := Lib.hid (show ys = [] from by rw [HF.out]; unfold esF; rw [if_neg (fun h => hs h.1)])
    have he : evF c0 s0 = [] := if_neg hs
    go_enter Try.func21, Try.ntmps21
    go_upto_region 1 with fail
    rw [← hW, ← hq]
    clear hW hq hs
    go_wp2_with fail
    refine (places_spec rfl W0).mono ?_
    rintro e1 w1 ⟨vp, rfl, o1, b1⟩
    rw [he] at o1
    obtain ⟨pp, cp, rfl⟩ := own_slice (n := 0) o1
    obtain ⟨m, hm⟩ : ∃ m, m = w1.heap.size := ⟨_, rfl⟩
    obtain ⟨W1, hW1⟩ : ∃ W, W = w1.alloc (.cells #[.slice none 0 0] 26) := ⟨_, rfl⟩
    have A1 : Below w1.heap.size w1 W1 := by rw [hW1]; exact below_alloc1 w1 _
    have X0 : Hid (One m (.slice none 0 0) W1) := Lib.hid (by rw [hW1, hm]; exact one_alloc)
    have Z1 := Lib.hid (one_keep A1 (one_keep b1 Z0.out))
    have B1 := Lib.hid (B0.out.trans ((b1.trans (A1.mono b1.size)).mono B0.out.size))
    have CK := Lib.hid (scOk_spec (xs := []) (y := false) (show false = scB [] from by decide) W1 W1.heap.size 3 (.slice none 0 0) (by simp) (World.ownsRow_nil _ _ _ _))
    clear o1 b1 A1 Z0 B0 he
    go_upto_region 3 with fail
    rw [← hW1, ← hm]
    clear hW1 hm
    go_wp2_with fail
    go_loopw [7] (fun x wr => x = .int .i64 0 ∧ wr = W1) (fun _ _ => 0)
    case atStart => exact ⟨rfl, rfl⟩
    case round =>
      obtain ⟨rfl, hwr⟩ := hrel
      subst hwr
      obtain ⟨_, x1, _⟩ := X0.out
      go_wp2_with fail
      refine CK.out.mono ?_
      rintro e2 w2 ⟨rfl, b2⟩
      have Z2 := Lib.hid (one_keep b2 Z1.out)
      have B2 := Lib.hid (B1.out.trans (b2.mono B1.out.size))
      obtain ⟨_, z2, zf⟩ := Z2.out
      have B6 := Lib.hid (B2.out.setCell (p := ⟨q, 0, none⟩) (by have := HQ.out; simp only; omega) (.slice none 0 0))
      obtain ⟨_, x6, _⟩ := one_set (u := .slice none 0 0) Z2.out
      clear b2 x1
      go_wp2_with fail
      refine bodyPost_ret (v := cirV (.slice none 0 0)) (by simp [results, Try.results21, go_sem, z2]) rfl ⟨_, rfl, by rw [HY.out]; exact World.ownsRow_nil _ _ _ _, ?_⟩
      first | exact B6.out | exact B2.out
end Go.Proofs.Ytppbcjpabmllnaa
