/- Contracts of laws.markCircleS and laws.heldCircleS at circles of twelve parts each: only the circles' own blocks are written. -/
import Derived.Test.YtohfepcdgbgojabCirRows
import Derived.Test.YtohfepcdgbgojabMarkOwn
namespace Go.Proofs.Ytohfepcdgbgojab
open Go.RowKit Go.Joins
set_option linter.unusedVariables false
/-- The circles at the places 0 to n - 1. -/
def rowC (n : Nat) (f : Nat → List Int) : List (List Int) := (List.range n).map f
theorem rowC_len (n : Nat) (f : Nat → List Int) : (rowC n f).length = n := by simp [rowC]
theorem rowC_at {n i : Nat} (f : Nat → List Int) (h : i < n) : lAt (rowC n f) i = f i := by simp [lAt, rowC, h]
theorem rowC_congr {n : Nat} {f f' : Nat → List Int} (h : ∀ t, t < n → f t = f' t) : rowC n f = rowC n f' := by
  refine List.ext_getElem (by simp [rowC]) fun i h1 h2 => ?_
  simp only [rowC, List.getElem_map, List.getElem_range]
  exact h i (by simpa [rowC] using h1)
theorem rowC_self (L : List (List Int)) : rowC L.length (lAt L) = L := by
  refine List.ext_getElem (by simp [rowC]) fun i h1 h2 => ?_
  simp only [rowC, List.getElem_map, List.getElem_range]
  unfold lAt
  rw [List.getD_eq_getElem?_getD, List.getElem?_eq_getElem h2]
  rfl
/-- One circle is written. -/
theorem CsRaw.put {w w' : World} {B n : Nat} {v : Value} {us : List Value} {f : Nat → List Int} (h : CsRaw w B v us (rowC n f)) {i : Nat} (hi : i < n) {ys : List Int} (ho : w'.ownsRow B 3 1 (uAt us i) ys.length (intCs ys)) (hg : w.grownBy w' (uAt us i).ownBlock) :
    CsRaw w' B v us (rowC n (fun t => if t = i then ys else f t)) := by
  have hl := rowC_len n f
  have hl' := rowC_len n (fun t => if t = i then ys else f t)
  obtain ⟨g, e, hne⟩ := h.own i (by omega)
  refine ⟨by rw [hl', h.len, hl], ?_, fun j hj => ?_, fun j hj => h.own j (by omega), fun a b hab hb => h.sep a b hab (by omega)⟩
  · have r := h.row
    rw [hl] at r
    rw [hl']
    exact own_grownC r hg (fun g' e' e2 => by rw [e] at e2; injection e2 with e2; subst e2; exact hne e')
  · rw [hl'] at hj
    rw [rowC_at _ hj]
    by_cases hji : j = i
    · rw [hji, if_pos rfl]; exact ho
    · rw [if_neg hji]
      have q := h.els j (by omega)
      rw [rowC_at _ hj] at q
      refine own_grownC q hg (fun g' e' e2 => ?_)
      rcases Nat.lt_or_ge j i with p | p
      · exact h.sep j i p (by omega) (by rw [e', e2])
      · exact h.sep i j (by omega) (by omega) (by rw [e', e2])
/-- A row of circles below the place m is kept where blocks from m on are written. -/
theorem CsRaw.under {w w' : World} {B m : Nat} {v : Value} {us : List Value} {L : List (List Int)} (h : CsRaw w B v us L) (hb : Below m w w') (hv : ∀ g, v.ownBlock = some g → g < m) (he : ∀ i, i < L.length → ∀ g, (uAt us i).ownBlock = some g → g < m) : CsRaw w' B v us L := by
  have row : ∀ {e : TypeId} {u : Value} {n : Nat} {xs : List Value}, w.ownsRow B e 1 u n xs → (∀ g, u.ownBlock = some g → g < m) → w'.ownsRow B e 1 u n xs := fun {e u n xs} o hu => by
    refine ⟨o.1, ?_⟩
    rcases o.2 with h1 | ⟨g, cap, cur, h1, h2, h3, h4⟩
    · exact .inl h1
    · refine .inr ⟨g, cap, cur, h1, h2, ?_, h4⟩
      rw [hb.block g (hu g (by rw [h1]; rfl))]
      exact h3
  exact ⟨h.len, row h.row hv, fun i hi => row (h.els i hi) (he i hi), h.own, h.sep⟩
def markC (t : Nat) : List Int := marksI (1 + 12 * t) 12
def markUpto (j : Nat) (f : Nat → List Int) : Nat → List Int := fun t => if t < j then markC t else f t
theorem markUpto_step (j : Nat) (f : Nat → List Int) : (fun t => if t = j then markC j else markUpto j f t) = markUpto (j + 1) f := by
  funext t; unfold markUpto
  by_cases e : t = j
  · rw [if_pos e, if_pos (by omega), e]
  · rw [if_neg e]
    by_cases e2 : t < j
    · rw [if_pos e2, if_pos (by omega)]
    · rw [if_neg e2, if_neg (by omega)]
set_option maxRecDepth 100000 in
set_option maxHeartbeats 2000000 in
theorem markCirs_own (w : World) (B n : Nat) (v : Value) (us : List Value) (f : Nat → List Int) (hn : n ≤ 10000) (hB : B ≤ w.heap.size) (h12 : ∀ t, t < n → (f t).length = 12) (h : CsRaw w B v us (rowC n f)) :
    Calls Try.prog 49 #[v, .int .i64 1] w fun en w' => en = .returned (.int .i64 (1 + 12 * (n : Int))) ∧ CsRaw w' B v us (rowC n markC) ∧ Below B w w' := by
  have HH : Hid (CsRaw w B v us (rowC n (markUpto 0 f))) := Lib.hid (by rw [show rowC n (markUpto 0 f) = rowC n f from rowC_congr fun t _ => if_neg (by omega)]; exact h)
  have H12 := Lib.hid h12
  have r := h.row
  rw [rowC_len] at r
  obtain ⟨p, c, rfl⟩ := own_slice r
  have RV := Lib.hid (fun (h0 : 0 < n) => own_pos r h0)
  clear h h12 r
  go_enter Try.func49, Try.ntmps49
  go_wp2
  go_loopw [1, 5] (fun k i wr => ∃ (j : Nat) (z : Nat), j ≤ n ∧ Hid (z = 1 + 12 * j) ∧ i = .int .i64 j ∧ k = .int .i64 z ∧ Hid (CsRaw wr B (.slice p n c) us (rowC n (markUpto j f))) ∧ Hid (Below B w wr)) (fun _ i _ => n - (intOf i).toNat)
  case atStart => exact ⟨0, 1, Nat.zero_le _, Lib.hid rfl, rfl, rfl, HH, Lib.hid (Below.refl _ _)⟩
  case round =>
    clear HH
    obtain ⟨j, z, hj, HZ, rfl, rfl, HO, HB⟩ := hrel
    by_cases hlt : j < n
    · have q3 : (j : Int) < n := by omega
      obtain ⟨g, cg, hg, _, hgl⟩ := RV.out (by omega)
      simp only [Value.slice.injEq, true_and] at hg
      obtain ⟨rfl, rfl⟩ := hg
      have hl := rowC_len n (markUpto j f)
      have hz := HZ.out
      obtain ⟨u, hu⟩ : ∃ u, u = uAt us j := ⟨_, rfl⟩
      have z1 := cs_cell HO.out hl.symm hlt
      have o1 := HO.out.els j (by omega)
      have hf : (markUpto j f j).length = 12 := by unfold markUpto; rw [if_neg (by omega)]; exact H12.out j hlt
      rw [rowC_at _ hlt, hf] at o1
      rw [← hu] at z1 o1
      have MK := Lib.hid (markInts_own wr B z 3 u 12 _ (by omega) (by omega) o1)
      have LU := Lib.hid (fun k hk => (o1.lt k hk).1)
      have HU := Lib.hid hu
      obtain ⟨p1, k1, rfl⟩ := own_slice o1
      have HLT := Lib.hid hlt
      have hz3 : z ≤ 200000 := by omega
      clear hu o1 hf hl hgl hlt hz
      go_wp2_with fail
      refine MK.out.mono ?_
      rintro e1 w2 ⟨rfl, o2, g2⟩
      have O2 := Lib.hid (show CsRaw w2 B (.slice (some ⟨g, 0, none⟩) n c) us (rowC n (markUpto (j + 1) f)) from by
        rw [← markUpto_step]
        refine HO.out.put HLT.out ?_ ?_
        · rw [← HU.out]
          have e : markC j = marksI z 12 := by unfold markC; rw [HZ.out]
          rw [e, marksI_len]
          exact o2
        · rw [← HU.out]; exact g2)
      have B2 := Lib.hid (HB.out.grown g2 (Nat.le_trans hB HB.out.size) (fun k hk => LU.out k hk))
      clear o2 g2 z1 MK HO HB
      go_wp2_with fail
      go_roundw
      case rel => exact ⟨j + 1, z + 12, HLT.out, Lib.hid (by have := HZ.out; omega), by go_num, by go_num, O2, B2⟩
      case measure => simp [intOf]; have := HLT.out; omega
    · have q3 : ¬ (j : Int) < n := by omega
      obtain rfl : j = n := by omega
      go_wp2_with fail
      go_ret
      refine ⟨ret_int (by have := HZ.out; omega), ?_, HB.out⟩
      have k := HO.out
      rwa [show rowC j (markUpto j f) = rowC j markC from rowC_congr fun t ht => if_pos ht] at k
set_option maxRecDepth 100000 in
set_option maxHeartbeats 2000000 in
theorem heldCirs_own (w : World) (B n : Nat) (v : Value) (us : List Value) (hn : n ≤ 10000) (h : CsRaw w B v us (rowC n markC)) :
    Calls Try.prog 50 #[v, .int .i64 1] w fun en w' => en = .returned (.int .i64 (1 + 12 * (n : Int))) ∧ Below w.heap.size w w' := by
  have HH := Lib.hid h
  have r := h.row
  rw [rowC_len] at r
  obtain ⟨p, c, rfl⟩ := own_slice r
  have RV := Lib.hid (fun (h0 : 0 < n) => own_pos r h0)
  clear h r
  go_enter Try.func50, Try.ntmps50
  go_wp2
  go_loopw [1, 5] (fun k i wr => ∃ (j : Nat) (z : Nat), j ≤ n ∧ Hid (z = 1 + 12 * j) ∧ i = .int .i64 j ∧ k = .int .i64 z ∧ Hid (Below w.heap.size w wr)) (fun _ i _ => n - (intOf i).toNat)
  case atStart => exact ⟨0, 1, Nat.zero_le _, Lib.hid rfl, rfl, rfl, Lib.hid (Below.refl _ _)⟩
  case round =>
    obtain ⟨j, z, hj, HZ, rfl, rfl, HB⟩ := hrel
    by_cases hlt : j < n
    · have q3 : (j : Int) < n := by omega
      obtain ⟨g, cg, hg, _, hgl⟩ := RV.out (by omega)
      simp only [Value.slice.injEq, true_and] at hg
      obtain ⟨rfl, rfl⟩ := hg
      have K := HH.out.below HB.out
      have hl := rowC_len n markC
      have hz := HZ.out
      obtain ⟨u, hu⟩ : ∃ u, u = uAt us j := ⟨_, rfl⟩
      have z1 := cs_cell K hl.symm hlt
      have o1 := K.els j (by omega)
      rw [rowC_at _ hlt] at o1
      unfold markC at o1
      rw [marksI_len, ← hz] at o1
      rw [← hu] at z1 o1
      have HD := Lib.hid (heldInts_any wr B z 3 u 12 (by omega) (by omega) o1)
      have t1 : ¬ ((z : Int) + ((12 : Nat) : Int)) < 0 := by omega
      obtain ⟨p1, k1, rfl⟩ := own_slice o1
      have hz3 : z ≤ 200000 := by omega
      clear hu o1 hl hgl K hz
      go_wp2_with fail
      refine HD.out.mono ?_
      rintro e1 w2 ⟨rfl, b2⟩
      have B2 := Lib.hid (HB.out.trans (b2.mono HB.out.size))
      clear b2 z1 HD HB
      go_wp2_with fail
      go_roundw
      case rel => exact ⟨j + 1, z + 12, by omega, Lib.hid (by have := HZ.out; omega), by go_num, by go_num, B2⟩
      case measure => simp [intOf]; omega
    · have q3 : ¬ (j : Int) < n := by omega
      obtain rfl : j = n := by omega
      go_wp2_with fail
      go_ret
      exact ⟨ret_int (by have := HZ.out; omega), HB.out⟩
end Go.Proofs.Ytohfepcdgbgojab
