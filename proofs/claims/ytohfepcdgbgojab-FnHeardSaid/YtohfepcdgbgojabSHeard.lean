/- Contract of spec.CirclesHeard. -/
import Derived.Test.YtohfepcdgbgojabSThirds
import Derived.Test.YtohfepcdgbgojabSFamily
import Derived.Test.YtohfepcdgbgojabCirRows
namespace Go.Proofs.Ytohfepcdgbgojab
open Go.RowKit Go.Joins
set_option linter.unusedVariables false
/-- Between two rounds: the family's row, the circles that were found, apart from it. -/
structure HeardInv (L : List (List Int)) (ts : List Int) (B g n c : Nat) (us1 : List Value) (k : Nat) (v : Value) (us : List Value) (w : World) : Prop where
  fam : CsRaw w B (.slice (some ⟨g, 0, none⟩) n c) us1 L
  out : CsRaw w B v us (heardL L ts k)
  sub : ∀ j, j < us.length → ∃ i, i < k ∧ uAt us j = uAt us1 i
  ap : v.ownBlock ≠ some g ∧ ∀ i, i < L.length → v.ownBlock ≠ (uAt us1 i).ownBlock
section
variable {L : List (List Int)} {ts : List Int} {B g n c k : Nat} {us1 us : List Value} {v : Value} {w w' : World}
theorem HeardInv.below (h : HeardInv L ts B g n c us1 k v us w) (hb : Below w.heap.size w w') : HeardInv L ts B g n c us1 k v us w' := ⟨h.fam.below hb, h.out.below hb, h.sub, h.ap⟩
theorem HeardInv.miss (h : HeardInv L ts B g n c us1 k v us w) (ht : ¬ thirdsL (lAt L k) = ts) : HeardInv L ts B g n c us1 (k + 1) v us w :=
  ⟨h.fam, by have := h.out; unfold heardL; rw [if_neg ht]; exact this, fun j hj => by obtain ⟨i, hi, e⟩ := h.sub j hj; exact ⟨i, by omega, e⟩, h.ap⟩
/-- One circle more. -/
theorem HeardInv.hit (h : HeardInv L ts B g n c us1 k v us w) (hk : k < L.length) (hx : 0 < (lAt L k).length) (ht : thirdsL (lAt L k) = ts) {v' : Value} (hn : n = L.length) (hB : B ≤ w.heap.size)
    (hown : w'.ownsRow B 29 1 v' ((heardL L ts k).length + 1) (us ++ [uAt us1 k])) (hg : w.grownBy w' v.ownBlock) (hor : v'.ownBlock = v.ownBlock ∨ v'.ownBlock = some w.heap.size) :
    HeardInv L ts B g n c us1 (k + 1) v' (us ++ [uAt us1 k]) w' := by
  have e : heardL L ts (k + 1) = heardL L ts k ++ [lAt L k] := by show (if thirdsL (lAt L k) = ts then _ else _) = _; rw [if_pos ht]
  have hgl : g < w.heap.size := (h.fam.row.lt g rfl).2
  have lt1 : ∀ i, i < L.length → ∀ b, (uAt us1 i).ownBlock = some b → b < w.heap.size := fun i hi b q => ((h.fam.els i hi).lt b q).2
  have hlen := h.out.len
  refine ⟨h.fam.grown hg (fun b q q2 => ?_) (fun i hi b q q2 => ?_), ?_, fun j hj => ?_, ?_, fun i hi => ?_⟩
  · simp only [Value.ownBlock, Option.some.injEq] at q
    subst q
    exact h.ap.1 q2
  · exact h.ap.2 i hi (by rw [q2, q])
  · rw [e]
    refine csRaw_snoc h.out (h.fam.els k hk) hx (h.ap.2 k hk) (fun i hi => ?_) hown hg hor
    obtain ⟨j, hj, q⟩ := h.sub i (by omega)
    rw [q]
    exact h.fam.sep j k hj hk
  · rw [List.length_append] at hj
    rcases Nat.lt_or_ge j us.length with q | q
    · obtain ⟨i, hi, q2⟩ := h.sub j q
      exact ⟨i, by omega, by rw [uAt_left q]; exact q2⟩
    · have : j = us.length := by simp at hj; omega
      subst this
      exact ⟨k, by omega, by rw [uAt_right (Nat.le_refl _), Nat.sub_self]; rfl⟩
  · rcases hor with q | q
    · rw [q]; exact h.ap.1
    · rw [q]; simp only [ne_eq, Option.some.injEq]; omega
  · rcases hor with q | q
    · rw [q]; exact h.ap.2 i hi
    · rw [q]
      intro q2
      have := lt1 i hi _ q2.symm
      omega
end
def HeardPost (L : List (List Int)) (w : World) (e : Ending) (w' : World) : Prop := ∃ v us, e = .returned v ∧ CsRaw w' w.heap.size v us L ∧ Below w.heap.size w w'
set_option maxRecDepth 100000 in
set_option maxHeartbeats 4000000 in
theorem heard_spec (p : Int) (w : World) (b' : Nat) (e' : TypeId) (v' : Value) (ts : List Int) (hl' : ts.length ≤ 2000000) (h' : w.ownsRow b' e' 1 v' ts.length (intCs ts)) :
    Calls Try.prog 46 #[.int .i64 p, v'] w (HeardPost (heardOf p ts) w) := by
  have FSP := Lib.hid (family_spec p (w.alloc (.cells #[] 29)))
  have LN := famOf_len p
  have LE := Lib.hid (famOf_each p)
  obtain ⟨Lr, hLr⟩ : ∃ Lr, Lr = heardOf p ts := ⟨_, rfl⟩
  have HR : Hid (Lr = if ts.length = 12 then heardL (famOf p) ts (famOf p).length else []) := Lib.hid hLr
  rw [← hLr]
  clear hLr
  generalize famOf p = L at FSP LN LE HR
  obtain ⟨n, hn⟩ : ∃ n, n = L.length := ⟨_, rfl⟩
  rw [← hn] at LN HR
  have HN := Lib.hid hn
  have HW := Lib.hid h'
  obtain ⟨pw, cw, rfl⟩ := own_slice h'
  obtain ⟨i0, hif, hz0, hz1, hz2⟩ := info_parts infoCir
  have R0 := Lib.hid (csRaw_nil w (Nat.le_refl _))
  have B0 := Lib.hid (below_alloc1 w (.cells #[] 29))
  have HS := Lib.hid (show (w.alloc (.cells #[] 29)).heap.size = w.heap.size + 1 from by simp)
  obtain ⟨lt, hlt⟩ : ∃ l, l = ts.length := ⟨_, rfl⟩
  rw [← hlt] at hl' ⊢
  rw [← hlt] at HW HR
  have HLT := Lib.hid hlt
  clear h' hn hlt
  go_enter Try.func46, Try.ntmps46
  go_upto_region 2 with fail
  obtain ⟨W0, hW⟩ : ∃ W, W = w.alloc (.cells #[] 29) := ⟨_, rfl⟩
  obtain ⟨m, hm⟩ : ∃ m, m = w.heap.size := ⟨_, rfl⟩
  rw [← hW] at FSP R0 B0 HS ⊢
  rw [← hm] at R0 B0 HS
  try rw [← hm]
  have HM := Lib.hid hm
  clear hW hm
  go_wp2_with fail
  refine FSP.out.mono ?_
  rintro e1 w1 ⟨g, c, us1, rfl, k1, b1⟩
  rw [← HN.out] at k1 ⊢
  have B1 := Lib.hid (B0.out.trans (b1.mono (by have := HS.out; omega)))
  have I1 : Hid (HeardInv L ts m g n c us1 0 (.slice (some ⟨m, 0, none⟩) 0 0) [] w1) := Lib.hid (by
    have hg := (k1.row.lt g rfl).1
    have hs := HS.out
    refine ⟨k1.base (by omega), R0.out.below b1, fun j hj => by simp at hj, ?_, fun i hi q => ?_⟩
    · simp only [Value.ownBlock, ne_eq, Option.some.injEq]; omega
    · have := ((k1.els i hi).lt m q.symm).1
      omega)
  clear k1 b1 FSP R0
  go_wp2_with fail
  go_loopw [5, 7] (fun v i wr => ∃ (k : Nat) (us : List Value), k ≤ n ∧ i = .int .i64 (k : Int) ∧ (k = 0 ∨ lt = 12) ∧ Hid (HeardInv L ts m g n c us1 k v us wr) ∧ Hid (Below m w wr)) (fun _ i _ => n - (intOf i).toNat)
  case atStart => exact ⟨0, [], Nat.zero_le _, rfl, .inl rfl, I1, B1⟩
  case round =>
    obtain ⟨k, us, hk, rfl, h12, HI, HB⟩ := hrel
    by_cases hlt : k < n
    · have q3 : (k : Int) < n := by omega
      by_cases ht12 : lt = 12
      · subst ht12
        have K := HI.out.fam
        have hkL : k < L.length := by rw [← HN.out]; exact hlt
        have c1 := cs_cell K HN.out hlt
        have o1 := K.els k hkL
        have hgl : g < wr.heap.size := (K.row.lt g rfl).2
        obtain ⟨u, hu⟩ : ∃ u, u = uAt us1 k := ⟨_, rfl⟩
        rw [← hu] at c1 o1
        have TH := Lib.hid (thirds_spec wr m 3 u (lAt L k) (by rw [LE.out k hkL]; omega) o1)
        have HU := Lib.hid hu
        have HLTK := Lib.hid hlt
        obtain ⟨p1, k1, hu2⟩ := own_slice o1
        generalize (lAt L k).length = lx at hu2
        subst hu2
        clear hu K o1 hkL hlt
        go_wp2_with fail
        refine TH.out.mono ?_
        rintro e2 w2 ⟨v2, rfl, o2, b2⟩
        have HI2 := Lib.hid (HI.out.below b2)
        have B2 := Lib.hid (HB.out.trans (b2.mono (by have := HB.out.size; have := HM.out; omega)))
        have SM := Lib.hid (same15_any w2 _ _ _ _ v2 (.slice pw 12 cw) (thirdsL (lAt L k)) ts (by have := thirdsL_len (lAt L k); omega) (by rw [← HLT.out]; omega) o2 (by rw [← HLT.out]; exact own_below HW.out (by rw [← HM.out]; exact B2.out)))
        have c2 := (b2.cell (p := ⟨g, k, none⟩) hgl).trans c1
        have hgl2 := Nat.lt_of_lt_of_le hgl b2.size
        obtain ⟨y, hy⟩ : ∃ y, y = decide (thirdsL (lAt L k) = ts) := ⟨_, rfl⟩
        rw [← hy] at SM
        have HY := Lib.hid hy
        clear hy o2 b2 c1 TH HI HB hgl
        cases y
        · go_wp2_with fail
          refine SM.out.mono ?_
          rintro e3 w3 ⟨rfl, b3⟩
          have HI3 := Lib.hid ((HI2.out.below b3).miss (of_decide_eq_false HY.out.symm))
          have B3 := Lib.hid (B2.out.trans (b3.mono (by have := B2.out.size; have := HM.out; omega)))
          clear b3 c2 SM HI2 B2
          go_wp2_with fail
          go_roundw
          case rel => exact ⟨k + 1, us, HLTK.out, by go_num, .inr (by first | trivial | rfl), HI3, B3⟩
          case measure => simp [intOf]; omega
        · go_wp2_with fail
          refine SM.out.mono ?_
          rintro e3 w3 ⟨rfl, b3⟩
          have HI3 := Lib.hid (HI2.out.below b3)
          have B3 := Lib.hid (B2.out.trans (b3.mono (by have := B2.out.size; have := HM.out; omega)))
          have c3 := (b3.cell (p := ⟨g, k, none⟩) hgl2).trans c2
          have hrow := HI3.out.out.row
          have hle := heardL_len L ts k
          have hms : m ≤ w3.heap.size := Nat.le_trans (by have := HM.out; omega) B3.out.size
          have hkL : k < L.length := by rw [← HN.out]; exact HLTK.out
          have hx12 := LE.out k hkL
          clear b3 c2 SM HI2 B2 hgl2
          go_wp2_with (at_builtin; refine wpList_append_own_at _ rfl (.tmp 29) (.tmp 34) 26 rfl m 29 i0 (cirV (.slice none 0 0)) 1 24 Try.underlying26 hif hz0 hz1 hz2 rfl (by decide) _ _ _ rfl (own_below hrow (below_alloc1 w3 _)) ⟨w3.heap.size, 0, none⟩ 1 1 [.slice p1 lx k1] rfl rfl (cell_one_new _ _ _) (by simp [Value.oneCell']) (by unfold maxLen; omega) (by omega) (by simp; omega) ?_; intro v4 w4 hown' hgrow hnil hor)
          have hgrow2 : (w3.alloc (.cells #[.slice p1 lx k1] 29)).grownBy w4 u5.ownBlock := hgrow
          have hor2 : v4.ownBlock = u5.ownBlock ∨ v4.ownBlock = some (w3.alloc (.cells #[.slice p1 lx k1] 29)).heap.size := hor
          have B4 := Lib.hid ((B3.out.alloc (by omega) _).grown hgrow2 (by simp; omega) (fun j hj => (hrow.lt j hj).1))
          rw [HU.out] at hown'
          have HI4 := Lib.hid ((HI3.out.below (below_alloc1 w3 _)).hit hkL (by omega) (of_decide_eq_true HY.out.symm) HN.out (by simp; omega) hown' hgrow2 hor2)
          clear hown' hgrow hnil hor hgrow2 hor2 HI3 B3 hrow c3
          go_wp2_with fail
          go_roundw
          case rel => exact ⟨k + 1, us ++ [uAt us1 k], HLTK.out, by go_num, .inr (by first | trivial | rfl), HI4, B4⟩
          case measure => simp [intOf]; omega
      · have hk0 : k = 0 := h12.resolve_right ht12
        subst hk0
        have HR0 : Hid (Lr = []) := Lib.hid (by rw [HR.out, if_neg ht12])
        have t12 : ((lt : Int) == 12) = false := by simp; omega
        have HO := Lib.hid HI.out.out
        clear HI h12
        go_wp2_with fail
        go_ret
        exact ⟨_, us, rfl, by rw [HR0.out, ← HM.out]; exact HO.out, by rw [← HM.out]; exact HB.out⟩
    · have q3 : ¬ (k : Int) < n := by omega
      obtain rfl : k = n := by omega
      have HO := Lib.hid HI.out.out
      have HR0 : Hid (Lr = heardL L ts k) := Lib.hid (by
        rw [HR.out]
        rcases h12 with h0 | h0
        · rw [h0]; split <;> rfl
        · rw [if_pos h0])
      clear HI HR h12
      go_wp2_with fail
      go_ret
      exact ⟨_, us, rfl, by rw [HR0.out, ← HM.out]; exact HO.out, by rw [← HM.out]; exact HB.out⟩
end Go.Proofs.Ytohfepcdgbgojab
