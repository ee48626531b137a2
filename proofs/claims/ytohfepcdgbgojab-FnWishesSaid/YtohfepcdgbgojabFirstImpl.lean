/- Contract of impl.FirstMeeting: a range over the family's iterator that is left at the first circle. -/
import Derived.Test.YtohfepcdgbgojabCountImpl
import Derived.Test.YtohfepcdgbgojabFirstLaw
namespace Go.Proofs.Ytohfepcdgbgojab
open Go.RowKit Go.Joins Go.Shelf
set_option linter.unusedVariables false
attribute [local go_sem] Oper.semAt_some
set_option maxRecDepth 100000 in
set_option maxHeartbeats 4000000 in
theorem first_impl : FirstImpl := by
  intro p xs zb w b' e' v' ws hf hl' h'
  obtain ⟨L, hL⟩ : ∃ L, L = famOf p := ⟨_, rfl⟩
  have LE := Lib.hid (famOf_each p)
  have FG := Lib.hid (fam_gives p)
  rw [← hL] at LE FG hf
  have HF := Lib.hid hf
  have HW := Lib.hid h'
  obtain ⟨n, hn⟩ : ∃ n, n = ws.length := ⟨_, rfl⟩
  rw [← hn] at h'
  obtain ⟨pw, cw, rfl⟩ := ownW_slice h'
  clear hL h' hn hf
  refine (callsIn_wide (n := 8)).1 ?_
  refine callsIn_of_wp_marks Try.func20 rfl trivial ?_ rfl
  simp only [Try.ntmps20, List.size_toArray, List.length_cons, List.length_nil, Nat.reduceAdd, Nat.reduceSub, Array.replicate_succ, Array.replicate_zero, List.push_toArray, List.append_toArray, List.nil_append, List.cons_append]
  gi_wp2_with (refine ⟨trivial, ?_⟩; gi_at_call 54; refine (callsIn_wide.2 (fam_make _ _)).mono ?_; rintro e w1 ⟨rfl, rfl⟩)
  obtain ⟨W0, hW0⟩ : ∃ W, W = (((w.alloc (.cells #[.slice pw n cw] 32)).alloc (.cells #[.slice none 0 0] 29)).alloc (.cells #[.bool false] 4)).alloc (.cells #[.int .i64 p] 3) := ⟨_, rfl⟩
  obtain ⟨B0, bx0, by0, bv0, bz0, hs⟩ := four_boxes w _ _ _ _ _ _ _ _ W0 hW0
  rw [← hW0, show w.heap.size + 1 + 1 + 1 = w.heap.size + 3 from rfl, show w.heap.size + 1 + 1 = w.heap.size + 2 from rfl]
  obtain ⟨M, hM⟩ : ∃ M, M = w.heap.size := ⟨_, rfl⟩
  rw [← hM] at B0 bx0 by0 bv0 bz0 hs ⊢
  have HM := Lib.hid hM
  clear hW0 hM
  obtain ⟨I, hIe⟩ : ∃ I : Nat → World → Prop, I = fun k W => (∀ j, j < k → meetB (lAt L j) ws = false) ∧ (Boxed W (M + 1) 29 (.slice none 0 0) ∧ Boxed W (M + 2) 4 (.bool false) ∧ Boxed W M 32 (.slice pw n cw)) ∧ Boxed W (M + 3) 3 (.int .i64 p) ∧ Below M w W := ⟨_, rfl⟩
  have hI : ∀ k, OwnFrom W0.heap.size (fun (_ : Unit) W => I k W) := fun k => by
    rw [hIe]
    exact OwnFrom.and (ownFrom_pure _ _) (OwnFrom.and (OwnFrom.and (boxed_from _ _ _ _) (OwnFrom.and (boxed_from _ _ _ _) (boxed_from _ _ _ _))) (OwnFrom.and (boxed_from _ _ _ _) (ownFrom_below (by have := HM.out; omega) (by omega))))
  obtain ⟨Ix, hXe⟩ : ∃ Ix : Code → World → Prop, Ix = fun c W => c = .ret ∧ ∃ k g cap, (k < L.length ∧ meetB (lAt L k) ws = true ∧ ∀ j, j < k → meetB (lAt L j) ws = false) ∧ (Boxed W (M + 1) 29 (.slice (some ⟨g, 0, none⟩) 12 cap) ∧ Boxed W (M + 2) 4 (.bool true) ∧ W.ownsRow M 3 1 (.slice (some ⟨g, 0, none⟩) 12 cap) 12 (intCs (lAt L k))) ∧ Below M w W := ⟨_, rfl⟩
  have hIx : ∀ c, OwnFrom W0.heap.size (fun (_ : Unit) W => Ix c W) := fun c s X Y row h hg hr => by
    rw [hXe] at h ⊢
    obtain ⟨hc, k, g, cap, h1, ⟨h2, h3, h4⟩, h5⟩ := h
    exact ⟨hc, k, g, cap, h1, ⟨boxed_from _ W0.heap.size _ (fun _ : Unit => _) s X Y row h2 hg hr, boxed_from _ W0.heap.size _ (fun _ : Unit => _) s X Y row h3 hg hr, row_own W0.heap.size M _ _ (fun _ : Unit => _) (fun _ => _) (fun _ => _) s X Y row h4 hg hr⟩, ownFrom_below (n₀ := M) (B := W0.heap.size) (w₀ := w) (by have := HM.out; omega) (by omega) s X Y row h5 hg hr⟩
  refine walk_range (n := 8) rfl (by omega) (gf := 79) (lb := #[.pointer (some ⟨M + 3, 0, none⟩)]) rfl trivial (enters_of Try.func79 (by kernel_rfl) rfl)
    (FG.out _ (M + 3) W0 bz0.lt bz0.cell) bz0.lt (Below.refl _ _) (fun _ => rfl) I Ix hI hIx (by rw [hIe]; exact ⟨fun j hj => by omega, ⟨by0, bv0, bx0⟩, bz0, B0⟩)
    (fun k x a' W => I k W ∧ W.ownsRow M 3 1 (.slice (some ⟨x.1, 0, none⟩) 12 x.2) 12 (intCs (lAt L k)) ∧ ∃ q, (W0.heap.size ≤ q ∧ Boxed W q 29 (.slice (some ⟨x.1, 0, none⟩) 12 x.2)) ∧
      a' = { tmps := #[.int .i64 p, .slice pw n cw, undef, .pointer (some ⟨M, 0, none⟩), .pointer (some ⟨M + 1, 0, none⟩), .pointer (some ⟨M + 2, 0, none⟩), .pointer (some ⟨q, 0, none⟩), .int .i64 p, .func (.func 79) #[] #[.pointer (some ⟨M + 3, 0, none⟩)], cirV (.slice (some ⟨x.1, 0, none⟩) 12 x.2), undef, undef, undef, undef, undef], defers := [] })
    (fun k x a' s X Y row h hg hr => by
      obtain ⟨hi, ho, q, ⟨hq, hb⟩, ha⟩ := h
      exact ⟨hI k s X Y row hi hg hr, row_own W0.heap.size M _ _ (fun _ : Unit => _) (fun _ => _) (fun _ => _) s X Y row ho hg hr, q, ⟨hq, boxed_from q W0.heap.size _ (fun _ : Unit => _) s X Y row hb hg hr⟩, ha⟩) ?assign ?body ?done ?stop
  case assign =>
    rintro l k ⟨xg, xc⟩ W1 W K hk hi hb hr hK
    dsimp only [encC] at hK ⊢
    have HK := Lib.hid hK
    clear hK
    gi_wp2
    have b1 := below_alloc1 W (.cells #[.slice (some ⟨xg, 0, none⟩) 12 xc] 29)
    have i1 := hi
    have i2 := new_keeps (hI k) (new_keeps (hI k) hi hb) b1
    have i3 := new_keeps (hI k) hi hb
    rw [hIe] at i1 i2 i3
    have s1 := i1.2.2.1.lt
    have s3 := i3.2.2.1.lt
    exact HK.out _ _ (keeps_below b1) (b1.block _ s3) ⟨by rw [hIe]; exact i2, own_base (own_below hr b1) (by omega), _, ⟨by omega, Boxed.new W _ _⟩, rfl⟩
  case body =>
    rintro l k ⟨xg, xc⟩ a' W hk ⟨hi, ho, q, ⟨hq, hbx⟩, rfl⟩
    rw [hIe] at hi
    obtain ⟨ha, ⟨hc, hv, hw⟩, hz, hB⟩ := hi
    obtain ⟨y, hy⟩ : ∃ y, y = meetB (lAt L k) ws := ⟨_, rfl⟩
    have MT : Hid (Calls Try.prog 21 #[cirV (.slice (some ⟨xg, 0, none⟩) 12 xc), .slice pw n cw] W fun e w' => e = .returned (.bool y) ∧ Below W.heap.size W w') := Lib.hid (by
      rw [hy]
      have h12 := LE.out k hk
      exact meets_impl W M 3 _ (lAt L k) b' e' _ ws (by omega) hl' (by rw [h12]; exact ho) (ownW_below HW.out (by rw [← HM.out]; exact hB)))
    have HA := Lib.hid ha
    have HY := Lib.hid hy
    have HO := Lib.hid ho
    have HC := Lib.hid hc
    have HV := Lib.hid hv
    have HWB := Lib.hid hw
    have HZ := Lib.hid hz
    have HB := Lib.hid hB
    have HX := Lib.hid hbx
    have c1 := hw.cell
    have c2 := hbx.cell
    have HSM := Lib.hid hs
    have HIE := Lib.hid hIe
    have HXE := Lib.hid hXe
    have hk' := hk
    clear ha hc hv hw hz hB hy hIe hXe hI hIx ho hbx HW LE FG HF hs
    have hM3 : M ≤ W.heap.size := by have := HZ.out.lt; omega
    cases y
    · gi_wp2_with (refine ⟨trivial, ?_⟩; gi_at_call 21; refine (CallsIn.inRound l (callsIn_wide.2 MT.out)).mono ?_; rintro e w1 ⟨rfl, hb1⟩)
      rw [LeftBy, HIE.out]
      exact ⟨keeps_below hb1, hb1.block _ HZ.out.lt, fun j hj => (show j < k ∨ j = k from by omega).elim (HA.out j) (fun h => by rw [h]; exact HY.out.symm), ⟨boxed_below HC.out hb1, boxed_below HV.out hb1, boxed_below HWB.out hb1⟩, boxed_below HZ.out hb1, HB.out.trans (hb1.mono hM3)⟩
    · gi_wp2_with (refine ⟨trivial, ?_⟩; gi_at_call 21; refine (CallsIn.inRound l (callsIn_wide.2 MT.out)).mono ?_; rintro e w1 ⟨rfl, hb1⟩; have d0 := (boxed_below HC.out hb1).cell; have d1 := (boxed_below HC.out hb1).frozen; have d2 := (boxed_below HV.out hb1).cell; have d3 := (boxed_below HV.out hb1).frozen; have d4 := (boxed_below HX.out hb1).cell)
      rw [LeftBy, HXE.out]
      have ob := own_below HO.out hb1
      have p1 := boxed_below HC.out hb1
      have p2 := boxed_below HV.out hb1
      have o1 := ob.kept (grownBy_setCell' w1 (M + 1) (.slice (some ⟨xg, 0, none⟩) 12 xc)) (.inr (p1.not_row (by decide) ob).symm)
      have o2 := o1.kept (grownBy_setCell' _ (M + 2) (.bool true)) (.inr (p2.not_row (by decide) ob).symm)
      have bb := ((HB.out.trans (hb1.mono hM3)).setCell (p := ⟨M + 1, 0, none⟩) (by simp only; omega) (.slice (some ⟨xg, 0, none⟩) 12 xc)).setCell (p := ⟨M + 2, 0, none⟩) (by simp only; omega) (.bool true)
      exact ⟨(keeps_below hb1).trans (((KeepsOthers.setCell _ _ _).trans (KeepsOthers.setCell _ _ _)).from _), rfl, k, xg, xc, ⟨hk, HY.out.symm, HA.out⟩, ⟨(p1.set (.slice (some ⟨xg, 0, none⟩) 12 xc)).other (by omega) _, (p2.other (by omega) (.slice (some ⟨xg, 0, none⟩) 12 xc)).set (.bool true), o2⟩, bb⟩
  case done =>
    intro D W hD hi hK
    rw [hIe] at hi
    obtain ⟨ha, ⟨hc, hv, _⟩, _, hB⟩ := hi
    have d0 := hc.cell
    have d1 := hc.frozen
    have d2 := hv.cell
    have d3 := hv.frozen
    have HA := Lib.hid ha
    clear ha
    gi_wp2
    obtain ⟨rfl, rfl⟩ := first_unique HF.out (.inl ⟨rfl, rfl, HA.out⟩)
    have hK' := ((KeepsOthers.setCell W ⟨M + 1, 0, none⟩ (.slice none 0 0)).trans (KeepsOthers.setCell _ ⟨M + 2, 0, none⟩ (.bool false))).same D _ hK rfl
    have q1 := (hc.set (.slice none 0 0)).other (B' := M + 2) (by omega) (.bool false)
    have q2 := (hv.other (B' := M + 1) (by omega) (.slice none 0 0)).set (.bool false)
    have bb := (hB.setCell (p := ⟨M + 1, 0, none⟩) (by simp only; omega) (.slice none 0 0)).setCell (p := ⟨M + 2, 0, none⟩) (by simp only; omega) (.bool false)
    generalize (W.setCell ⟨M + 1, 0, none⟩ (.slice none 0 0)).setCell ⟨M + 2, 0, none⟩ (.bool false) = X at hK' q1 q2 bb ⊢
    refine ⟨by simp, .inl ⟨_, _, rfl, run_takeDeferred hK', ?_⟩⟩
    have r1 := cell_kept q1.cell (grownBy_putObj' X D (.deferred none)) (fun r e => by cases e; exact ⟨_, hK', rfl⟩)
    have r2 := cell_kept q2.cell (grownBy_putObj' X D (.deferred none)) (fun r e => by cases e; exact ⟨_, hK', rfl⟩)
    refine ⟨.tuple #[cirV (.slice none 0 0), .bool false], by simp [results, Try.results20, go_sem, r1, r2], _, rfl, World.ownsRow_nil _ _ _ _, ?_⟩
    rw [← HM.out]
    exact bb.trans (belowK_b (w := w) (by have := HM.out; omega) X D _ _ (by have := HM.out; omega) hK' rfl rfl)
  case stop =>
    intro D c W hD h hK
    rw [hXe] at h
    obtain ⟨rfl, k, g, cap, ⟨h1, h2, h3⟩, ⟨hc, hv, ho⟩, hB⟩ := h
    have d0 := hc.cell
    have d2 := hv.cell
    have H1 := Lib.hid h1
    have H2 := Lib.hid h2
    have H3 := Lib.hid h3
    clear h1 h2 h3
    gi_wp2
    have h12 := LE.out k H1.out
    obtain ⟨rfl, rfl⟩ := first_unique HF.out (.inr ⟨rfl, k, H1.out, rfl, H2.out, H3.out⟩)
    refine ⟨by simp, .inl ⟨_, _, rfl, run_takeDeferred hK, ?_⟩⟩
    have r1 := cell_kept hc.cell (grownBy_putObj' W D (.deferred none)) (fun r e => by cases e; exact ⟨_, hK, rfl⟩)
    have r2 := cell_kept hv.cell (grownBy_putObj' W D (.deferred none)) (fun r e => by cases e; exact ⟨_, hK, rfl⟩)
    refine ⟨.tuple #[cirV (.slice (some ⟨g, 0, none⟩) 12 cap), .bool true], by simp [results, Try.results20, go_sem, r1, r2], _, rfl, ?_, ?_⟩
    · rw [h12, ← HM.out]
      exact ownsRow_putObj ho _ hK rfl
    · rw [← HM.out]
      exact hB.trans (belowK_b (w := w) (by have := HM.out; omega) W D _ _ (by have := HM.out; omega) hK rfl rfl)
theorem walk_FnExactFirstMeeting (p : Int) (a : Option Addr) (len cap : Nat) (ws : List Wi) (w : World) (wp : (Lit.int .i64 p).wf = true) (hw : WiRow w a len ws) :
    Calls Try.prog 7 #[.int .i64 p, .slice a len cap] w fun e w' => e = .returned (.bool true) ∧ Below w.heap.size w w' :=
  walk_FirstBy first_impl p wp a len cap ws w hw
end Go.Proofs.Ytohfepcdgbgojab
