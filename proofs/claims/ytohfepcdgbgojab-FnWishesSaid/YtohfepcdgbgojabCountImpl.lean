/- Contract of impl.CountMeeting: a range over the family's iterator. -/
import Derived.Test.YtohfepcdgbgojabFamIter
import Derived.Test.YtohfepcdgbgojabMeetsImpl
import Derived.Test.YtohfepcdgbgojabFamilyLaw
namespace Go.Proofs.Ytohfepcdgbgojab
open Go.RowKit Go.Joins Go.Shelf
set_option linter.unusedVariables false
attribute [local go_sem] Oper.semAt_some
set_option maxRecDepth 100000 in
set_option maxHeartbeats 4000000 in
theorem count_impl : CountImpl := by
  intro p w b' e' v' ws hl' h'
  obtain ⟨L, hL⟩ : ∃ L, L = famOf p := ⟨_, rfl⟩
  have LN := famOf_len p
  have LE := Lib.hid (famOf_each p)
  have FG := Lib.hid (fam_gives p)
  rw [← hL] at LN LE FG ⊢
  have HL := Lib.hid hL
  have HW := Lib.hid h'
  obtain ⟨n, hn⟩ : ∃ n, n = ws.length := ⟨_, rfl⟩
  rw [← hn] at h'
  obtain ⟨pw, cw, rfl⟩ := ownW_slice h'
  have HN := Lib.hid hn
  clear hL h' hn
  have hd : ∀ k : Nat, (Fence.wide.depth.isSome = true → 1 ≤ k) := fun k h => by simp [Fence.wide] at h
  refine (callsIn_wide (n := 8)).1 ?_
  refine callsIn_of_wp_marks Try.func19 rfl trivial ?_ rfl
  simp only [Try.ntmps19, List.size_toArray, List.length_cons, List.length_nil, Nat.reduceAdd, Nat.reduceSub, Array.replicate_succ, Array.replicate_zero, List.push_toArray, List.append_toArray, List.nil_append, List.cons_append]
  gi_wp2_with (refine ⟨trivial, ?_⟩; gi_at_call 54; refine (callsIn_wide.2 (fam_make _ _)).mono ?_; rintro e w1 ⟨rfl, rfl⟩)
  obtain ⟨W0, hW0⟩ : ∃ W, W = ((w.alloc (.cells #[.slice pw n cw] 32)).alloc (.cells #[.int .i64 0] 3)).alloc (.cells #[.int .i64 p] 3) := ⟨_, rfl⟩
  obtain ⟨B0, bx0, by0, bz0, hs⟩ : Below w.heap.size w W0 ∧ Boxed W0 w.heap.size 32 (.slice pw n cw) ∧ Boxed W0 (w.heap.size + 1) 3 (.int .i64 0) ∧ Boxed W0 (w.heap.size + 2) 3 (.int .i64 p) ∧ W0.heap.size = w.heap.size + 3 := by
    rw [hW0]
    exact three_boxes w _ _ _ _ _ _
  rw [← hW0, show w.heap.size + 1 + 1 = w.heap.size + 2 from rfl]
  obtain ⟨M, hM⟩ : ∃ M, M = w.heap.size := ⟨_, rfl⟩
  rw [← hM] at B0 bx0 by0 bz0 hs ⊢
  have HM := Lib.hid hM
  clear hW0 hM
  obtain ⟨I, hIe⟩ : ∃ I : Nat → World → Prop, I = fun k W => (Boxed W (M + 1) 3 (.int .i64 (cntMeet L ws k : Nat)) ∧ Boxed W M 32 (.slice pw n cw)) ∧ Boxed W (M + 2) 3 (.int .i64 p) ∧ Below M w W := ⟨_, rfl⟩
  have hI : ∀ k, OwnFrom W0.heap.size (fun (_ : Unit) W => I k W) := fun k => by
    rw [hIe]
    exact OwnFrom.and (OwnFrom.and (boxed_from _ _ _ _) (boxed_from _ _ _ _)) (OwnFrom.and (boxed_from _ _ _ _) (ownFrom_below (by have := HM.out; omega) (by omega)))
  refine walk_range (n := 8) rfl (by omega) (gf := 79) (lb := #[.pointer (some ⟨M + 2, 0, none⟩)]) rfl trivial (enters_of Try.func79 (by kernel_rfl) rfl)
    (FG.out _ (M + 2) W0 bz0.lt bz0.cell) bz0.lt (Below.refl _ _) (fun _ => rfl) I (fun _ _ => False) hI (fun _ _ _ _ _ h _ _ => h) (by rw [hIe]; exact ⟨⟨by0, bx0⟩, bz0, B0⟩)
    (fun k x a' W => I k W ∧ W.ownsRow 0 3 1 (.slice (some ⟨x.1, 0, none⟩) 12 x.2) 12 (intCs (lAt L k)) ∧ ∃ q, (W0.heap.size ≤ q ∧ Boxed W q 29 (.slice (some ⟨x.1, 0, none⟩) 12 x.2)) ∧
      a' = { tmps := #[.int .i64 p, .slice pw n cw, undef, .pointer (some ⟨M, 0, none⟩), .int .i64 0, .pointer (some ⟨M + 1, 0, none⟩), .pointer (some ⟨q, 0, none⟩), .int .i64 p, .func (.func 79) #[] #[.pointer (some ⟨M + 2, 0, none⟩)], cirV (.slice (some ⟨x.1, 0, none⟩) 12 x.2), undef, undef, undef, undef, undef, undef], defers := [] })
    (fun k x a' s X Y row h hg hr => by
      obtain ⟨hi, ho, q, ⟨hq, hb⟩, ha⟩ := h
      exact ⟨hI k s X Y row hi hg hr, row_own W0.heap.size 0 _ _ (fun _ : Unit => _) (fun _ => _) (fun _ => _) s X Y row ho hg hr, q, ⟨hq, boxed_from q W0.heap.size _ (fun _ : Unit => _) s X Y row hb hg hr⟩, ha⟩) ?assign ?body ?done ?stop
  case assign =>
    rintro l k ⟨xg, xc⟩ W1 W K hk hi hb hr hK
    dsimp only [encC] at hK ⊢
    have HK := Lib.hid hK
    clear hK
    gi_wp2
    have b1 := below_alloc1 W (.cells #[.slice (some ⟨xg, 0, none⟩) 12 xc] 29)
    have i2 := new_keeps (hI k) (new_keeps (hI k) hi hb) b1
    rw [hIe] at i2
    refine HK.out _ _ (keeps_below b1) (b1.block _ ?_) ⟨by rw [hIe]; exact i2, own_base (own_below hr b1) (Nat.zero_le _), _, ⟨?_, Boxed.new W _ _⟩, rfl⟩
    · have h3 := new_keeps (hI k) hi hb
      rw [hIe] at h3
      exact h3.2.1.lt
    · have h3 := new_keeps (hI k) hi hb
      rw [hIe] at h3
      have := h3.2.1.lt
      omega
  case body =>
    rintro l k ⟨xg, xc⟩ a' W hk ⟨hi, ho, q, ⟨hq, hbx⟩, rfl⟩
    rw [hIe] at hi
    obtain ⟨⟨hc, hw⟩, hz, hB⟩ := hi
    obtain ⟨y, hy⟩ : ∃ y, y = meetB (lAt L k) ws := ⟨_, rfl⟩
    obtain ⟨z, hz2⟩ : ∃ z, z = cntMeet L ws k := ⟨_, rfl⟩
    have e1 : cntMeet L ws (k + 1) = if y = true then z + 1 else z := by rw [hy, hz2]; rfl
    have hz5 : z ≤ 5000 := by have := cntMeet_le L ws k; omega
    have MT : Hid (Calls Try.prog 21 #[cirV (.slice (some ⟨xg, 0, none⟩) 12 xc), .slice pw n cw] W fun e w' => e = .returned (.bool y) ∧ Below W.heap.size W w') := Lib.hid (by
      rw [hy]
      have h12 := LE.out k hk
      exact meets_impl W 0 3 _ (lAt L k) b' e' _ ws (by omega) hl' (by rw [h12]; exact ho) (ownW_below HW.out (by rw [← HM.out]; exact hB)))
    have HI : Hid (I (k + 1) = fun W => (Boxed W (M + 1) 3 (.int .i64 ((if y = true then z + 1 else z : Nat) : Int)) ∧ Boxed W M 32 (.slice pw n cw)) ∧ Boxed W (M + 2) 3 (.int .i64 p) ∧ Below M w W) := Lib.hid (by rw [hIe, ← e1])
    rw [← hz2] at hc
    have HC := Lib.hid hc
    have HWB := Lib.hid hw
    have HZ := Lib.hid hz
    have HB := Lib.hid hB
    have c0 := hc.cell
    have c1 := hw.cell
    have c2 := hbx.cell
    have HSM := Lib.hid hs
    clear hc hw hz hB hy hz2 e1 hIe hI ho hbx hq HW LE FG HN HL LN
    cases y
    · gi_wp2_with (refine ⟨trivial, ?_⟩; gi_at_call 21; refine (CallsIn.inRound l (callsIn_wide.2 MT.out)).mono ?_; rintro e w1 ⟨rfl, hb1⟩)
      rw [LeftBy, HI.out]
      exact ⟨keeps_below hb1, hb1.block _ HZ.out.lt, ⟨boxed_below HC.out hb1, boxed_below HWB.out hb1⟩, boxed_below HZ.out hb1, HB.out.trans (hb1.mono (by have := HZ.out.lt; omega))⟩
    · gi_wp2_with (refine ⟨trivial, ?_⟩; gi_at_call 21; refine (CallsIn.inRound l (callsIn_wide.2 MT.out)).mono ?_; rintro e w1 ⟨rfl, hb1⟩; have d0 := (boxed_below HC.out hb1).cell; have d1 := (boxed_below HC.out hb1).frozen)
      rw [LeftBy, HI.out]
      have kf : KeepsFrom W0.heap.size W (w1.setCell ⟨M + 1, 0, none⟩ (.int .i64 ((z : Int) + 1))) := (keeps_below hb1).trans ((KeepsOthers.setCell _ _ _).from _)
      have hm2 : (w1.setCell ⟨M + 1, 0, none⟩ (.int .i64 ((z : Int) + 1))).heap[M + 2]? = W.heap[M + 2]? := (Below.heap_setCell _ _ _ (M + 2) (by simp)).trans (hb1.block _ HZ.out.lt)
      have b2 : Below M w (w1.setCell ⟨M + 1, 0, none⟩ (.int .i64 ((z : Int) + 1))) := (HB.out.trans (hb1.mono (by have := HZ.out.lt; omega))).setCell (p := ⟨M + 1, 0, none⟩) (by simp only; omega) _
      exact ⟨kf, hm2, ⟨(boxed_below HC.out hb1).set (.int .i64 ((z : Int) + 1)), (boxed_below HWB.out hb1).other (by omega) _⟩, (boxed_below HZ.out hb1).other (by omega) _, b2⟩
  case done =>
    intro D W hD hi hK
    rw [hIe] at hi
    obtain ⟨⟨hc, _⟩, _, hB⟩ := hi
    have hcc := hc.cell
    gi_wp2
    refine ⟨by simp, .inl ⟨_, _, rfl, run_takeDeferred hK, ?_⟩⟩
    exact ⟨_, results_tmp rfl _ _ _, rfl, by rw [← HM.out]; exact hB.trans (belowK_b (w := w) (by have := HM.out; omega) W D _ _ (by have := HM.out; omega) hK rfl rfl)⟩
  case stop =>
    intro D c W _ h _
    exact h.elim
theorem walk_FnExactCountMeeting (p : Int) (a : Option Addr) (len cap : Nat) (ws : List Wi) (w : World) (wp : (Lit.int .i64 p).wf = true) (hw : WiRow w a len ws) :
    Calls Try.prog 6 #[.int .i64 p, .slice a len cap] w fun e w' => e = .returned (.bool true) ∧ Below w.heap.size w w' :=
  walk_CountBy count_impl p wp a len cap ws w hw
end Go.Proofs.Ytohfepcdgbgojab
