/- Contracts of slices.AppendSeq and slices.Collect at the iterator over a family's circles, and of impl.FamilyOf. -/
import Derived.Maps.OwnIn
import Derived.Test.YtohfepcdgbgojabFamIter
import Derived.Test.YtohfepcdgbgojabCirRows
namespace Go.Proofs.Ytohfepcdgbgojab
open Go.RowKit Go.Joins Go.Shelf
set_option linter.unusedVariables false
attribute [local go_sem] Oper.semAt_some
/-- What AppendSeq holds between two rounds. -/
def AppI (L : List (List Int)) (M : Nat) (w : World) (k : Nat) (W : World) : Prop := (∃ v us, Boxed W M 26 v ∧ CsRaw W M v us (L.take k)) ∧ Below M w W
theorem appI_own (L : List (List Int)) (M : Nat) (w : World) (k : Nat) (hM : M ≤ w.heap.size) (B : Nat) (hB : M ≤ B) : OwnFrom B (fun (_ : Unit) W => AppI L M w k W) := fun s X Y row h hg hr => by
  obtain ⟨⟨v, us, h1, h2⟩, h3⟩ := h
  exact ⟨⟨v, us, boxed_from M B _ (fun _ : Unit => v) s X Y row h1 hg hr, csraw_own h2 hg (fun r e => (hr r e).2)⟩, ownFrom_below (n₀ := M) (B := B) (w₀ := w) hM hB s X Y row h3 hg hr⟩
/-- The round's circle lies apart. -/
def AppG (L : List (List Int)) (M : Nat) (w : World) (k : Nat) (g c : Nat) (W : World) : Prop :=
  ((∃ v us, Boxed W M 26 v ∧ CsRaw W M v us (L.take k) ∧ v.ownBlock ≠ some g ∧ ∀ i, i < (L.take k).length → (uAt us i).ownBlock ≠ some g) ∧ Below M w W) ∧ W.ownsRow M 3 1 (.slice (some ⟨g, 0, none⟩) 12 c) 12 (intCs (lAt L k))
theorem appG_own (L : List (List Int)) (M : Nat) (w : World) (k g c : Nat) (hM : M ≤ w.heap.size) (B : Nat) (hB : M ≤ B) : OwnFrom B (fun (_ : Unit) W => AppG L M w k g c W) := fun s X Y row h hg hr => by
  obtain ⟨⟨⟨v, us, h1, h2, h4, h5⟩, h3⟩, h6⟩ := h
  exact ⟨⟨⟨v, us, boxed_from M B _ (fun _ : Unit => v) s X Y row h1 hg hr, csraw_own h2 hg (fun r e => (hr r e).2), h4, h5⟩, ownFrom_below (n₀ := M) (B := B) (w₀ := w) hM hB s X Y row h3 hg hr⟩, row_own B M _ _ (fun _ : Unit => _) (fun _ => _) (fun _ => _) s X Y row h6 hg hr⟩
theorem appG_of {L : List (List Int)} {M : Nat} {w W1 W : World} {k g c : Nat} (hi : AppI L M w k W1) (hb : Below W1.heap.size W1 W) (hr : RFam L k (g, c) W1 W) (hM : M ≤ w.heap.size) : AppG L M w k g c W := by
  obtain ⟨⟨v, us, h1, h2⟩, h3⟩ := hi
  have hgs : W1.heap.size ≤ g := (World.ownsRow.lt hr g rfl).1
  have s1 := h1.lt
  refine ⟨⟨⟨v, us, boxed_below h1 hb, h2.below hb, fun e => ?_, fun i hi e => ?_⟩, h3.trans (hb.mono (by omega))⟩, own_base hr (by omega)⟩
  · have := (h2.row.lt g e).2; omega
  · have := ((h2.els i hi).lt g e).2; omega
/-- Behind the append and the store. -/
theorem app_step {L : List (List Int)} {M : Nat} {w W w1 : World} {k g c : Nat} {v v' : Value} {us : List Value} (hk : k < L.length) (hM : M ≤ w.heap.size) (hx : (lAt L k).length = 12)
    (hv : Boxed W M 26 v) (h : CsRaw W M v us (L.take k)) (hnv : v.ownBlock ≠ some g) (hne : ∀ i, i < (L.take k).length → (uAt us i).ownBlock ≠ some g) (hB : Below M w W) (ho : W.ownsRow M 3 1 (.slice (some ⟨g, 0, none⟩) 12 c) 12 (intCs (lAt L k))) {o : Obj}
    (hown : w1.ownsRow M 29 1 v' ((L.take k).length + 1) (us ++ [.slice (some ⟨g, 0, none⟩) 12 c])) (hg : (W.alloc o).grownBy w1 v.ownBlock) (hor : v'.ownBlock = v.ownBlock ∨ v'.ownBlock = some (W.alloc o).heap.size) :
    AppI L M w (k + 1) (w1.setCell ⟨M, 0, none⟩ v') := by
  have bo := below_alloc1 W o
  have hv1 : Boxed w1 M 26 v := (hv.alloc o).kept hg (hv.not_row (by decide) h.row)
  have h1 : CsRaw w1 M v' (us ++ [.slice (some ⟨g, 0, none⟩) 12 c]) (L.take (k + 1)) := by
    rw [take_snoc hk]
    refine csRaw_snoc (h.below bo) (u := .slice (some ⟨g, 0, none⟩) 12 c) (by rw [hx]; exact own_below ho bo) (by omega) hnv hne hown hg hor
  refine ⟨⟨v', us ++ [.slice (some ⟨g, 0, none⟩) 12 c], hv1.set v', h1.grown (grownBy_setCell' w1 M v') (fun b e e2 => ?_) (fun i hi b e e2 => ?_)⟩, ?_⟩
  · exact hv1.not_row (by decide) h1.row (by rw [e2, e])
  · exact hv1.not_row (by decide) (h1.els i hi) (by rw [e2, e])
  · have hs := hv.lt
    refine ((hB.trans (bo.mono (by omega))).grown hg (by simp; omega) (fun j e => ?_)).setCell (p := ⟨M, 0, none⟩) (Nat.le_refl _) v'
    exact (h.row.lt j e).1
set_option maxRecDepth 100000 in
set_option maxHeartbeats 4000000 in
theorem append_fam (p : Int) (m : Nat) (w : World) (hm : m < w.heap.size) (hc : w.cell? ⟨m, 0, none⟩ = some (.int .i64 p)) :
    Calls Try.prog 78 #[.slice none 0 0, .func (.func 79) #[] #[.pointer (some ⟨m, 0, none⟩)]] w fun e w' => ∃ v us, e = .returned v ∧ CsRaw w' w.heap.size v us (famOf p) ∧ Below w.heap.size w w' := by
  obtain ⟨i0, hif, hz0, hz1, hz2⟩ := info_parts infoCir
  obtain ⟨L, hL⟩ : ∃ L, L = famOf p := ⟨_, rfl⟩
  have LN := famOf_len p
  have LE := Lib.hid (famOf_each p)
  have FG := Lib.hid (fam_gives p)
  rw [← hL] at LN LE FG ⊢
  clear hL
  refine (callsIn_wide (n := 8)).1 ?_
  refine callsIn_of_wp_marks Try.func78 rfl trivial ?_ rfl
  simp only [Try.ntmps78, List.size_toArray, List.length_cons, List.length_nil, Nat.reduceAdd, Nat.reduceSub, Array.replicate_succ, Array.replicate_zero, List.push_toArray, List.append_toArray, List.nil_append, List.cons_append]
  gi_wp2
  obtain ⟨M, hM⟩ : ∃ M, M = w.heap.size := ⟨_, rfl⟩
  obtain ⟨W0, hW0⟩ : ∃ W, W = w.alloc (.cells #[.slice none 0 0] 26) := ⟨_, rfl⟩
  have B0 : Below M w W0 := by rw [hW0, hM]; exact below_alloc1 w _
  have bx0 : Boxed W0 M 26 (.slice none 0 0) := by rw [hW0, hM]; exact Boxed.new w _ _
  have hs : W0.heap.size = M + 1 := by rw [hW0, hM]; simp
  have c0 : W0.cell? ⟨m, 0, none⟩ = some (.int .i64 p) := (B0.cell (p := ⟨m, 0, none⟩) (by rw [hM]; exact hm)).trans hc
  rw [← hW0, ← hM]
  rw [← hM] at hm
  have HM := Lib.hid hM
  clear hW0 hM
  have hMw : M ≤ w.heap.size := by have := HM.out; omega
  refine walk_range (n := 8) rfl (by omega) (gf := 79) (lb := #[.pointer (some ⟨m, 0, none⟩)]) rfl trivial (enters_of Try.func79 (by kernel_rfl) rfl)
    (FG.out _ m W0 (by omega) c0) (by omega) (Below.refl _ _) (fun _ => rfl) (AppI L M w) (fun _ _ => False) (fun k => appI_own L M w k hMw _ (by omega)) (fun _ _ _ _ _ h _ _ => h) ⟨⟨_, [], bx0, by rw [List.take_zero]; exact csRaw_none W0 M⟩, B0⟩
    (fun k x a' W => AppG L M w k x.1 x.2 W ∧ ∃ q, (W0.heap.size ≤ q ∧ Boxed W q 29 (.slice (some ⟨x.1, 0, none⟩) 12 x.2)) ∧
      a' = { tmps := #[.slice none 0 0, .func (.func 79) #[] #[.pointer (some ⟨m, 0, none⟩)], .pointer (some ⟨M, 0, none⟩), undef, .slice none 0 0, .pointer (some ⟨q, 0, none⟩), .func (.func 79) #[] #[.pointer (some ⟨m, 0, none⟩)], cirV (.slice (some ⟨x.1, 0, none⟩) 12 x.2), undef, undef, undef, undef, undef], defers := [] })
    (fun k x a' s X Y row h hg hr => by
      obtain ⟨hi, q, ⟨hq, hb⟩, ha⟩ := h
      exact ⟨appG_own L M w k x.1 x.2 hMw W0.heap.size (by omega) s X Y row hi hg hr, q, ⟨hq, boxed_from q W0.heap.size _ (fun _ : Unit => _) s X Y row hb hg hr⟩, ha⟩) ?assign ?body ?done ?stop
  case assign =>
    rintro l k ⟨xg, xc⟩ W1 W K hk hi hb hr hK
    dsimp only [encC] at hK ⊢
    have HK := Lib.hid hK
    clear hK
    gi_wp2
    have b1 := below_alloc1 W (.cells #[.slice (some ⟨xg, 0, none⟩) 12 xc] 29)
    have g1 := appG_of hi hb hr hMw
    have s1 : M < W.heap.size := by obtain ⟨⟨⟨v, us, h1, _⟩, _⟩, _⟩ := g1; exact h1.lt
    have g2 : AppG L M w k xg xc (W.alloc (.cells #[.slice (some ⟨xg, 0, none⟩) 12 xc] 29)) := new_keeps (appG_own L M w k xg xc hMw W0.heap.size (by omega)) g1 b1
    exact HK.out _ _ (keeps_below b1) (b1.block _ (by omega)) ⟨g2, _, ⟨by omega, Boxed.new W _ _⟩, rfl⟩
  case body =>
    rintro l k ⟨xg, xc⟩ a' W hk ⟨⟨⟨⟨v, us, hv, hcs, hnv, hne⟩, hB⟩, ho⟩, q, ⟨hq, hbx⟩, rfl⟩
    have hx := LE.out k hk
    have c1 := hv.cell
    have c2 := hbx.cell
    have hlen : (L.take k).length = k := by rw [List.length_take]; omega
    have hsz : M ≤ W.heap.size := by have := hv.lt; omega
    have hrow := hcs.row
    have HL := Lib.hid hlen
    have HS := Lib.hid hs
    clear hs
    gi_wp2_with (gi_at_builtin; refine wpListIn_append_own_at _ rfl _ _ 26 rfl M 29 i0 (cirV (.slice none 0 0)) 1 24 Try.underlying26 hif hz0 hz1 hz2 rfl (by decide) _ _ _ rfl (own_below hrow (below_alloc1 W _)) ⟨W.heap.size, 0, none⟩ 1 1 [.slice (some ⟨xg, 0, none⟩) 12 xc] rfl rfl (cell_one_new _ _ _) (by simp [Value.oneCell']) (by unfold maxLen; omega) (by omega) (by simp; omega) ?_; intro v' w1 hown' hgrow hnil hor; obtain ⟨g', cap', rfl⟩ := ownsRow_succ hown'; have hv1 := (hv.alloc _).kept hgrow (hv.not_row (by decide) hrow); have d1 := hv1.cell; have d2 := hv1.frozen)
    have hown2 : w1.ownsRow M 29 1 (.slice (some ⟨g', 0, none⟩) (k + 1) cap') ((L.take k).length + 1) (us ++ [.slice (some ⟨xg, 0, none⟩) 12 xc]) := by rw [hlen] at hown' ⊢; exact hown'
    have hgrow2 : (W.alloc (.cells #[.slice (some ⟨xg, 0, none⟩) 12 xc] 29)).grownBy w1 v.ownBlock := hgrow
    have hor2 : (Value.slice (some ⟨g', 0, none⟩) (k + 1) cap').ownBlock = v.ownBlock ∨ (Value.slice (some ⟨g', 0, none⟩) (k + 1) cap').ownBlock = some (W.alloc (.cells #[.slice (some ⟨xg, 0, none⟩) 12 xc] 29)).heap.size := hor
    obtain ⟨_, _, _, k2, b2⟩ := hv.appended (by decide) hrow hsz (Nat.le_refl _) hown2 hgrow2
    exact ⟨k2.from _, b2.block _ hm, app_step hk hMw hx hv hcs hnv hne hB ho hown2 hgrow2 hor2⟩
  case done =>
    intro D W hD hi hK
    obtain ⟨⟨v, us, hv, hcs⟩, hB⟩ := hi
    rw [List.take_length] at hcs
    have d0 := hv.cell
    gi_wp2
    refine ⟨by simp, .inl ⟨_, _, rfl, run_takeDeferred hK, ?_⟩⟩
    exact ⟨_, results_tmp rfl _ _ _, v, us, rfl, by rw [← HM.out]; exact csraw_own hcs (grownBy_putObj' W D _) (fun r e => by cases e; exact ⟨_, hK, rfl⟩), by rw [← HM.out]; exact hB.trans (belowK_b (w := w) (by have := HM.out; omega) W D _ _ (by have := HM.out; omega) hK rfl rfl)⟩
  case stop =>
    intro D c W _ h _
    exact h.elim
theorem collect_fam (p : Int) (m : Nat) (w : World) (hm : m < w.heap.size) (hc : w.cell? ⟨m, 0, none⟩ = some (.int .i64 p)) :
    Calls Try.prog 53 #[.func (.func 79) #[] #[.pointer (some ⟨m, 0, none⟩)]] w fun e w' => ∃ v us, e = .returned v ∧ CsRaw w' w.heap.size v us (famOf p) ∧ Below w.heap.size w w' := by
  have AP := Lib.hid (append_fam p m w hm hc)
  clear hm hc
  go_enter Try.func53, Try.ntmps53
  go_wp2_with fail
  refine AP.out.mono ?_
  rintro e w1 ⟨v, us, rfl, k1, b1⟩
  go_wp2_with fail
  go_ret
  exact ⟨v, us, rfl, k1, b1⟩
theorem family_impl : FamImpl := by
  intro p w
  have CO : Hid (Calls Try.prog 53 #[.func (.func 79) #[] #[.pointer (some ⟨w.heap.size, 0, none⟩)]] (w.alloc (.cells #[.int .i64 p] 3)) fun e w' => ∃ v us, e = .returned v ∧ CsRaw w' w.heap.size v us (famOf p) ∧ Below w.heap.size w w') := Lib.hid (by
    have hb := Boxed.new w 3 (.int .i64 p)
    refine (collect_fam p w.heap.size _ hb.lt hb.cell).mono ?_
    rintro e w' ⟨v, us, he, h1, h2⟩
    exact ⟨v, us, he, h1.base (by simp), (below_alloc1 w _).trans (h2.mono (by simp))⟩)
  have FM := Lib.hid (fam_make p w)
  go_enter Try.func15, Try.ntmps15
  go_wp2_with fail
  refine FM.out.mono ?_
  rintro e w1 ⟨rfl, rfl⟩
  go_wp2_with fail
  refine CO.out.mono ?_
  rintro e w2 ⟨v, us, rfl, k1, b1⟩
  go_wp2_with fail
  go_ret
  exact ⟨v, us, rfl, k1, b1⟩
end Go.Proofs.Ytohfepcdgbgojab
