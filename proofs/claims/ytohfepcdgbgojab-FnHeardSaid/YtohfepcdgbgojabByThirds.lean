/- Contract of impl.circlesByThirds: a range over the family's iterator that fills a map by the circles' thirds. -/
import Derived.Test.YtohfepcdgbgojabMapGrp
import Derived.Test.YtohfepcdgbgojabFamIter
namespace Go.Proofs.Ytohfepcdgbgojab
open Go.RowKit Go.Joins Go.Shelf
set_option linter.unusedVariables false
attribute [local go_sem] Oper.semAt_some
theorem infoRow : (Try.prog.info? 26).map (fun i => (i.zero, i.size)) = some (some (.slice none 0 0), 1) := by kernel_rfl
/-- The map, its box, and the part's cell. -/
def GBox (p : Int) (M : Nat) (w W : World) : Prop := Boxed W (M + 1) 87 (.map (some M)) ∧ Boxed W (M + 2) 3 (.int .i64 p) ∧ Below M w W
def GI (L : List (List Int)) (p : Int) (M : Nat) (w : World) (k : Nat) (W : World) : Prop := (∃ D val us, GMap L k (M + 3) M k D val us W) ∧ GBox p M w W
def GG (L : List (List Int)) (p : Int) (M : Nat) (w : World) (k g c : Nat) (W : World) : Prop :=
  (∃ D val us, GMap L k (M + 3) M k D val us W ∧ ∀ ts, Key12 ts → ∀ h, Blk (val ts) (us ts) (heardL L ts k).length h → g ≠ h) ∧ GBox p M w W ∧ W.ownsRow (M + 3) 3 1 (.slice (some ⟨g, 0, none⟩) 12 c) 12 (intCs (lAt L k))
section
variable {L : List (List Int)} {p : Int} {M k : Nat} {w W W1 X : World}
theorem gbox_own (hM : M ≤ w.heap.size) {B : Nat} (hB : M ≤ B) {X Y : World} {row : Option Nat} (h : GBox p M w X) (hg : X.grownBy Y row) (hr : ∀ r, row = some r → B ≤ r ∧ ∃ o : Obj, X.heap[r]? = some o ∧ o.isCells = false) : GBox p M w Y :=
  ⟨boxed_from _ B _ (fun _ : Unit => _) () X Y row h.1 hg hr, boxed_from _ B _ (fun _ : Unit => _) () X Y row h.2.1 hg hr, ownFrom_below (n₀ := M) (B := B) (w₀ := w) hM hB () X Y row h.2.2 hg hr⟩
theorem gI_own (L : List (List Int)) (p : Int) (M : Nat) (w : World) (k : Nat) (hM : M ≤ w.heap.size) (B : Nat) (hB : M + 3 ≤ B) : OwnFrom B (fun (_ : Unit) W => GI L p M w k W) := fun s X Y row h hg hr => by
  obtain ⟨⟨D, val, us, h1⟩, h2⟩ := h
  exact ⟨⟨D, val, us, h1.grown hg (fun r e => ⟨by have := (hr r e).1; omega, (hr r e).2⟩)⟩, gbox_own hM (by omega) h2 hg hr⟩
theorem gG_own (L : List (List Int)) (p : Int) (M : Nat) (w : World) (k g c : Nat) (hM : M ≤ w.heap.size) (B : Nat) (hB : M + 3 ≤ B) : OwnFrom B (fun (_ : Unit) W => GG L p M w k g c W) := fun s X Y row h hg hr => by
  obtain ⟨⟨D, val, us, h1, h4⟩, h2, h3⟩ := h
  exact ⟨⟨D, val, us, h1.grown hg (fun r e => ⟨by have := (hr r e).1; omega, (hr r e).2⟩), h4⟩, gbox_own hM (by omega) h2 hg hr, row_own B (M + 3) _ _ (fun _ : Unit => _) (fun _ => _) (fun _ => _) s X Y row h3 hg hr⟩
theorem gG_of {g c : Nat} (hi : GI L p M w k W1) (hb : Below W1.heap.size W1 W) (hr : RFam L k (g, c) W1 W) (hM : M ≤ w.heap.size) : GG L p M w k g c W := by
  have hs := hi.2.2.1.lt
  have hi2 : GI L p M w k W := gI_own L p M w k hM (M + 3) (Nat.le_refl _) () _ _ none hi (grown_of_below hb) (fun r e => by cases e)
  obtain ⟨⟨D, val, us, h1⟩, h2⟩ := hi
  have hgs : W1.heap.size ≤ g := (World.ownsRow.lt hr g rfl).1
  refine ⟨⟨D, val, us, h1.below hb, fun ts hk h hh e => ?_⟩, hi2.2, own_base hr (by omega)⟩
  have := (blk_lt (h1.rows ts hk) hh).2
  omega
/-- The round behind the key: the entry, and, behind the append, the store. -/
theorem group_round {g c : Nat} (h : GG L p M w k g c W) (hk : k < 100000) (hc : CirOk (lAt L k)) (hM : M ≤ w.heap.size) (hX : Below W.heap.size W X) :
    ∃ v0 us0 n st X1, (Instr.mapEntry 87 (.map (some M)) (.agg (intCs (thTo (lAt L k) 12)).toArray)).run Try.prog X = .ok (.tuple #[v0, .int .i64 st]) X1 ∧ X1.ownsRow (M + 3) 29 1 v0 n us0 ∧ n ≤ k ∧ X.grownBy X1 (some M) ∧ X1.heap.size = X.heap.size ∧
      ∀ v' X2, X2.ownsRow (M + 3) 29 1 v' (n + 1) (us0 ++ [.slice (some ⟨g, 0, none⟩) 12 c]) → X1.grownBy X2 v0.ownBlock → (v'.ownBlock = v0.ownBlock ∨ v'.ownBlock = some X1.heap.size) →
        ∃ X3, (Instr.entryStore 87 (.map (some M)) (.int .i64 st) v').run Try.prog X2 = .ok () X3 ∧ GI L p M w (k + 1) X3 ∧ KeepsFrom (M + 3) W X3 ∧ X3.heap[M + 2]? = W.heap[M + 2]? := by
  obtain ⟨⟨D, val, us, h1, h4⟩, ⟨h5, h6, h7⟩, h3⟩ := h
  have hl : (lAt L k).length = 12 := hc.1
  have ht : Key12 (thirdsL (lAt L k)) := by
    rw [thirdsL_ok hc]
    exact ⟨thTo_len _ _, fun i => by have := thTo_in hc i; omega⟩
  have hG := h1.below hX
  have hu : X.ownsRow (M + 3) 3 1 (.slice (some ⟨g, 0, none⟩) 12 c) (lAt L k).length (intCs (lAt L k)) := by rw [hl]; exact own_below h3 hX
  obtain ⟨v0, st, X1, hrun, hat, hg1, hsz, hm1, hst⟩ := entry_own hG.own klawArr Try.underlying87 (zero_of_info infoRow).1 (by unfold maxLen; omega) (klA_key ht)
  rw [hG.el _ ht] at hat
  injection hat with hat
  subst hat
  rw [← thirdsL_ok hc]
  have hmX := gmap_obj hG
  have R1 := csraw_own (hG.rows _ ht) hg1 (fun r e => by cases e; exact hmX)
  have hrb : ∀ j, (val (thirdsL (lAt L k))).ownBlock = some j → M + 3 ≤ j := fun j e => (R1.row.lt j e).1
  refine ⟨_, us (thirdsL (lAt L k)), _, st, X1, hrun, R1.row, heardL_len L _ k, hg1, hsz, fun v' X2 hrow hg2 hor => ?_⟩
  have hM1 : M < X1.heap.size := by obtain ⟨o, ho, _⟩ := hm1; exact (Array.getElem?_eq_some_iff.1 ho).1
  have hbM : X2.heap[M]? = X1.heap[M]? := hg2.block M hM1 (fun e => by have := hrb M e.symm; omega)
  obtain ⟨X3, e1, e2, e3, e4⟩ := hst X2 v' hbM
  have hm2 : ∃ o : Obj, X2.heap[M]? = some o ∧ o.isCells = false := by obtain ⟨o, ho, hc⟩ := hm1; exact ⟨o, hbM.trans ho, hc⟩
  have hstep := gmap_step hG rfl ht (by omega) hu (fun ts hk h hb e => h4 ts hk h hb (by injection e)) hg1 hm1 hrow hg2 hor hm2 e2 e3
  have bx : ∀ {b : Nat} {t : TypeId} {u : Value}, Boxed W b t u → b ≠ M → b < M + 3 → Boxed X3 b t u := fun {b t u} q n1 n2 =>
    (((boxed_below q hX).kept hg1 (fun e => by injection e with e; exact n1 e)).kept hg2 (fun e => by have := hrb b e.symm; omega)).kept e3 (fun e => by injection e with e; exact n1 e)
  have hMX : M ≤ X.heap.size := by have := hG.own.lt; omega
  have bel : Below M w X3 := (((h7.trans (hX.mono (by have := h5.lt; omega))).grown hg1 hMX (fun j e => by cases e; exact Nat.le_refl _)).grown hg2 (by omega) (fun j e => by have := hrb j e; omega)).grown e3 (by have := hg2.size; omega) (fun j e => by cases e; exact Nat.le_refl _)
  have k2 : KeepsFrom (M + 3) X1 X2 := ⟨hg2.size, fun i o hB hi ho => (hg2.block i (Array.getElem?_eq_some_iff.1 hi).1 (fun e => by
    obtain ⟨o2, q, c2⟩ := row_cells R1.row i e.symm
    rw [hi] at q; cases q; rw [ho] at c2; cases c2)).trans hi⟩
  refine ⟨X3, e1, ⟨⟨_, _, _, hstep⟩, bx h5 (by omega) (by omega), bx h6 (by omega) (by omega), bel⟩, (((keeps_below hX).trans (.of_grownBy hg1 (fun j e => by cases e; omega))).trans k2).trans (.of_grownBy e3 (fun j e => by cases e; omega)), ?_⟩
  have hlt := h6.lt
  have a1 := hX.block (M + 2) hlt
  have a2 := hg1.block (M + 2) (by have := hX.size; omega) (fun e => by injection e with e; omega)
  have a3 := hg2.block (M + 2) (by have := hX.size; omega) (fun e => by have := hrb _ e.symm; omega)
  have a4 := e3.block (M + 2) (by have := hX.size; have := hg2.size; omega) (fun e => by injection e with e; omega)
  exact a4.trans (a3.trans (a2.trans a1))
end
/-- The thirds of a circle that lies in a row, behind a world that is named; their key. -/
def KySay (v : Value) (C : Array Value) (W' W : World) : Prop := ∀ X, Below W'.heap.size W' X → Calls Try.prog 72 #[v] X fun e w'' => e = .returned (.agg C) ∧ Below W.heap.size W w''
theorem ky_run {v : Value} {C : Array Value} {W' W : World} (h : KySay v C W' W) (X : World) (hX : Below W'.heap.size W' X) : Calls Try.prog 72 #[v] X fun e w'' => e = .returned (.agg C) ∧ Below W.heap.size W w'' := h X hX
theorem thk_says {W : World} {u : Value} {xs : List Int} {b : Nat} {e : TypeId} {C : Array Value} (hc : CirOk xs) (h : W.ownsRow b e 1 u xs.length (intCs xs)) (hC : C = (intCs (thTo xs 12)).toArray) :
    Calls Try.prog 40 #[cirV u] W fun e w' => ∃ v, e = .returned v ∧ KySay v C w' W := by
  refine (thirdsI W b e u xs (by have := hc.1; omega) h).mono ?_
  rintro e1 w1 ⟨v, rfl, o1, b1⟩
  rw [thirdsL_ok hc, thTo_len] at o1
  refine ⟨v, rfl, fun X hX => ?_⟩
  rw [hC]
  exact (key_impl X _ _ v (thTo xs 12) (thTo_len _ _) (own_below o1 hX)).mono fun _ _ ⟨he, hb⟩ => ⟨he, (b1.trans (hX.mono b1.size)).trans (hb.mono (Nat.le_trans b1.size hX.size))⟩
section
variable {F : Fence} {nF : Nat} {P : Program} {w : World} {ops : Array Oper} {rest : List Oper} {o : Oper} {a : Act} {Q : Exit → Act → World → Prop}
theorem wpListIn_mapEntry_some (hg : o.guard = none) (m x : Operand) (t : TypeId) (hop : o.op = Op.mapEntry t m x) {b k : Value} (hm : a.eval m = b) (hx : a.eval x = k) (h : ∃ v w', (Instr.mapEntry t b k).run P w = .ok v w' ∧ wpListIn F nF P ops Q rest (a.put o.dst v) w') : wpListIn F nF P ops Q (o :: rest) a w := by
  obtain ⟨v, w', hrun, hK⟩ := h
  exact wpListIn_mapEntry_run hg m x t hop hm hx hrun hK
theorem wpListIn_entryStore_some (hg : o.guard = none) (m x y : Operand) (t : TypeId) (hop : o.op = Op.entryStore t m x y) {b s v : Value} (hm : a.eval m = b) (hx : a.eval x = s) (hy : a.eval y = v) (h : ∃ w', (Instr.entryStore t b s v).run P w = .ok () w' ∧ wpListIn F nF P ops Q rest (a.put o.dst undef) w') : wpListIn F nF P ops Q (o :: rest) a w := by
  obtain ⟨w', hrun, hK⟩ := h
  exact wpListIn_entryStore_run hg m x y t hop hm hx hy hrun hK
end
theorem news_boxed {X : World} {b : Nat} {t : TypeId} {u : Value} (h : Boxed X b t u) : ∀ (j : Nat) (v : Value), ([u] : List Value)[j]? = some v → X.cell? ((⟨b, 0, none⟩ : Addr).add j) = some v := fun j v e => by
  rcases j with _ | j
  · simp at e
    subst e
    have : (⟨b, 0, none⟩ : Addr).add 0 = ⟨b, 0, none⟩ := by unfold Addr.add; split <;> simp_all
    rw [this]
    exact h.cell
  · simp at e
set_option maxRecDepth 100000 in
set_option maxHeartbeats 4000000 in
theorem byThirds_impl (p : Int) (w : World) :
    Calls Try.prog 71 #[.int .i64 p] w fun e w' => ∃ b D val us, e = .returned (.map (some b)) ∧ GMap (famOf p) (famOf p).length w.heap.size b (famOf p).length D val us w' ∧ Below w.heap.size w w' := by
  obtain ⟨i0, hif, hz0, hz1, hz2⟩ := info_parts infoCir
  obtain ⟨L, hL⟩ : ∃ L, L = famOf p := ⟨_, rfl⟩
  have LN := famOf_len p
  have LE := Lib.hid (fun i (hi : i < (famOf p).length) => fam_cirOk hi)
  have FG := Lib.hid (fam_gives p)
  rw [← hL] at LN LE FG ⊢
  clear hL
  refine (callsIn_wide (n := 8)).1 ?_
  refine callsIn_of_wp_marks Try.func71 rfl trivial ?_ rfl
  simp only [Try.ntmps71, List.size_toArray, List.length_cons, List.length_nil, Nat.reduceAdd, Nat.reduceSub, Array.replicate_succ, Array.replicate_zero, List.push_toArray, List.append_toArray, List.nil_append, List.cons_append]
  have hmm := @run_makeMap Try.prog
  gi_wp2_with (refine ⟨trivial, ?_⟩; gi_at_call 54; refine (callsIn_wide.2 (fam_make _ _)).mono ?_; rintro e w1 ⟨rfl, rfl⟩)
  obtain ⟨W0, hW0⟩ : ∃ W, W = ((w.alloc (.map #[] 0)).alloc (.cells #[.map (some w.heap.size)] 87)).alloc (.cells #[.int .i64 p] 3) := ⟨_, rfl⟩
  have S0 : Below w.heap.size w W0 ∧ GMap L 0 (w.heap.size + 3) w.heap.size 0 (.map []) (fun _ => .slice none 0 0) (fun _ => []) W0 ∧ Boxed W0 (w.heap.size + 1) 87 (.map (some w.heap.size)) ∧ Boxed W0 (w.heap.size + 2) 3 (.int .i64 p) ∧ W0.heap.size = w.heap.size + 3 := by
    rw [hW0]
    have h1 := Boxed.new (w.alloc (.map #[] 0)) 87 (.map (some w.heap.size))
    have h2 := Boxed.new ((w.alloc (.map #[] 0)).alloc (.cells #[.map (some w.heap.size)] 87)) 3 (.int .i64 p)
    rw [World.size_alloc] at h1
    rw [World.size_alloc, World.size_alloc] at h2
    exact ⟨(((Below.refl _ w).alloc (Nat.le_refl _) _).alloc (by simp) _).alloc (by simp; omega) _, ((gmap_made L w (w.heap.size + 3)).below (below_alloc1 _ _)).below (below_alloc1 _ _), h1.alloc _, h2, by simp⟩
  rw [← hW0, show w.heap.size + 1 + 1 = w.heap.size + 2 from rfl]
  obtain ⟨M, hM⟩ : ∃ M, M = w.heap.size := ⟨_, rfl⟩
  rw [← hM] at S0 ⊢
  obtain ⟨B0, G0, x0, y0, hs⟩ := S0
  have HM := Lib.hid hM
  have hMw : M ≤ w.heap.size := by omega
  clear hW0 hM hmm
  refine walk_range (n := 8) rfl (by omega) (gf := 79) (lb := #[.pointer (some ⟨M + 2, 0, none⟩)]) rfl trivial (enters_of Try.func79 (by kernel_rfl) rfl)
    (FG.out _ (M + 2) W0 y0.lt y0.cell) y0.lt (Below.refl _ _) (fun _ => rfl) (GI L p M w) (fun _ _ => False) (fun k => gI_own L p M w k hMw _ (by omega)) (fun _ _ _ _ _ h _ _ => h) ⟨⟨_, _, _, G0⟩, x0, y0, B0⟩
    (fun k x a' W => GG L p M w k x.1 x.2 W ∧ ∃ q, (W0.heap.size ≤ q ∧ Boxed W q 29 (.slice (some ⟨x.1, 0, none⟩) 12 x.2)) ∧
      a' = { tmps := #[.int .i64 p, undef, .map none, .pointer (some ⟨M + 1, 0, none⟩), .pointer (some ⟨q, 0, none⟩), undef, .map (some M), .int .i64 p, .func (.func 79) #[] #[.pointer (some ⟨M + 2, 0, none⟩)], cirV (.slice (some ⟨x.1, 0, none⟩) 12 x.2), undef, undef, undef, undef, undef, undef, undef, undef, undef, undef, undef, undef], defers := [] })
    (fun k x a' s X Y row h hg hr => by
      obtain ⟨hi, q, ⟨hq, hb⟩, ha⟩ := h
      exact ⟨gG_own L p M w k x.1 x.2 hMw W0.heap.size (by omega) s X Y row hi hg hr, q, ⟨hq, boxed_from q W0.heap.size _ (fun _ : Unit => _) s X Y row hb hg hr⟩, ha⟩) ?assign ?body ?done ?stop
  case assign =>
    rintro l k ⟨xg, xc⟩ W1 W K hk hi hb hr hK
    dsimp only [encC] at hK ⊢
    have HK := Lib.hid hK
    clear hK
    gi_wp2
    have b1 := below_alloc1 W (.cells #[.slice (some ⟨xg, 0, none⟩) 12 xc] 29)
    have g1 := gG_of hi hb hr hMw
    have s1 : M + 2 < W.heap.size := g1.2.1.2.1.lt
    have g2 : GG L p M w k xg xc (W.alloc (.cells #[.slice (some ⟨xg, 0, none⟩) 12 xc] 29)) := new_keeps (gG_own L p M w k xg xc hMw W0.heap.size (by omega)) g1 b1
    exact HK.out _ _ (keeps_below b1) (b1.block _ (by omega)) ⟨g2, _, ⟨by omega, Boxed.new W _ _⟩, rfl⟩
  case body =>
    rintro l k ⟨xg, xc⟩ a' W hk ⟨hg, q, ⟨hq, hbx⟩, rfl⟩
    have hck := LE.out k hk
    have hk5 : k < 100000 := by omega
    obtain ⟨C, hC⟩ : ∃ C, C = (intCs (thTo (lAt L k) 12)).toArray := ⟨_, rfl⟩
    have hC12 : C.size = 12 := by rw [hC]; simp [intCs_len, thTo_len]
    have hC1 : C.all (·.oneCell') = true := by rw [hC]; exact all_one _
    have TH := Lib.hid (thk_says hck (own_eq hg.2.2 rfl hck.1.symm) hC)
    have HC := Lib.hid hC
    have HG := Lib.hid hg
    have HX := Lib.hid hbx
    have H5 := Lib.hid hg.2.1.1
    have HCK := Lib.hid hck
    have HSM := Lib.hid hs
    have hsW : M + 2 < W.heap.size := hg.2.1.2.1.lt
    have c2 := hbx.cell
    clear hC hg hbx hck hs LE FG G0 x0 y0
    gi_wp2_with (first
      | (refine ⟨trivial, ?_⟩; gi_at_call 40; refine (CallsIn.inRound l (callsIn_wide.2 TH.out)).mono ?_; rintro e w3 ⟨v3, rfl, ky⟩)
      | (refine ⟨trivial, ?_⟩; gi_at_call 72; refine (CallsIn.inRound l (callsIn_wide.2 (ky_run ky _ (Below.refl _ _)))).mono ?_; rintro e w4 ⟨rfl, hb4⟩)
      | (refine wpListIn_store_run rfl (.tmp 5) (.tmp 12) 89 rfl rfl rfl (run_storeAt_new _ _ _ C (by rw [szArr, hC12]) (by simp [hC12]) hC1) ?_
         have la := run_loadAt_new (P := Try.prog) w4 89 C _ _ Try.underlying89 (by rw [szArr, hC12])
         obtain ⟨W5, hW5⟩ : ∃ X, X = w4.alloc (.cells C 89) := ⟨_, rfl⟩
         have hb5 : Below W.heap.size W W5 := by rw [hW5]; exact hb4.alloc hb4.size _
         have x1 := (boxed_below H5.out hb5).cell
         have x2 := (boxed_below HX.out hb5).cell
         rw [← hW5] at la ⊢
         clear hW5)
      | refine wpListIn_load_run rfl (.tmp 5) 89 rfl rfl la ?_
      | (refine wpListIn_mapEntry_some rfl (.tmp 13) (.tmp 14) 87 rfl rfl rfl ?_
         obtain ⟨v0, us0, n, st, X1, e1, e2, e3, e4, e5, e6⟩ := group_round HG.out hk5 HCK.out hMw (hb5.alloc hb5.size (.cells #[.slice (some ⟨xg, 0, none⟩) 12 xc] 29))
         rw [← HC.out] at e1
         have hsz1 : M + 3 ≤ X1.heap.size := by have := hb5.size; rw [e5]; simp; omega
         have NEWS := news_boxed ((Boxed.new W5 29 (.slice (some ⟨xg, 0, none⟩) 12 xc)).kept e4 (fun e => by injection e with e; have := hb5.size; omega))
         refine ⟨_, _, e1, ?_⟩)
      | (gi_at_builtin; refine wpListIn_append_own_at _ rfl (.tmp 15) (.tmp 17) 26 rfl (M + 3) 29 i0 (cirV (.slice none 0 0)) 1 24 Try.underlying26 hif hz0 hz1 hz2 rfl (by decide) _ n us0 rfl e2 ⟨W5.heap.size, 0, none⟩ 1 1 [.slice (some ⟨xg, 0, none⟩) 12 xc] rfl rfl NEWS (by simp [Value.oneCell']) (by unfold maxLen; omega) (by omega) hsz1 ?_; intro v' X2 hown' hgrow hnil hor)
      | (refine wpListIn_entryStore_some rfl (.tmp 13) (.tmp 20) (.tmp 19) 87 rfl rfl rfl rfl ?_
         obtain ⟨X3, f1, f2, f3, f4⟩ := e6 v' X2 hown' hgrow hor
         refine ⟨_, f1, ?_⟩))
    rw [LeftBy]
    exact ⟨by rw [HSM.out]; exact f3, f4, f2⟩
  case done =>
    intro D W hD hi hK
    obtain ⟨⟨DD, val, us, hG⟩, hbx, hp, hB⟩ := hi
    have d0 := hbx.cell
    gi_wp2
    refine ⟨by simp, .inl ⟨_, _, rfl, run_takeDeferred hK, ?_⟩⟩
    have hG2 := hG.grown (grownBy_putObj' W D (.deferred none)) (fun r e => by cases e; exact ⟨by omega, _, hK, rfl⟩)
    refine ⟨_, results_tmp rfl _ _ _, M, DD, val, us, rfl, ?_, ?_⟩
    · exact ⟨hG2.own, hG2.el, fun ts ht => (hG2.rows ts ht).base (by have := HM.out; omega), hG2.ap⟩
    · rw [← HM.out]
      exact hB.trans (belowK_b (w := w) (by have := HM.out; omega) W D _ _ (by have := HM.out; omega) hK rfl rfl)
  case stop =>
    intro D c W _ h _
    exact h.elim
end Go.Proofs.Ytohfepcdgbgojab
