/- Contracts of impl.areHeard and impl.NearestHeard: a range over the family's iterator that keeps the first of the nearest circles. -/
import Derived.Test.YtohfepcdgbgojabFamIter
import Derived.Test.YtohfepcdgbgojabThirdsImpl
import Derived.Test.YtohfepcdgbgojabNearLaw
namespace Go.Proofs.Ytohfepcdgbgojab
open Go.RowKit Go.Joins Go.Shelf
set_option linter.unusedVariables false
attribute [local go_sem] Oper.semAt_some
set_option maxHeartbeats 1000000 in
theorem areHeard_any (w : World) (b : Nat) (e : TypeId) (v : Value) (ts : List Int) (hl : ts.length ≤ 2000000) (h : w.ownsRow b e 1 v ts.length (intCs ts)) :
    Calls Try.prog 73 #[v] w fun e w' => e = .returned (.bool (decide (ThirdsIn ts))) ∧ Below w.heap.size w w' := by
  obtain ⟨n, hn⟩ : ∃ n, n = ts.length := ⟨_, rfl⟩
  rw [← hn] at h hl
  have HN := Lib.hid hn
  clear hn
  by_cases h12 : n = 12
  · subst h12
    obtain ⟨g, c, rfl, _, lg⟩ := own_pos h (by omega)
    have A := Lib.hid (areWithin_any w g c 12 ts (-200) 200 (by omega) (fun j hj => own_icell h j hj))
    clear h
    by_cases hin : InTo ts (-200) 200 12
    · rw [decide_eq_true hin] at A
      have R := Lib.hid (decide_eq_true (show ThirdsIn ts from ⟨HN.out.symm, hin⟩))
      clear hin
      go_enter Try.func73, Try.ntmps73
      go_wp2_with fail
      refine A.out.mono ?_
      rintro e1 w1 ⟨rfl, rfl⟩
      go_wp2_with fail
      go_ret
      exact ⟨ret_bool R.out.symm, Below.refl _ _⟩
    · rw [decide_eq_false hin] at A
      have R := Lib.hid (decide_eq_false (show ¬ ThirdsIn ts from fun q => hin q.2))
      clear hin
      go_enter Try.func73, Try.ntmps73
      go_wp2_with fail
      refine A.out.mono ?_
      rintro e1 w1 ⟨rfl, rfl⟩
      go_wp2_with fail
      go_ret
      exact ⟨ret_bool R.out.symm, Below.refl _ _⟩
  · obtain ⟨p1, c1, rfl⟩ := own_slice h
    have t0 : ((n : Int) == 12) = false := by simp; omega
    have R := Lib.hid (decide_eq_false (show ¬ ThirdsIn ts from fun q => h12 (HN.out.trans q.1)))
    clear h h12
    go_enter Try.func73, Try.ntmps73
    go_wp2_with fail
    go_ret
    exact ⟨ret_bool R.out.symm, Below.refl _ _⟩
/-- What a distance answers behind a world that is named, and the thirds ahead of it. -/
def DsiSay (v tv : Value) (d : Int) (W' W : World) : Prop := ∀ X, Below W'.heap.size W' X → Calls Try.prog 74 #[v, tv] X fun e w'' => e = .returned (.int .i64 d) ∧ Below W.heap.size W w''
theorem dsi_run {v tv : Value} {d : Int} {W' W : World} (h : DsiSay v tv d W' W) (X : World) (hX : Below W'.heap.size W' X) : Calls Try.prog 74 #[v, tv] X fun e w'' => e = .returned (.int .i64 d) ∧ Below W.heap.size W w'' := h X hX
def ThiSay15 (u tv : Value) (d : Int) (W : World) : Prop := ∀ X, Below W.heap.size W X → Calls Try.prog 40 #[cirV u] X fun e w' => ∃ v, e = .returned v ∧ DsiSay v tv d w' W ∧ Below W.heap.size W w'
theorem thi_run15 {u tv : Value} {d : Int} {W : World} (h : ThiSay15 u tv d W) (X : World) (hX : Below W.heap.size W X) : Calls Try.prog 40 #[cirV u] X fun e w' => ∃ v, e = .returned v ∧ DsiSay v tv d w' W ∧ Below W.heap.size W w' := h X hX
theorem thi_says15 {W : World} {u tv : Value} {xs ts : List Int} {b b' : Nat} {e e' : TypeId} (hc : CirOk xs) (ht : ts.length = 12) (hs : SmallI ts) (h : W.ownsRow b e 1 u xs.length (intCs xs)) (h' : W.ownsRow b' e' 1 tv 12 (intCs ts)) :
    ThiSay15 u tv (dTo (thirdsL xs) ts (thirdsL xs).length) W := fun X hX => by
  have h12 : xs.length ≤ 2000000 := by have := hc.1; omega
  refine (thirdsI X b e u xs h12 (own_below h hX)).mono ?_
  rintro e1 w1 ⟨v, rfl, o1, b1⟩
  rw [thirdsL_ok hc, thTo_len] at o1 ⊢
  refine ⟨v, rfl, fun Y hY => ?_, hX.trans (b1.mono hX.size)⟩
  have hXY : Below W.heap.size W Y := hX.trans ((b1.trans (hY.mono b1.size)).mono hX.size)
  exact (dist_impl Y _ _ _ _ v tv (thTo xs 12) ts (ths_small hc) hs (own_below o1 hY) (own_below h' hXY)).mono fun _ _ ⟨he, hb⟩ => ⟨he, hXY.trans (hb.mono hXY.size)⟩
/-- What is kept behind k circles. -/
def NKeep (L : List (List Int)) (ts : List Int) (M k : Nat) (v : Value) (d : Int) (z : Bool) (W : World) : Prop :=
  (k = 0 ∧ v = .slice none 0 0 ∧ d = 0 ∧ z = false) ∨
  ∃ i g c, NearTo (disF L ts) k i ∧ v = .slice (some ⟨g, 0, none⟩) 12 c ∧ d = disF L ts i ∧ z = true ∧ W.ownsRow M 3 1 v 12 (intCs (lAt L i))
/-- What the range holds between two rounds. -/
def NearI (L : List (List Int)) (ts : List Int) (M m : Nat) (tv : Value) (p : Int) (w : World) (k : Nat) (W : World) : Prop :=
  (∃ v d z, NKeep L ts (m + 4) k v d z W ∧ Boxed W m 29 v ∧ Boxed W (m + 1) 3 (.int .i64 d) ∧ Boxed W (m + 2) 4 (.bool z)) ∧
    (Boxed W M 24 tv ∧ Boxed W (M + 1) 29 (.slice none 0 0)) ∧ Boxed W (m + 3) 3 (.int .i64 p) ∧ Below M w W
theorem nkeep_own {L : List (List Int)} {ts : List Int} {M k : Nat} {v : Value} {d : Int} {z : Bool} {X Y : World} {row : Option Nat} (h : NKeep L ts M k v d z X) (hg : X.grownBy Y row) (hr : ∀ r, row = some r → ∃ o : Obj, X.heap[r]? = some o ∧ o.isCells = false) : NKeep L ts M k v d z Y := by
  rcases h with h | ⟨i, g, c, h1, h2, h3, h4, h5⟩
  · exact .inl h
  · refine .inr ⟨i, g, c, h1, h2, h3, h4, own_grownC h5 hg fun g' e1 e2 => ?_⟩
    obtain ⟨o1, q1, c1⟩ := row_cells h5 g' e1
    obtain ⟨o2, q2, c2⟩ := hr g' e2
    rw [q1] at q2
    cases q2
    rw [c1] at c2
    cases c2
theorem nkeep_below {L : List (List Int)} {ts : List Int} {M k : Nat} {v : Value} {d : Int} {z : Bool} {X Y : World} (h : NKeep L ts M k v d z X) (hb : Below X.heap.size X Y) : NKeep L ts M k v d z Y :=
  nkeep_own h (grown_of_below hb) (fun r e => by cases e)
theorem nearI_own (L : List (List Int)) (ts : List Int) (M m : Nat) (tv : Value) (p : Int) (w : World) (k : Nat) (hM : M ≤ w.heap.size) (B : Nat) (hB : M ≤ B) : OwnFrom B (fun (_ : Unit) W => NearI L ts M m tv p w k W) := fun s X Y row h hg hr => by
  obtain ⟨⟨v, d, z, h1, h2, h3, h4⟩, ⟨h5, h6⟩, h7, h8⟩ := h
  have bx : ∀ {b : Nat} {t : TypeId} {u : Value}, Boxed X b t u → Boxed Y b t u := fun {b t u} q => boxed_from b B t (fun _ : Unit => u) s X Y row q hg hr
  exact ⟨⟨v, d, z, nkeep_own h1 hg (fun r e => (hr r e).2), bx h2, bx h3, bx h4⟩, ⟨bx h5, bx h6⟩, bx h7, ownFrom_below (n₀ := M) (B := B) (w₀ := w) hM hB s X Y row h8 hg hr⟩
/-- The round's circle takes the place. -/
theorem near_put {L : List (List Int)} {ts : List Int} {M m k : Nat} {tv : Value} {p : Int} {w W : World} {v0 : Value} {d0 : Int} {z0 : Bool} {g c : Nat} (hm : M + 1 < m) (hM : M ≤ w.heap.size)
    (h2 : Boxed W m 29 v0) (h3 : Boxed W (m + 1) 3 (.int .i64 d0)) (h4 : Boxed W (m + 2) 4 (.bool z0)) (h5 : Boxed W M 24 tv) (h6 : Boxed W (M + 1) 29 (.slice none 0 0)) (h7 : Boxed W (m + 3) 3 (.int .i64 p)) (h8 : Below M w W)
    (ho : W.ownsRow (m + 4) 3 1 (.slice (some ⟨g, 0, none⟩) 12 c) 12 (intCs (lAt L k))) (hn : NearTo (disF L ts) (k + 1) k) :
    ∀ X, X = ((W.setCell ⟨m, 0, none⟩ (.slice (some ⟨g, 0, none⟩) 12 c)).setCell ⟨m + 1, 0, none⟩ (.int .i64 (disF L ts k))).setCell ⟨m + 2, 0, none⟩ (.bool true) →
      KeepsFrom (m + 4) W X ∧ X.heap[m + 3]? = W.heap[m + 3]? ∧ NearI L ts M m tv p w (k + 1) X := by
  rintro X rfl
  have hg := (ho.lt g rfl).1
  have o1 := ho.kept (grownBy_setCell' W m (.slice (some ⟨g, 0, none⟩) 12 c)) (.inr (by intro e; simp [Value.ownBlock] at e; omega))
  have k3 := h3.other (B' := m) (by omega) (.slice (some ⟨g, 0, none⟩) 12 c)
  have o2 := o1.kept (grownBy_setCell' _ (m + 1) (.int .i64 (disF L ts k))) (.inr (by intro e; simp [Value.ownBlock] at e; omega))
  have k4 := (h4.other (B' := m) (by omega) (.slice (some ⟨g, 0, none⟩) 12 c)).other (B' := m + 1) (by omega) (.int .i64 (disF L ts k))
  have o3 := o2.kept (grownBy_setCell' _ (m + 2) (.bool true)) (.inr (by intro e; simp [Value.ownBlock] at e; omega))
  have three : ∀ {b : Nat} {t : TypeId} {u : Value}, Boxed W b t u → b ≠ m → b ≠ m + 1 → b ≠ m + 2 → Boxed (((W.setCell ⟨m, 0, none⟩ (.slice (some ⟨g, 0, none⟩) 12 c)).setCell ⟨m + 1, 0, none⟩ (.int .i64 (disF L ts k))).setCell ⟨m + 2, 0, none⟩ (.bool true)) b t u :=
    fun q a1 a2 a3 => ((q.other a1 _).other a2 _).other a3 _
  refine ⟨(((KeepsOthers.setCell _ _ _).trans (KeepsOthers.setCell _ _ _)).trans (KeepsOthers.setCell _ _ _)).from _, ?_, ⟨_, _, _, .inr ⟨k, g, c, hn, rfl, rfl, rfl, o3⟩, ((h2.set (.slice (some ⟨g, 0, none⟩) 12 c)).other (by omega) _).other (by omega) _, (k3.set (.int .i64 (disF L ts k))).other (by omega) _, k4.set (.bool true)⟩, ⟨three h5 (by omega) (by omega) (by omega), three h6 (by omega) (by omega) (by omega)⟩, three h7 (by omega) (by omega) (by omega), ?_⟩
  · exact (Below.heap_setCell _ _ _ (m + 3) (by simp)).trans ((Below.heap_setCell _ _ _ (m + 3) (by simp)).trans (Below.heap_setCell _ _ _ (m + 3) (by simp)))
  · exact ((h8.setCell (p := ⟨m, 0, none⟩) (by simp only; omega) _).setCell (p := ⟨m + 1, 0, none⟩) (by simp only; omega) _).setCell (p := ⟨m + 2, 0, none⟩) (by simp only; omega) _
theorem near_zero (f : Nat → Int) : NearTo f 1 0 := ⟨by omega, fun j hj => by omega, fun j hj => by rw [show j = 0 by omega]; exact Int.le_refl _⟩
theorem near_new {f : Nat → Int} {k i : Nat} (h : NearTo f k i) (hlt : f k < f i) : NearTo f (k + 1) k := by
  have := near_step h
  rwa [if_pos hlt] at this
theorem near_old {f : Nat → Int} {k i : Nat} (h : NearTo f k i) (hlt : ¬ f k < f i) : NearTo f (k + 1) i := by
  have := near_step h
  rwa [if_neg hlt] at this
/-- The answer is stored, and the mark is taken. -/
theorem near_done {xs : List Int} {w W : World} {M m D : Nat} {p : Option Addr} {n c : Nat} (hM : M = w.heap.size) (hMm : M + 2 ≤ m) (hD : m ≤ D)
    (h6 : Boxed W (M + 1) 29 (.slice none 0 0)) (ho : W.ownsRow M 3 1 (.slice p n c) xs.length (intCs xs)) (hK : W.heap[D]? = some (.deferred (some []))) (hB : Below M w W) (hg : ∀ g, (Value.slice p n c).ownBlock = some g → m ≤ g) :
    ∃ X, (Instr.takeDeferred D).run Try.prog (W.setCell ⟨M + 1, 0, none⟩ (.slice p n c)).drew = .ok [] X ∧ X.cell? ⟨M + 1, 0, none⟩ = some (.slice p n c) ∧ X.ownsRow w.heap.size 3 1 (.slice p n c) xs.length (intCs xs) ∧ Below w.heap.size w X := by
  have q1 := h6.set (.slice p n c)
  have o1 := ho.kept (grownBy_setCell' W (M + 1) (.slice p n c)) (.inr (by intro e; have := hg _ e; omega))
  have k1 : (W.setCell ⟨M + 1, 0, none⟩ (.slice p n c)).heap[D]? = some (.deferred (some [])) := (Below.heap_setCell _ _ _ D (by simp; omega)).trans hK
  have b1 := hB.setCell (p := ⟨M + 1, 0, none⟩) (by simp only; omega) (.slice p n c)
  generalize W.setCell ⟨M + 1, 0, none⟩ (.slice p n c) = Y at q1 o1 k1 b1
  have k2 : Y.drew.heap[D]? = some (.deferred (some [])) := k1
  have o2 : Y.drew.ownsRow M 3 1 (.slice p n c) xs.length (intCs xs) := o1
  have c2 : Y.drew.cell? ⟨M + 1, 0, none⟩ = some (.slice p n c) := q1.cell
  refine ⟨_, run_takeDeferred k2, cell_kept c2 (grownBy_putObj' Y.drew D (.deferred none)) (fun r e => by cases e; exact ⟨_, k2, rfl⟩), ?_, ?_⟩
  · rw [← hM]
    exact ownsRow_putObj o2 _ k2 rfl
  · rw [← hM]
    exact b1.drew.trans (belowK_b (w := w) (by omega) Y.drew D _ _ (by omega) k2 rfl rfl)
set_option maxRecDepth 100000 in
set_option maxHeartbeats 4000000 in
theorem near_impl : NearImpl := by
  intro p ts xs d z hf w b' e' v' hl' h'
  obtain ⟨L, hL⟩ : ∃ L, L = famOf p := ⟨_, rfl⟩
  have LE := Lib.hid (fun i (hi : i < (famOf p).length) => fam_cirOk hi)
  have FG := Lib.hid (fam_gives p)
  unfold NearAt15 at hf
  rw [← hL] at LE FG hf
  have HF := Lib.hid hf
  have HW := Lib.hid h'
  obtain ⟨pw, cw, hs1⟩ := own_slice h'
  have AH := Lib.hid (areHeard_any ((w.alloc (.cells #[v'] 24)).alloc (.cells #[.slice none 0 0] 29)) b' e' v' ts hl' (own_below h' (below_alloc2 w _ _)))
  obtain ⟨n, hn⟩ : ∃ n, n = ts.length := ⟨_, rfl⟩
  rw [← hn] at HW hs1
  have HN := Lib.hid hn
  subst hs1
  clear hL h' hn hf hl'
  have hmx : Try.prog.follows .mixedOrders = true := by kernel_rfl
  have hd : ∀ k : Nat, (Fence.wide.depth.isSome = true → 1 ≤ k) := fun k h => by simp [Fence.wide] at h
  refine (callsIn_wide (n := 8)).1 ?_
  refine callsIn_of_wp_marks Try.func38 rfl trivial ?_ rfl
  simp only [Try.ntmps38, List.size_toArray, List.length_cons, List.length_nil, Nat.reduceAdd, Nat.reduceSub, Array.replicate_succ, Array.replicate_zero, List.push_toArray, List.append_toArray, List.nil_append, List.cons_append]
  by_cases hin : ThirdsIn ts
  · rw [decide_eq_true hin] at AH
    have HI := Lib.hid hin
    clear hin
    gi_wp2_with (first
      | (refine ⟨trivial, ?_⟩; gi_at_call 73; refine (callsIn_wide.2 AH.out).mono ?_; rintro e w1 ⟨rfl, b1⟩)
      | (refine ⟨trivial, ?_⟩; gi_at_call 54; refine (callsIn_wide.2 (fam_make _ _)).mono ?_; rintro e w1 ⟨rfl, rfl⟩))
    obtain ⟨W0, hW0⟩ : ∃ W, W = (((w1.alloc (.cells #[.slice none 0 0] 29)).alloc (.cells #[.int .i64 0] 3)).alloc (.cells #[.bool false] 4)).alloc (.cells #[.int .i64 p] 3) := ⟨_, rfl⟩
    obtain ⟨B0, bx0, by0, bv0, bz0, hs⟩ := four_boxes w1 _ _ _ _ _ _ _ _ W0 hW0
    rw [← hW0, show w1.heap.size + 1 + 1 + 1 = w1.heap.size + 3 from rfl, show w1.heap.size + 1 + 1 = w1.heap.size + 2 from rfl]
    obtain ⟨M, hM⟩ : ∃ M, M = w.heap.size := ⟨_, rfl⟩
    obtain ⟨m, hm⟩ : ∃ m, m = w1.heap.size := ⟨_, rfl⟩
    obtain ⟨X0, hX0⟩ : ∃ X, X = (w.alloc (.cells #[.slice pw n cw] 24)).alloc (.cells #[.slice none 0 0] 29) := ⟨_, rfl⟩
    have t0 : Boxed X0 M 24 (.slice pw n cw) ∧ Boxed X0 (M + 1) 29 (.slice none 0 0) ∧ X0.heap.size = M + 2 ∧ Below M w X0 := by
      rw [hX0, hM]
      refine ⟨(Boxed.new w _ _).alloc _, ?_, by simp, below_alloc2 w _ _⟩
      have h := Boxed.new (w.alloc (.cells #[.slice pw n cw] 24)) 29 (.slice none 0 0)
      rwa [World.size_alloc] at h
    rw [← hX0] at b1
    obtain ⟨t1, t2, t3, t4⟩ := t0
    have hMm : M + 2 ≤ m := by have := b1.size; omega
    have B1 : Below M w W0 := (t4.trans (b1.mono (by omega))).trans (B0.mono (by omega))
    have u1 := boxed_below (boxed_below t1 b1) B0
    have u2 := boxed_below (boxed_below t2 b1) B0
    rw [← hm] at bx0 by0 bv0 bz0 hs
    rw [← hM, ← hm]
    have HM := Lib.hid hM
    have hMw : M ≤ w.heap.size := by omega
    clear hW0 hM hX0 t1 t2 t3 t4 b1 AH B0 hm
    refine walk_range (n := 8) rfl (by omega) (gf := 79) (lb := #[.pointer (some ⟨m + 3, 0, none⟩)]) rfl trivial (enters_of Try.func79 (by kernel_rfl) rfl)
      (FG.out _ (m + 3) W0 bz0.lt bz0.cell) bz0.lt (Below.refl _ _) (fun _ => rfl) (NearI L ts M m (.slice pw n cw) p w) (fun _ _ => False) (fun k => nearI_own L ts M m _ p w k hMw _ (by omega)) (fun _ _ _ _ _ h _ _ => h) ⟨⟨_, _, _, .inl ⟨rfl, rfl, rfl, rfl⟩, bx0, by0, bv0⟩, ⟨u1, u2⟩, bz0, B1⟩
      (fun k x a' W => NearI L ts M m (.slice pw n cw) p w k W ∧ W.ownsRow (m + 4) 3 1 (.slice (some ⟨x.1, 0, none⟩) 12 x.2) 12 (intCs (lAt L k)) ∧ ∃ q, (W0.heap.size ≤ q ∧ Boxed W q 29 (.slice (some ⟨x.1, 0, none⟩) 12 x.2)) ∧
        a' = { tmps := #[.int .i64 p, .slice pw n cw, undef, .pointer (some ⟨M, 0, none⟩), .pointer (some ⟨M + 1, 0, none⟩), .int .i64 0, .bool false, .pointer (some ⟨m, 0, none⟩), .pointer (some ⟨m + 1, 0, none⟩), .pointer (some ⟨m + 2, 0, none⟩), .pointer (some ⟨q, 0, none⟩), undef, .slice pw n cw, .bool true, .bool false, undef, .agg #[.slice none 0 0], .int .i64 p, .func (.func 79) #[] #[.pointer (some ⟨m + 3, 0, none⟩)], cirV (.slice (some ⟨x.1, 0, none⟩) 12 x.2), undef, undef, undef, undef, undef, undef, undef, undef, undef, undef, undef, undef, undef, undef, undef, undef], defers := [] })
      (fun k x a' s X Y row h hg hr => by
        obtain ⟨hi, ho, q, ⟨hq, hb⟩, ha⟩ := h
        exact ⟨nearI_own L ts M m _ p w k hMw W0.heap.size (by omega) s X Y row hi hg hr, row_own W0.heap.size (m + 4) _ _ (fun _ : Unit => _) (fun _ => _) (fun _ => _) s X Y row ho hg hr, q, ⟨hq, boxed_from q W0.heap.size _ (fun _ : Unit => _) s X Y row hb hg hr⟩, ha⟩) ?assign ?body ?done ?stop
    case assign =>
      rintro l k ⟨xg, xc⟩ W1 W K hk hi hb hr hK
      dsimp only [encC] at hK ⊢
      have HK := Lib.hid hK
      clear hK
      gi_wp2
      have b1 := below_alloc1 W (.cells #[.slice (some ⟨xg, 0, none⟩) 12 xc] 29)
      have i1 := hi.2.2.1.lt
      have i3 := new_keeps (nearI_own L ts M m (.slice pw n cw) p w k hMw W0.heap.size (by omega)) hi hb
      have i2 := new_keeps (nearI_own L ts M m (.slice pw n cw) p w k hMw W0.heap.size (by omega)) i3 b1
      have s3 := i3.2.2.1.lt
      exact HK.out _ _ (keeps_below b1) (b1.block _ s3) ⟨i2, own_base (own_below hr b1) (by omega), _, ⟨by omega, Boxed.new W _ _⟩, rfl⟩
    case body =>
      rintro l k ⟨xg, xc⟩ a' W hk ⟨⟨⟨v, d0, z0, hkeep, hc, hdd, hz⟩, ⟨hw, hr0⟩, hp, hB⟩, ho, q, ⟨hq, hbx⟩, rfl⟩
      obtain ⟨s, hsd⟩ : ∃ s, s = disF L ts k := ⟨_, rfl⟩
      have TH : ThiSay15 (.slice (some ⟨xg, 0, none⟩) 12 xc) (.slice pw n cw) s W := by
        have hck := LE.out k hk
        have h12 : n = 12 := HN.out.trans HI.out.1
        subst h12
        rw [hsd]
        exact thi_says15 hck HI.out.1 (small_of HI.out) (own_eq ho rfl hck.1.symm) (own_below HW.out (by rw [← HM.out]; exact hB))
      have HSD := Lib.hid hsd
      have HK := Lib.hid hkeep
      have HC := Lib.hid hc
      have HD := Lib.hid hdd
      have HZ := Lib.hid hz
      have HTB := Lib.hid hw
      have HR0 := Lib.hid hr0
      have HP := Lib.hid hp
      have HB := Lib.hid hB
      have HO := Lib.hid ho
      have HX := Lib.hid hbx
      have HSM := Lib.hid hs
      have c1 := hw.cell
      have c2 := hbx.cell
      clear hsd hkeep hc hdd hz hw hr0 hp hB ho hbx hs HW LE FG HF HN
      gi_wp2_with fail
      gi_region_with_o (first
        | (refine ⟨trivial, ?_⟩; gi_at_call 40; refine (CallsIn.inRound l (callsIn_wide.2 (thi_run15 TH _ (by with_reducible first | exact Below.refl _ _ | exact (Below.refl _ _).drew)))).mono ?_; rintro e w3 ⟨v3, rfl, hds, hb3⟩; have e1 := (boxed_below HTB.out hb3).cell)
        | (refine ⟨trivial, ?_⟩; gi_at_call 74; refine (CallsIn.inRound l (callsIn_wide.2 (dsi_run (by with_reducible assumption) _ (by with_reducible exact Below.refl _ _)))).mono ?_; rintro e w4 ⟨rfl, hb4⟩))
      all_goals
        go_simp
        go_step
        have HK4 := nkeep_below HK.out hb4
        have C4 := boxed_below HC.out hb4
        have D4 := boxed_below HD.out hb4
        have Z4 := boxed_below HZ.out hb4
        have T4 := boxed_below HTB.out hb4
        have R4 := boxed_below HR0.out hb4
        have P4 := boxed_below HP.out hb4
        have O4 := own_below HO.out hb4
        have X4 := boxed_below HX.out hb4
        have B4 := HB.out.trans (hb4.mono (by have := HP.out.lt; omega))
        have KB := Lib.hid (keeps_below (B := W0.heap.size) hb4)
        have KM := Lib.hid (hb4.block _ HP.out.lt)
        have a1 := Z4.cell
        have a2 := Z4.frozen
        have a3 := D4.cell
        have a4 := D4.frozen
        have a5 := C4.cell
        have a6 := C4.frozen
        have a7 := X4.cell
        clear hds hb3 e1 hb4 c1 c2 HK HC HD HZ HTB HR0 HP HB HO HX TH
        have PUT : ∀ (hn : NearTo (disF L ts) (k + 1) k) (X : World), X = ((w4.setCell ⟨m, 0, none⟩ (.slice (some ⟨xg, 0, none⟩) 12 xc)).setCell ⟨m + 1, 0, none⟩ (.int .i64 s)).setCell ⟨m + 2, 0, none⟩ (.bool true) →
            KeepsFrom (m + 4) w4 X ∧ X.heap[m + 3]? = w4.heap[m + 3]? ∧ NearI L ts M m (.slice pw n cw) p w (k + 1) X := fun hn X hX => near_put (by omega) hMw C4 D4 Z4 T4 R4 P4 B4 O4 hn X (by rw [hX, HSD.out])
        have PUT := Lib.hid PUT
        rcases HK4 with ⟨hk0, hv, hd0, hz0⟩ | ⟨i, g, c, hn, hv, hdd, hz0, hr⟩
        · subst hz0
          have NZ := Lib.hid (show NearTo (disF L ts) (k + 1) k from by rw [hk0]; exact near_zero _)
          clear hk0 hv hd0 C4 D4 Z4 T4 R4 P4 O4 X4 B4
          gi_wp2_with fail
          obtain ⟨k1, k2, k3⟩ := PUT.out NZ.out _ rfl
          rw [LeftBy]
          exact ⟨KB.out.trans (by rw [HSM.out]; exact k1), k2.trans KM.out, k3⟩
        · subst hz0
          by_cases hlt : s < d0
          · have NZ := Lib.hid (show NearTo (disF L ts) (k + 1) k from near_new hn (by rw [← hdd, ← HSD.out]; exact hlt))
            clear hv hdd hr hn C4 D4 Z4 T4 R4 P4 O4 X4 B4
            gi_wp2_with fail
            obtain ⟨k1, k2, k3⟩ := PUT.out NZ.out _ rfl
            rw [LeftBy]
            exact ⟨KB.out.trans (by rw [HSM.out]; exact k1), k2.trans KM.out, k3⟩
          · have NZ := near_old hn (by rw [← hdd, ← HSD.out]; exact hlt)
            have REL := Lib.hid (show NearI L ts M m (.slice pw n cw) p w (k + 1) w4 from ⟨⟨v, d0, true, .inr ⟨i, g, c, NZ, hv, hdd, rfl, hr⟩, C4, D4, Z4⟩, ⟨T4, R4⟩, P4, B4⟩)
            clear NZ hv hdd hr hn C4 D4 Z4 T4 R4 P4 O4 X4 B4 PUT
            gi_wp2_with fail
            rw [LeftBy]
            exact ⟨KB.out, KM.out, REL.out⟩
    case done =>
      intro D W hD hi hK
      obtain ⟨⟨v, d0, z0, hkeep, hc, hdd, hz⟩, ⟨hw, hr0⟩, hp, hB⟩ := hi
      have ANS : d0 = d ∧ z0 = z ∧ W.ownsRow M 3 1 v xs.length (intCs xs) ∧ ((v = .slice none 0 0) ∨ ∃ g c, v = .slice (some ⟨g, 0, none⟩) 12 c ∧ m + 4 ≤ g ∧ g < W.heap.size) := by
        rcases hkeep with ⟨hk0, rfl, rfl, rfl⟩ | ⟨i, g, c, hn, rfl, rfl, rfl, hr⟩
        · obtain ⟨rfl, rfl, rfl⟩ := near_none HF.out (fun h => by omega)
          exact ⟨rfl, rfl, World.ownsRow_nil _ _ _ _, .inl rfl⟩
        · obtain ⟨rfl, rfl, rfl⟩ := near_some HF.out HI.out hn
          have h12 := (LE.out i hn.1).1
          exact ⟨rfl, rfl, by rw [h12]; exact own_base hr (by omega), .inr ⟨g, c, rfl, hr.lt g rfl⟩⟩
      obtain ⟨rfl, rfl, HR, hsh⟩ := ANS
      have HRR := Lib.hid HR
      have HC := Lib.hid hc
      have HR0 := Lib.hid hr0
      have HB := Lib.hid hB
      have d1 := hc.cell
      have d2 := hdd.cell
      have d3 := hz.cell
      have d4 := hr0.cell
      have d5 := hr0.frozen
      clear hkeep hc hdd hz hw hr0 hp hB HR LE FG HF HW HN
      rcases hsh with rfl | ⟨g, c, rfl, hg1, hg2⟩
      all_goals
        gi_wp2_with fail
        refine wpIn_wide.2 ?_
        go_region
        all_goals
          gi_wp2_with fail
          have hmw := HC.out.lt
          obtain ⟨X, e1, e2, e3, e4⟩ := near_done HM.out hMm (by omega) HR0.out HRR.out hK HB.out (by intro g e; simp [Value.ownBlock] at e; try omega)
          refine ⟨by simp, .inl ⟨_, _, rfl, e1, ?_⟩⟩
          exact ⟨.tuple #[cirV _, .int .i64 d0, .bool z0], by simp [results, Try.results38, go_sem, e2], _, rfl, e3, e4⟩
    case stop =>
      intro D c W _ h _
      exact h.elim
  · rw [decide_eq_false hin] at AH
    have HI := Lib.hid hin
    have hr0 := Boxed.new (w.alloc (.cells #[.slice pw n cw] 24)) 29 (.slice none 0 0)
    rw [World.size_alloc] at hr0
    clear hin
    gi_wp2_with (first
      | (refine ⟨trivial, ?_⟩; gi_at_call 73; refine (callsIn_wide.2 AH.out).mono ?_; rintro e w1 ⟨rfl, b1⟩; have d0 := (boxed_below hr0 b1).cell; have d1 := (boxed_below hr0 b1).frozen))
    have b2 : Below w.heap.size w (w1.setCell ⟨w.heap.size + 1, 0, none⟩ (.slice none 0 0)) := ((below_alloc2 w _ _).trans (b1.mono (by simp; omega))).setCell (p := ⟨w.heap.size + 1, 0, none⟩) (by simp only; omega) _
    have e1 := ((boxed_below hr0 b1).set (.slice none 0 0)).cell
    obtain ⟨rfl, rfl, rfl⟩ := near_none HF.out (fun h => HI.out h.2)
    exact ⟨.tuple #[cirV (.slice none 0 0), .int .i64 0, .bool false], by simp [results, Try.results38, go_sem, e1], _, rfl, World.ownsRow_nil _ _ _ _, b2⟩
theorem walk_FnExactNearestHeard (p : Int) (a : Option Addr) (len cap : Nat) (zs : List Int) (w : World) (wp : (Lit.int .i64 p).wf = true) (hr : IsRow .i64 w a len cap zs) :
    Calls Try.prog 11 #[.int .i64 p, .slice a len cap] w fun e w' => e = .returned (.bool true) ∧ Below w.heap.size w w' :=
  walk_NearestBy near_impl p wp a len cap zs w hr
end Go.Proofs.Ytohfepcdgbgojab
