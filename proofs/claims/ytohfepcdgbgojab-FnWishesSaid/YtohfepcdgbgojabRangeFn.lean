/- A range over a function whose elements lie in memory: what the iterator owes (Gives), and the walk of the statement over it. -/
import Derived.RangeFuncNested
import Derived.Lib.SmallJoins
import Derived.RangeFuncCalls
import Derived.RangeFuncBound
import Derived.Test.YtohfepcdgbgojabNumBase
namespace Go.Proofs.Ytohfepcdgbgojab
open Go.RowKit Go.Joins
set_option linter.unusedVariables false
/-- The rounds come one by one; R k x W1 W2: round k is handed x in W2, W1 being the world behind the round before; block m is kept by the rounds. -/
def Gives {β : Type} (F : Fence) (n : Nat) (P : Program) (gf : Nat) (lb : Array Value) (encs : β → Array Value) (R : Nat → β → World → World → Prop) (N : Nat) (m : Nat) (w0 : World) : Prop :=
  ∀ (l : Nat) (J : Nat → World → Prop) (Jx : World → Prop) (W : World), Below w0.heap.size w0 W →
    (∀ k x W1 W2, k < N → J k W1 → Below W1.heap.size W1 W2 → R k x W1 W2 → YieldAt F (n - 1) P l (encs x) W2 fun e W' =>
      (e = .returned (.bool true) ∧ J (k + 1) W' ∧ W'.heap[m]? = W2.heap[m]?) ∨ (e = .returned (.bool false) ∧ Jx W')) →
    J 0 W →
    CallsIn F n P gf (#[.func (.yield l) #[] #[]] ++ lb) W fun e W' => (∃ v, e = .returned v) ∧ ((∃ W0, J N W0 ∧ Below W0.heap.size W0 W') ∨ (∃ W0, Jx W0 ∧ Below W0.heap.size W0 W'))
/-- How a round may be left. -/
def LeftBy (B m : Nat) (Z : World → Prop) (Ix : Code → World → Prop) (W : World) : Exit → Act → World → Prop
  | .normal, _, W' => KeepsFrom B W W' ∧ W'.heap[m]? = W.heap[m]? ∧ Z W'
  | .ret, _, W' => KeepsFrom B W W' ∧ Ix .ret W'
  | .exit id, _, W' => KeepsFrom B W W' ∧ Ix (.exit id) W'
  | .goto t, _, W' => KeepsFrom B W W' ∧ Ix (.goto t) W'
  | .panic _, _, _ => False
  | .outgrown, _, _ => False
/-- One object that is no row of cells is put in another's place. -/
theorem put_keeps {B : Nat} {I : World → Prop} (hI : OwnFrom B (fun (_ : Unit) W => I W)) {W : World} {l : Nat} {o : Obj} (o' : Obj) (h : I W) (hB : B ≤ l) (hl : W.heap[l]? = some o) (ho : o.isCells = false) : I (W.putObj l o') :=
  hI.putObj (s := ()) o' h hB hl ho
theorem new_keeps {B : Nat} {I : World → Prop} (hI : OwnFrom B (fun (_ : Unit) W => I W)) {W W' : World} (h : I W) (hb : Below W.heap.size W W') : I W' :=
  hI () W W' none h (grown_of_below hb) (fun r e => by cases e)
theorem block_keeps {W W' : World} {l : Nat} {o : Obj} (hb : Below W.heap.size W W') (hl : W.heap[l]? = some o) : W'.heap[l]? = some o :=
  (hb.block l (Array.getElem?_eq_some_iff.1 hl).1).trans hl
theorem cell_lt {W : World} {a : Addr} {v : Value} (h : W.cell? a = some v) : a.block < W.heap.size := by
  obtain ⟨o, ho, _⟩ := cells_of_cell h
  exact (Array.getElem?_eq_some_iff.1 ho).1
variable {F : Fence} {n : Nat} {P : Program}
set_option maxHeartbeats 1000000 in
theorem walk_range {β : Type} {g : Operand} {ps : Array Tmp} {assign body : Code} {Q : Exit → Act → World → Prop} {a : Act} {w : World}
    (hro : F.round = none) (h1 : 1 ≤ n) {gf : Nat} {lb : Array Value} (hg : a.eval g = .func (.func gf) #[] lb) (hFg : F.fn gf) (eg : ∀ args w, (callFunc gf args).run P w = .ok (.enter gf args) w)
    {encs : β → Array Value} {R : Nat → β → World → World → Prop} {N m : Nat} {w0 : World} (hseq : Gives F (n - 1) P gf lb encs R N m w0) (hmw : m < w.heap.size) (hb0 : Below w0.heap.size w0 w) (hps : ∀ x, (encs x).size = ps.size)
    (I : Nat → World → Prop) (Ix : Code → World → Prop) (hI : ∀ k, OwnFrom w.heap.size (fun (_ : Unit) W => I k W)) (hIx : ∀ c, OwnFrom w.heap.size (fun (_ : Unit) W => Ix c W)) (h0 : I 0 w)
    (G : Nat → β → Act → World → Prop) (hG : ∀ k x a', OwnFrom w.heap.size (fun (_ : Unit) W => G k x a' W))
    (hassign : ∀ (l k : Nat) (x : β) (W1 W : World) (K : Act → World → Prop), k < N → I k W1 → Below W1.heap.size W1 W → R k x W1 W → (∀ a' W', KeepsFrom w.heap.size W W' → W'.heap[m]? = W.heap[m]? → G k x a' W' → K a' W') →
      assign.wpIn (F.inRound l) (n - 1 - 1) P (Exit.then K (fun _ _ _ => False)) { tmps := (ps.zip (encs x)).foldl (fun t (p, v) => t.setIfInBounds p v) a.tmps, defers := [] } W)
    (hbody : ∀ (l k : Nat) (x : β) (a' : Act) (W : World), k < N → G k x a' W → body.wpIn (F.inRound l) (n - 1 - 1) P (LeftBy w.heap.size m (I (k + 1)) Ix W) a' W)
    (hdone : ∀ (D : Nat) (W : World), w.heap.size ≤ D → I N W → W.heap[D]? = some (.deferred (some [])) → Q .normal { a with defers := { target := .collected D, args := #[] } :: a.defers } W)
    (hstop : ∀ (D : Nat) (c : Code) (W : World), w.heap.size ≤ D → Ix c W → W.heap[D]? = some (.deferred (some [])) → c.wpIn F n P Q { a with defers := { target := .collected D, args := #[] } :: a.defers } W) :
    (Code.rangeFunc g ps assign body).wpIn F n P Q a w := by
  refine wpIn_rangeFunc fun fn hfn => ?_
  rw [hro]
  obtain ⟨rec, hrec⟩ : ∃ rec : LoopState → Option Code → Loop, rec = fun st pe => { state := st, pending := pe, fn, tmps := a.tmps, params := ps, assign, body, defers := w.heap.size } := ⟨_, rfl⟩
  obtain ⟨M, hM⟩ : ∃ M, M = w.heap.size := ⟨_, rfl⟩
  have hen := run_enterLoop_outer (P := P) (w := w) fn a.tmps ps assign body
  obtain ⟨V, hV⟩ : ∃ V, V = (w.alloc (.deferred (some []))).alloc (.loop (rec .ready none)) := ⟨_, rfl⟩
  have bV : Below w.heap.size w V := by rw [hV]; exact ((Below.refl _ w).alloc (Nat.le_refl _) _).alloc (by simp) _
  have lV : V.heap[M + 1]? = some (.loop (rec .ready none)) := by
    rw [hV, hM]
    have := World.alloc_heap_new (w.alloc (.deferred (some []))) (.loop (rec .ready none))
    rwa [World.size_alloc] at this
  have dV : V.heap[M]? = some (.deferred (some [])) := by
    rw [hV, hM]
    exact (Below.heap_alloc _ _ _ (by simp)).trans (World.alloc_heap_new w _)
  refine ⟨M + 1, [{ target := .collected M, args := #[] }], V, { target := .fn (.func gf) lb, args := #[.func (.yield (M + 1)) #[] #[]] }, V, gf, #[.func (.yield (M + 1)) #[] #[]] ++ lb, V, ?_, ?_, ?_, ?_, fun _ => h1, ?_⟩
  · rw [hen, hV, hrec, hM]
  · simp only [resolve, hg]
    simp [go_sem]
  · intro f' hf'
    simp [Target.leads] at hf'
    subst hf'
    exact hFg
  · simp [invoke, go_sem, eg]
  · clear hen
    rw [← hM] at hI hIx hG hassign hbody hdone hstop hmw
    have hsz : w0.heap.size ≤ M := by rw [hM]; exact hb0.size
    refine (hseq (M + 1)
      (fun k W => I k W ∧ W.heap[M + 1]? = some (.loop (rec .ready none)) ∧ W.heap[M]? = some (.deferred (some [])))
      (fun W => ∃ c, Ix c W ∧ W.heap[M + 1]? = some (.loop (rec .done (some c))) ∧ W.heap[M]? = some (.deferred (some [])))
      V (hb0.trans (bV.mono hb0.size)) ?_ ⟨new_keeps (hI 0) h0 bV, lV, dV⟩).mono ?_
    · rintro k x W1 W hk ⟨i1, l1, d1⟩ hbb hr
      have l2 := block_keeps hbb l1
      have d2 := block_keeps hbb d1
      have hy := run_yield (P := P) (args := encs x) l2 (by rw [hrec]; exact hps x)
      rw [hrec] at hy
      refine ⟨fn, _, assign, body, hy, roundIn_of_wpIn hfn (hassign _ k x W1 W _ hk i1 hbb hr ?_)⟩
      intro a' Wa kf kb hg'
      have l3 := kf.same _ _ (Nat.le_succ _) l2 rfl
      have d3 := kf.same _ _ (Nat.le_refl _) d2 rfl
      have lt3 : M + 1 < Wa.heap.size := (Array.getElem?_eq_some_iff.1 l3).1
      refine ⟨_, run_beginRound l3 (by rw [hrec]), ?_⟩
      have hbusy : ∀ X Y : Loop, X = Y → (Wa.putObj (M + 1) (.loop X)) = (Wa.putObj (M + 1) (.loop Y)) := fun X Y e => by rw [e]
      rw [hbusy _ (rec .busy none) (by rw [hrec])]
      obtain ⟨Wb, hWb⟩ : ∃ Wb, Wb = Wa.putObj (M + 1) (.loop (rec .busy none)) := ⟨_, rfl⟩
      have l4 : Wb.heap[M + 1]? = some (.loop (rec .busy none)) := by rw [hWb]; exact World.putObj_heap_same lt3
      have d4 : Wb.heap[M]? = some (.deferred (some [])) := by rw [hWb]; exact (World.putObj_heap_other (by omega)).trans d3
      have g4 : G k x a' Wb := by rw [hWb]; exact put_keeps (hG k x a') _ hg' (Nat.le_succ _) l3 rfl
      have b4 : Wb.heap[m]? = W.heap[m]? := by
        rw [hWb]
        exact (World.putObj_heap_other (by omega)).trans kb
      rw [← hWb]
      clear hWb hbusy
      refine wpIn_mono (hbody _ k x a' Wb hk g4) ?_
      have fin : ∀ (jump : Option Code) (X : World), KeepsFrom M Wb X →
          (Instr.endRound (M + 1) jump).run P X = .ok (.bool jump.isNone) (X.putObj (M + 1) (.loop (rec (if jump.isNone then .ready else .done) jump))) ∧
          X.heap[M + 1]? = some (.loop (rec .busy none)) ∧
          (X.putObj (M + 1) (.loop (rec (if jump.isNone then .ready else .done) jump))).heap[M + 1]? = some (.loop (rec (if jump.isNone then .ready else .done) jump)) ∧
          (X.putObj (M + 1) (.loop (rec (if jump.isNone then .ready else .done) jump))).heap[M]? = some (.deferred (some [])) := fun jump X hx => by
        have l5 := hx.same _ _ (Nat.le_succ _) l4 rfl
        refine ⟨?_, l5, World.putObj_heap_same (Array.getElem?_eq_some_iff.1 l5).1, (World.putObj_heap_other (by omega)).trans (hx.same _ _ (Nat.le_refl _) d4 rfl)⟩
        have := run_endRound (P := P) jump l5
        rw [hrec] at this ⊢
        exact this
      rintro e a3 X hp
      cases e with
      | normal =>
        obtain ⟨hx, hbx, hi⟩ := hp
        obtain ⟨hrun, l5, l6, d6⟩ := fin none X hx
        refine ⟨_, _, hrun, .inl ⟨rfl, ⟨put_keeps (hI _) _ hi (Nat.le_succ _) l5 rfl, l6, d6⟩, ?_⟩⟩
        exact (World.putObj_heap_other (by omega)).trans (hbx.trans b4)
      | ret =>
        obtain ⟨hrun, l5, l6, d6⟩ := fin (some .ret) X hp.1
        exact ⟨_, _, hrun, .inr ⟨rfl, .ret, put_keeps (hIx _) _ hp.2 (Nat.le_succ _) l5 rfl, l6, d6⟩⟩
      | exit id =>
        obtain ⟨hrun, l5, l6, d6⟩ := fin (some (.exit id)) X hp.1
        exact ⟨_, _, hrun, .inr ⟨rfl, .exit id, put_keeps (hIx _) _ hp.2 (Nat.le_succ _) l5 rfl, l6, d6⟩⟩
      | goto t =>
        obtain ⟨hrun, l5, l6, d6⟩ := fin (some (.goto t)) X hp.1
        exact ⟨_, _, hrun, .inr ⟨rfl, .goto t, put_keeps (hIx _) _ hp.2 (Nat.le_succ _) l5 rfl, l6, d6⟩⟩
      | panic ch => exact hp.elim
      | outgrown => exact hp.elim
    · rintro e W2 ⟨⟨v, rfl⟩, (⟨W0, ⟨hi, hl, hd⟩, hb⟩ | ⟨W0, ⟨c, hi, hl, hd⟩, hb⟩)⟩
      · have hl := block_keeps hb hl
        have hend := run_endLoop (P := P) hl (by rw [hrec]; simp)
        rw [hrec] at hend
        exact ⟨none, _, hend, hdone M _ (Nat.le_refl _) (put_keeps (hI N) _ (new_keeps (hI N) hi hb) (Nat.le_succ _) hl rfl) ((World.putObj_heap_other (by omega)).trans (block_keeps hb hd))⟩
      · have hl := block_keeps hb hl
        have hend := run_endLoop (P := P) hl (by rw [hrec]; simp)
        rw [hrec] at hend
        exact ⟨some c, _, hend, hstop M c _ (Nat.le_refl _) (put_keeps (hIx c) _ (new_keeps (hIx c) hi hb) (Nat.le_succ _) hl rfl) ((World.putObj_heap_other (by omega)).trans (block_keeps hb hd))⟩
/-- A box, and what lay before. -/
theorem boxed_from {β : Type} (B M : Nat) (t : TypeId) (f : β → Value) : OwnFrom M (fun s W => Boxed W B t (f s)) := Own.from (boxed_own B t f) M
theorem boxed_below {W W' : World} {B : Nat} {t : TypeId} {v : Value} (h : Boxed W B t v) (hb : Below W.heap.size W W') : Boxed W' B t v := h.kept (grown_of_below hb) (by simp)
/-- A row in memory of its own abides the turn of what is no row. -/
theorem row_own {β : Type} (M base : Nat) (e : TypeId) (size : Nat) (v : β → Value) (k : β → Nat) (f : β → List Value) : OwnFrom M (fun s W => W.ownsRow base e size (v s) (k s) (f s)) := by
  intro s X Y row hr hg hrow
  refine hr.kept hg ?_
  rcases hr.2 with ⟨h, _⟩ | ⟨g, cap, cur, h, _, hgb, _⟩
  · left; rw [h]; rfl
  · right
    intro e'
    rw [h] at e'
    obtain ⟨_, o, ho, hc⟩ := hrow g (by simpa [Value.ownBlock] using e'.symm)
    rw [hgb] at ho; cases ho; cases hc
theorem keeps_below {B : Nat} {W W' : World} (hb : Below W.heap.size W W') : KeepsFrom B W W' := ⟨hb.size, fun _ _ _ hk _ => block_keeps hb hk⟩
theorem three_boxes (w : World) (t0 t1 t2 : TypeId) (v0 v1 v2 : Value) :
    Below w.heap.size w (((w.alloc (.cells #[v0] t0)).alloc (.cells #[v1] t1)).alloc (.cells #[v2] t2)) ∧ Boxed (((w.alloc (.cells #[v0] t0)).alloc (.cells #[v1] t1)).alloc (.cells #[v2] t2)) w.heap.size t0 v0 ∧
      Boxed (((w.alloc (.cells #[v0] t0)).alloc (.cells #[v1] t1)).alloc (.cells #[v2] t2)) (w.heap.size + 1) t1 v1 ∧ Boxed (((w.alloc (.cells #[v0] t0)).alloc (.cells #[v1] t1)).alloc (.cells #[v2] t2)) (w.heap.size + 2) t2 v2 ∧
      (((w.alloc (.cells #[v0] t0)).alloc (.cells #[v1] t1)).alloc (.cells #[v2] t2)).heap.size = w.heap.size + 3 := by
  refine ⟨(((Below.refl _ w).alloc (Nat.le_refl _) _).alloc (by simp) _).alloc (by simp; omega) _, ((Boxed.new w t0 v0).alloc _).alloc _, ?_, ?_, by simp⟩
  · have h := (Boxed.new (w.alloc (.cells #[v0] t0)) t1 v1).alloc (.cells #[v2] t2)
    rwa [World.size_alloc] at h
  · have h := Boxed.new ((w.alloc (.cells #[v0] t0)).alloc (.cells #[v1] t1)) t2 v2
    rwa [World.size_alloc, World.size_alloc] at h
theorem four_boxes (w : World) (t0 t1 t2 t3 : TypeId) (v0 v1 v2 v3 : Value) (W : World) (hW : W = (((w.alloc (.cells #[v0] t0)).alloc (.cells #[v1] t1)).alloc (.cells #[v2] t2)).alloc (.cells #[v3] t3)) :
    Below w.heap.size w W ∧ Boxed W w.heap.size t0 v0 ∧ Boxed W (w.heap.size + 1) t1 v1 ∧ Boxed W (w.heap.size + 2) t2 v2 ∧ Boxed W (w.heap.size + 3) t3 v3 ∧ W.heap.size = w.heap.size + 4 := by
  obtain ⟨b, x0, x1, x2, hs⟩ := three_boxes w t0 t1 t2 v0 v1 v2
  generalize ((w.alloc (.cells #[v0] t0)).alloc (.cells #[v1] t1)).alloc (.cells #[v2] t2) = X at *
  subst hW
  have h := Boxed.new X t3 v3
  rw [hs] at h
  exact ⟨b.alloc (by omega) _, x0.alloc _, x1.alloc _, x2.alloc _, h, by rw [World.size_alloc, hs]⟩
end Go.Proofs.Ytohfepcdgbgojab
