/- Contract of impl.thirdsKey: twelve thirds as an array; an array of twelve as a value. -/
import Derived.Deep.WholeRow
import Derived.Maps.OwnIn
import Derived.Test.YtohfepcdgbgojabHeardLaw
import Derived.Test.YtohfepcdgbgojabThirdsImpl
namespace Go.Proofs.Ytohfepcdgbgojab
open Go.RowKit Go.Joins
set_option linter.unusedVariables false
/-! An operation whose run is told, at its place in the walk (plain, and inside a fence). -/
section
variable {F : Fence} {nF : Nat} {P : Program} {w w' : World} {ops : Array Oper} {rest : List Oper} {o : Oper} {a : Act} {Q : Exit → Act → World → Prop}
theorem wpList_load_run (hg : o.guard = none) (x : Operand) (t : TypeId) (hop : o.op = Op.load t x) {u v : Value} (hx : a.eval x = u) (hrun : (Instr.loadAt t u).run P w = .ok v w') (hK : wpList P ops Q rest (a.put o.dst v) w') : wpList P ops Q (o :: rest) a w := by
  refine wpList_plain hg fun K' hK' => ?_
  unfold Oper.wp
  simp [execOp, hop, hx, hrun, Result.andThen]
  exact hK' _ _ hK
theorem wpList_store_run (hg : o.guard = none) (x y : Operand) (t : TypeId) (hop : o.op = Op.store t x y) {u v : Value} (hx : a.eval x = u) (hy : a.eval y = v) (hrun : (Instr.storeAt t u v).run P w = .ok () w') (hK : wpList P ops Q rest (a.put o.dst undef) w') : wpList P ops Q (o :: rest) a w := by
  refine wpList_plain hg fun K' hK' => ?_
  unfold Oper.wp
  simp [execOp, hop, hx, hy, hrun, Result.andThen]
  exact hK' _ _ hK
theorem wpListIn_load_run (hg : o.guard = none) (x : Operand) (t : TypeId) (hop : o.op = Op.load t x) {u v : Value} (hx : a.eval x = u) (hrun : (Instr.loadAt t u).run P w = .ok v w') (hK : wpListIn F nF P ops Q rest (a.put o.dst v) w') : wpListIn F nF P ops Q (o :: rest) a w := by
  refine wpListIn_plain hg fun K' hK' => ?_
  unfold Oper.wpIn
  refine ⟨by simp [Oper.about, hop], ?_⟩
  rw [Oper.semAt_plain F _ _ (by rw [hop]; intro c hc'; cases hc')]
  simp [execOp, hop, hx, hrun, Result.andThen]
  exact hK' _ _ hK
theorem wpListIn_store_run (hg : o.guard = none) (x y : Operand) (t : TypeId) (hop : o.op = Op.store t x y) {u v : Value} (hx : a.eval x = u) (hy : a.eval y = v) (hrun : (Instr.storeAt t u v).run P w = .ok () w') (hK : wpListIn F nF P ops Q rest (a.put o.dst undef) w') : wpListIn F nF P ops Q (o :: rest) a w := by
  refine wpListIn_plain hg fun K' hK' => ?_
  unfold Oper.wpIn
  refine ⟨by simp [Oper.about, hop], ?_⟩
  rw [Oper.semAt_plain F _ _ (by rw [hop]; intro c hc'; cases hc')]
  simp [execOp, hop, hx, hy, hrun, Result.andThen]
  exact hK' _ _ hK
theorem wpListIn_mapEntry_run (hg : o.guard = none) (m x : Operand) (t : TypeId) (hop : o.op = Op.mapEntry t m x) {b k v : Value} (hm : a.eval m = b) (hx : a.eval x = k) (hrun : (Instr.mapEntry t b k).run P w = .ok v w') (hK : wpListIn F nF P ops Q rest (a.put o.dst v) w') : wpListIn F nF P ops Q (o :: rest) a w := by
  refine wpListIn_plain hg fun K' hK' => ?_
  unfold Oper.wpIn
  refine ⟨by simp [Oper.about, hop], ?_⟩
  rw [Oper.semAt_plain F _ _ (by rw [hop]; intro c hc'; cases hc')]
  simp [execOp, hop, hm, hx, hrun, Result.andThen]
  exact hK' _ _ hK
theorem wpListIn_entryStore_run (hg : o.guard = none) (m x y : Operand) (t : TypeId) (hop : o.op = Op.entryStore t m x y) {b s v : Value} (hm : a.eval m = b) (hx : a.eval x = s) (hy : a.eval y = v) (hrun : (Instr.entryStore t b s v).run P w = .ok () w') (hK : wpListIn F nF P ops Q rest (a.put o.dst undef) w') : wpListIn F nF P ops Q (o :: rest) a w := by
  refine wpListIn_plain hg fun K' hK' => ?_
  unfold Oper.wpIn
  refine ⟨by simp [Oper.about, hop], ?_⟩
  rw [Oper.semAt_plain F _ _ (by rw [hop]; intro c hc'; cases hc')]
  simp [execOp, hop, hm, hx, hy, hrun, Result.andThen]
  exact hK' _ _ hK
end
theorem szArr : (Try.prog.info? 89).map (·.size) = some 12 := by kernel_rfl
/-- An array of twelve ints lies at block m. -/
def ArrAt (m : Nat) (C : Array Value) (W : World) : Prop := W.heap[m]? = some (.cells C 89 (0, 0)) ∧ C.size = 12
theorem arr_lt {m : Nat} {C : Array Value} {W : World} (h : ArrAt m C W) : m < W.heap.size := (Array.getElem?_eq_some_iff.1 h.1).1
theorem arr_below {m : Nat} {C : Array Value} {W W' : World} (h : ArrAt m C W) (hb : Below W.heap.size W W') : ArrAt m C W' := ⟨(hb.block m (arr_lt h)).trans h.1, h.2⟩
theorem arr_loadVar {m : Nat} {C : Array Value} {W : World} (h : ArrAt m C W) : (loadVar 89 ⟨m, 0, none⟩).run Try.prog W = .ok (.agg C) W :=
  run_loadVar_row _ _ _ _ C (0, 0) _ h.1 Try.underlying89 rfl (by rw [szArr, h.2])
theorem arr_loadAt {m : Nat} {C : Array Value} {W : World} (h : ArrAt m C W) : (Instr.loadAt 89 (.pointer (some ⟨m, 0, none⟩))).run Try.prog W = .ok (.agg C) W := by
  simp only [Instr.loadAt, Instr.sureAddr, Sem.run_bind, Sem.run_pure, Result.andThen]
  exact arr_loadVar h
theorem arr_loadCells {m : Nat} {C : Array Value} {W : World} (h : ArrAt m C W) : (loadCellsFrom ⟨m, 0, none⟩ 0 12 #[]).run Try.prog W = .ok C W := by
  have := run_loadCells_list (P := Try.prog) W ⟨m, 0, none⟩ C.toList (fun j v hv => by
    have hadd : (⟨m, 0, none⟩ : Addr).add j = ⟨m, j, none⟩ := by unfold Addr.add; split <;> simp_all
    rw [hadd, cell_of_row _ _ j C _ (0, 0) h.1]
    simpa using hv)
  simpa [loadCells, h.2] using this
theorem arr_setRow {m : Nat} {C C' : Array Value} {W : World} (h : ArrAt m C W) (h' : C'.size = 12) : ArrAt m C' (W.setRow m C') := ⟨setRow_heap W m _ _ _ _ h.1, h'⟩
theorem arr_storeVar {m : Nat} {C C' : Array Value} {W : World} (h : ArrAt m C W) (h' : C'.size = 12) (h1 : C'.all (·.oneCell') = true) : (storeVar 89 ⟨m, 0, none⟩ (.agg C')).run Try.prog W = .ok () (W.setRow m C') :=
  run_storeVar_row W m _ _ C C' h.1 (by rw [szArr, h']) (by rw [h.2, h']) h1
theorem arr_storeAt {m : Nat} {C C' : Array Value} {W : World} (h : ArrAt m C W) (h' : C'.size = 12) (h1 : C'.all (·.oneCell') = true) : (Instr.storeAt 89 (.pointer (some ⟨m, 0, none⟩)) (.agg C')).run Try.prog W = .ok () (W.setRow m C') := by
  simp only [Instr.storeAt, Instr.sureAddr, Sem.run_bind, Sem.run_pure, Result.andThen]
  exact arr_storeVar h h' h1
theorem arr_storeCells {m : Nat} {C C' : Array Value} {W : World} (h : ArrAt m C W) (h' : C'.size = 12) (h1 : C'.all (·.oneCell') = true) : (storeCells ⟨m, 0, none⟩ C'.toList 0).run Try.prog W = .ok () (W.setRow m C') := by
  have := arr_storeVar h h' h1
  have hq := szArr
  cases hi : Try.prog.info? 89 with
  | none => simp [hi] at hq
  | some i =>
    have hs : i.size = 12 := by simpa [hi] using hq
    simpa [storeVar, sizeOf, typeInfo, hi, Value.cells, h', hs] using this
/-- copy onto an array of twelve. -/
theorem copy_twelve (w : World) (m ty g c : Nat) (Z : Array Value) (ts : List Int) (ht : ts.length = 12) (hg : ArrAt m Z w) (hsrc : ∀ j, j < 12 → w.cell? ⟨g, j, none⟩ = some (.int .i64 (ts.getD j 0))) :
    ∃ W, (Builtin.copy_ #[24, 24] ty #[.slice (some ⟨m, 0, none⟩) 12 12, .slice (some ⟨g, 0, none⟩) 12 c]).run Try.prog w = .ok (.int .i64 12) W ∧
      ArrAt m (intCs ts).toArray W ∧ ∀ B, B ≤ m → Below B w W := by
  have hl : (intCs ts).length = 12 := by rw [intCs_len, ht]
  have e := run_copy_row (P := Try.prog) w 24 24 ty 3 m 0 12 12 ⟨g, 0, none⟩ 12 c Z 89 (intCs ts) Try.underlying24 (by kernel_rfl) hg.1 (by rw [hl]; rfl)
    (fun j v hv => by
      have hj : j < 12 := by
        rcases Nat.lt_or_ge j 12 with h | h
        · exact h
        · rw [List.getElem?_eq_none (by rw [hl]; exact h)] at hv; cases hv
      rw [intCs_get ts j (by rw [ht]; exact hj)] at hv
      rw [← hv, show (⟨g, 0, none⟩ : Addr).add j = ⟨g, j, none⟩ from by unfold Addr.add; split <;> simp_all]
      exact hsrc j hj) (by rw [hl, hg.2]; exact Nat.le_refl _) (fun v hv => by unfold intCs at hv; obtain ⟨x, _, rfl⟩ := List.mem_map.1 hv; rfl)
  rw [hl] at e
  refine ⟨_, e, ⟨?_, by simp [hl]⟩, fun B hB => below_setRow (Below.refl _ _) hB _⟩
  rw [setRow_heap w m _ _ _ _ hg.1]
  simp [List.drop_eq_nil_of_le (show Z.toList.length ≤ 12 from by simp [hg.2])]
theorem all_one (ts : List Int) : (intCs ts).toArray.all (·.oneCell') = true := by
  rw [Array.all_eq_true_iff_forall_mem]
  intro v hv
  simp [intCs] at hv
  obtain ⟨x, _, rfl⟩ := hv
  rfl
/-- Two arrays of zeros, the first for the result. -/
theorem two_arr (w : World) (Z : Array Value) (hZ : Z.size = 12) : Below w.heap.size w ((w.alloc (.cells Z 89)).alloc (.cells Z 89)) ∧ ArrAt w.heap.size Z ((w.alloc (.cells Z 89)).alloc (.cells Z 89)) ∧ ArrAt (w.heap.size + 1) Z ((w.alloc (.cells Z 89)).alloc (.cells Z 89)) := by
  refine ⟨below_alloc2 w _ _, ⟨(Below.heap_alloc _ _ _ (by simp)).trans (World.alloc_heap_new w _), hZ⟩, ?_, hZ⟩
  have := World.alloc_heap_new (w.alloc (.cells Z 89)) (.cells Z 89)
  rwa [World.size_alloc] at this
set_option maxRecDepth 100000 in
set_option maxHeartbeats 4000000 in
theorem key_impl (w : World) (b : Nat) (e : TypeId) (v : Value) (ts : List Int) (ht : ts.length = 12) (h : w.ownsRow b e 1 v 12 (intCs ts)) :
    Calls Try.prog 72 #[v] w fun e w' => e = .returned (.agg (intCs ts).toArray) ∧ Below w.heap.size w w' := by
  obtain ⟨g, c, rfl, _, lg⟩ := own_pos h (by omega)
  obtain ⟨b0, z0, g0⟩ := two_arr w #[.int .i64 0, .int .i64 0, .int .i64 0, .int .i64 0, .int .i64 0, .int .i64 0, .int .i64 0, .int .i64 0, .int .i64 0, .int .i64 0, .int .i64 0, .int .i64 0] rfl
  obtain ⟨W0, hW0⟩ : ∃ W, W = (w.alloc (.cells #[.int .i64 0, .int .i64 0, .int .i64 0, .int .i64 0, .int .i64 0, .int .i64 0, .int .i64 0, .int .i64 0, .int .i64 0, .int .i64 0, .int .i64 0, .int .i64 0] 89)).alloc (.cells #[.int .i64 0, .int .i64 0, .int .i64 0, .int .i64 0, .int .i64 0, .int .i64 0, .int .i64 0, .int .i64 0, .int .i64 0, .int .i64 0, .int .i64 0, .int .i64 0] 89) := ⟨_, rfl⟩
  rw [← hW0] at b0 z0 g0
  obtain ⟨W, hrun, gC, hb⟩ := copy_twelve W0 (w.heap.size + 1) 3 g c _ ts ht g0 (fun j hj => (b0.cell (p := ⟨g, j, none⟩) lg).trans (own_icell h j hj))
  have A1 := Lib.hid (all_one ts)
  obtain ⟨C, hC⟩ : ∃ C, C = (intCs ts).toArray := ⟨_, rfl⟩
  rw [← hC] at gC A1 ⊢
  clear hC
  have z1 : ArrAt w.heap.size _ W := ⟨((hb (w.heap.size + 1) (Nat.le_refl _)).block _ (by omega)).trans z0.1, z0.2⟩
  have HB := Lib.hid (b0.trans (hb _ (by omega)))
  have l1 := arr_loadAt gC
  have s1 := arr_storeAt z1 gC.2 A1.out
  have R := arr_setRow z1 gC.2
  have HB2 := Lib.hid (show Below w.heap.size w (W.setRow w.heap.size C) from below_setRow HB.out (Nat.le_refl _) _)
  obtain ⟨m, hm⟩ : ∃ m, m = w.heap.size := ⟨_, rfl⟩
  rw [← hm] at s1 R hrun l1
  obtain ⟨W2, hW2⟩ : ∃ W2, W2 = W.setRow m C := ⟨_, rfl⟩
  rw [← hm, ← hW2] at HB2
  rw [← hW2] at s1 R
  have r1 := arr_loadVar R
  clear hW2 R z1 HB gC b0 z0 g0 hb h
  go_enter Try.func72, Try.ntmps72
  go_upto_region 2 with fail
  rw [← hW0, ← hm]
  have HM := Lib.hid hm
  clear hW0 hm
  go_wp2_with (first
    | refine wpList_load_run rfl (.tmp 3) 89 rfl rfl l1 ?_
    | refine wpList_store_run rfl (.tmp 2) (.tmp 7) 89 rfl rfl rfl s1 ?_)
  refine bodyPost_ret (v := .agg C) (by simp [results, Try.results72, Act.put, asAddr, r1]) rfl ⟨rfl, by rw [← HM.out]; exact HB2.out⟩
end Go.Proofs.Ytohfepcdgbgojab
