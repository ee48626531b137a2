/- For every two divisions, impl.SharedBy answers as its model: the interval of the three products, divided by their greatest common divisor and not less than the prime, and true; the zero interval and false where a division or the interval is not valid or all three are 0.
   Proved of the Go function laws.FnExactSharedBy at the commit named in COMMIT. Conditions: the listed package-level error variable starts as the program text lays it (the card ties it). -/
import Derived.Test.YtfhefakacjkmiaaDoorCards
import Derived.Test.YtfhefakacjkmiaaDoorTie
import Derived.Test.YtfhefakacjkmiaaDoorShareLaw
import Derived.WalkKit
import Derived.ProofKit
import Derived.OpenShut
import Derived.ShutString
import Derived.ChangeOld
import Derived.Below
import Derived.Deep.DeepHandedRow
import Derived.Stop.LaidErr
import Derived.RowKitTokens
import Derived.LaidLaws
import Derived.ChangeVars
import Derived.Lib.SmallJoins
namespace Go.Proofs.YtfhefakacjkmiaaDoor.fnExactSharedBy
open Go.ChangeShapes Go.WideShapes Go.ChangeAt Go.RowKit
open Go.ChangeMaps (open_string shut_string)
set_option linter.unusedVariables false
open Go.Joins
theorem cellsM : Tryd.prog.cellsOf 46 = 3 := by kernel_rfl
theorem own : ownKnob Tryd.prog.godebug = none := by kernel_rfl
theorem gVar : Tryd.prog.globalNamed "loop.example/g00989/impl.errInvalidInterval" = some 0 := by kernel_rfl
theorem gVarType : (Tryd.prog.globals[0]?).map (·.type) = some 84 := by kernel_rfl
theorem cellsS : Tryd.prog.cellsOf 140 = 1 := by kernel_rfl
theorem cellsT : Tryd.prog.cellsOf 9 = 1 := by kernel_rfl
theorem star : "*" ++ "errors.errorString" = "*errors.errorString" := by decide
theorem rowE (u : TypeId) (h : Tryd.prog.typeName? 3 u = some "*errors.errorString") : u = 115 :=
  typeName_ptr_named (nm := "errors.errorString") (by rw [star]; kernel_rfl) (by kernel_rfl) (by decide) u (by rw [star]; exact h)
/-- What the row lists gives: the variable holds a pointer to the text. -/
theorem sentinel {W : World} (h : laidMetH Tryd.prog Rows.fnExactSharedByRow.laid W) : ∃ a : Addr, W.var? Tryd.prog "loop.example/g00989/impl.errInvalidInterval" = some #[.iface 115 (.pointer (some a))] := by
  have h1 : laidMet Tryd.prog [("loop.example/g00989/impl.errInvalidInterval", Rows.laid_loop_example_g00989_impl_errInvalidInterval)] W := h
  obtain ⟨a, s, h2, _⟩ := laid_sentinel h1 gVar gVarType Tryd.underlying84 rowE Tryd.underlying115 Tryd.underlying140 rfl rfl Tryd.underlying9 cellsS cellsT
  exact ⟨a, h2⟩
theorem var_below {W w : World} {x : Value} (h : W.var? Tryd.prog "loop.example/g00989/impl.errInvalidInterval" = some #[x]) (hb : Below W.heap.size W w) : w.var? Tryd.prog "loop.example/g00989/impl.errInvalidInterval" = some #[x] := by
  unfold World.var? at h ⊢
  rw [gVar] at h ⊢
  simp only [Option.bind_some] at h ⊢
  have hlt : 0 < W.heap.size := by
    rcases Nat.lt_or_ge 0 W.heap.size with h' | h'
    · exact h'
    · simp [Array.getElem?_eq_none h'] at h
  rw [hb.block 0 hlt]
  exact h
theorem vars_read {H : Type} (enc : TypeId × Value → H) {W : World} {x0 : Value} (h0 : W.var? Tryd.prog "loop.example/g00989/impl.errInvalidInterval" = some #[x0]) (i0 : IsIface x0) (sp : Nat → Bool) :
    DataW.TrodVars enc Tryd.prog W sp ["loop.example/g00989/impl.errInvalidInterval"] [tok enc x0] [.cell 0 0] :=
  ⟨0, 84, #[x0], 1, [], [], gVar, gVarType, h0, trod_held Tryd.underlying84 i0 0, rfl, rfl⟩
set_option maxRecDepth 100000 in
theorem contract (H : Type) (enc : TypeId × Value → H) (W : World) (base : Nat) (args : Array Value) (ds gs : List (DataW H)) (before : List MemPlace)
    (hval : ∀ (j : Nat) t v, Tryd.f6.params[j]? = some t → args[j]? = some v → Value.okWide Tryd.prog W .any base t v)
    (hW : DataW.Whole enc Tryd.prog Tryd.f6.params.toList Rows.fnExactSharedBySpec.vars false W args.toList ds gs before) (hL : laidMetH Tryd.prog Rows.fnExactSharedByRow.laid W) :
    Calls Tryd.prog 6 args W fun e W' => ∃ v, e = .returned v ∧ Rows.fnExactSharedBySpec.post enc Tryd.prog Tryd.f6 false true false false W args v W' := by
  obtain ⟨adr, hv0⟩ := sentinel hL
  have hW' := hW
  obtain ⟨p, q, hA0, hV0, rfl, hfz, hnd⟩ := hW
  have hV : DataW.TrodVars enc Tryd.prog W (fun _ => true) ["loop.example/g00989/impl.errInvalidInterval"] gs q := hV0
  have hA : DataW.TrodAll enc Tryd.prog W 0 (fun _ => true) true Tryd.f6.params.toList args.toList ds p := hA0
  rw [Tryd.params6] at hA hval
  obtain ⟨v0, vs0, d0, ds0, p0, q0, hargs, rfl, rfl, h0, r0⟩ := trodAll_cons hA
  obtain ⟨v1, vs1, d1, ds1, p1, q1, rfl, rfl, rfl, h1, r1⟩ := trodAll_cons r0
  obtain ⟨rfl, rfl, rfl⟩ := trodAll_nil r1
  obtain rfl : args = #[v0, v1] := by cases args; simp_all
  obtain ⟨rfl, rfl⟩ := hV.unique (vars_read enc hv0 trivial _)
  have hs : SenAt adr W := by unfold SenAt; simpa using World.var?_cell gVar hv0 0
  obtain ⟨c00, c01, c02, y00, y01, y02, m0, rfl, rfl, rfl, hy00, hy01, hy02⟩ := open_agg3 Tryd.underlying46 (by kernel_rfl) cellsM (hval 0 46 v0 rfl rfl) h0
  obtain ⟨x00, e00, rfl, wx00⟩ := DataW.trod_int Tryd.underlying3 hy00
  obtain ⟨x01, e01, rfl, wx01⟩ := DataW.trod_int Tryd.underlying3 hy01
  obtain ⟨x02, e02, rfl, wx02⟩ := DataW.trod_int Tryd.underlying3 hy02
  simp only [List.cons.injEq, and_true] at e00 e01 e02
  subst e00 e01 e02
  obtain ⟨c10, c11, c12, y10, y11, y12, m1, rfl, rfl, rfl, hy10, hy11, hy12⟩ := open_agg3 Tryd.underlying46 (by kernel_rfl) cellsM (hval 1 46 v1 rfl rfl) h1
  obtain ⟨x10, e10, rfl, wx10⟩ := DataW.trod_int Tryd.underlying3 hy10
  obtain ⟨x11, e11, rfl, wx11⟩ := DataW.trod_int Tryd.underlying3 hy11
  obtain ⟨x12, e12, rfl, wx12⟩ := DataW.trod_int Tryd.underlying3 hy12
  simp only [List.cons.injEq, and_true] at e10 e11 e12
  subst e10 e11 e12
  clear hA0 hV0
  simp only [List.append_nil, List.nil_append] at hW'
  refine (walk_FnExactSharedBy adr x00 x01 x02 x10 x11 x12 W hs ).mono fun e W' ⟨he, bel⟩ => ?_
  subst he
  exact ⟨_, rfl, _, _, _, [], [], _, hW', trodAll_mk1 (shut_bool Tryd.underlying4 _), (trodAll_cons_mk (shut_agg3 (y0 := (.lit (.int .i64 x00), [])) (y1 := (.lit (.int .i64 x01), [])) (y2 := (.lit (.int .i64 x02), [])) Tryd.underlying46 (by kernel_rfl) cellsM ⟨1, by simp [DataW.trod, Tryd.underlying3, wx00]⟩ ⟨1, by simp [DataW.trod, Tryd.underlying3, wx01]⟩ ⟨1, by simp [DataW.trod, Tryd.underlying3, wx02]⟩) (trodAll_cons_mk (shut_agg3 (y0 := (.lit (.int .i64 x10), [])) (y1 := (.lit (.int .i64 x11), [])) (y2 := (.lit (.int .i64 x12), [])) Tryd.underlying46 (by kernel_rfl) cellsM ⟨1, by simp [DataW.trod, Tryd.underlying3, wx10]⟩ ⟨1, by simp [DataW.trod, Tryd.underlying3, wx11]⟩ ⟨1, by simp [DataW.trod, Tryd.underlying3, wx12]⟩) trodAll_mk0)), vars_read enc (var_below hv0 bel) trivial _, bel.frame _, fun h => by cases h⟩
abbrev txtS : ByteArray := { data := #[116, 104, 101, 32, 105, 110, 116, 101, 114, 118, 97, 108, 32, 105, 115, 32, 110, 111, 116, 32, 118, 97, 108, 105, 100] }
noncomputable def low : Nat := (World.holding Tryd.prog default ⟨#[], #[], []⟩).heap.size
/-- A world for the witness: the settled one, the variable holding a pointer to its text. -/
noncomputable def laidWorld (os : Os) : World :=
  let w0 := World.holding Tryd.prog os ⟨#[.cells #[.string txtS] 140], #[], []⟩
  { w0 with heap := w0.heap.modify 0 fun
      | .cells _ t frozen => .cells #[.iface 115 (.pointer (some ⟨low, 0, none⟩))] t frozen
      | o => o }
set_option maxRecDepth 100000 in
theorem laid_met (os : Os) : laidMet Tryd.prog Rows.fnExactSharedByRow.laid ((laidWorld os).forCall (fun _ _ => 0) ⟨#[], #[.agg #[.int .i64 0, .int .i64 0, .int .i64 0], .agg #[.int .i64 0, .int .i64 0, .int .i64 0]], []⟩).memory :=
  laidMet_of_run (ps := [.cell 0 0, .cell low 0]) 8 (by kernel_rfl) (by kernel_rfl) (by kernel_rfl)
theorem reads (os : Os) {H : Type} (enc : TypeId × Value → H) : ∃ places, DataW.whole enc Tryd.prog ((laidWorld os).forCall (fun _ _ => 0) ⟨#[], #[.agg #[.int .i64 0, .int .i64 0, .int .i64 0], .agg #[.int .i64 0, .int .i64 0, .int .i64 0]], []⟩).memory Tryd.f6.params.toList Rows.fnExactSharedBySpec.vars false (#[.agg #[.int .i64 0, .int .i64 0, .int .i64 0], .agg #[.int .i64 0, .int .i64 0, .int .i64 0]] : Array Value).toList 8 = some ([.agg [.lit (.int .i64 0), .lit (.int .i64 0), .lit (.int .i64 0)], .agg [.lit (.int .i64 0), .lit (.int .i64 0), .lit (.int .i64 0)]], [tok enc (.iface 115 (.pointer (some ⟨low, 0, none⟩)))], places) :=
  ⟨[.cell 0 0], by kernel_rfl⟩
set_option maxRecDepth 100000 in
theorem lifted (os : Os) (started : os.Started) (H : Type) (enc : TypeId × Value → H) (F : Stop.Interp) :
    ReturnsInHanded {} Tryd.checked os 6 .any ((OpenSpec.ofChange Rows.fnExactSharedBySpec).preRow enc Tryd.prog Tryd.f6 Rows.fnExactSharedByRow.domain false Rows.fnExactSharedByRow.laid) (((OpenSpec.ofChange Rows.fnExactSharedBySpec).at F).post enc Tryd.prog Tryd.f6 false true false false) := by
  obtain ⟨places, hx⟩ := reads os enc
  refine returnsInHanded_of_row (C := Tryd.checked) (s := OpenSpec.ofChange Rows.fnExactSharedBySpec) own started (by kernel_rfl) Tryd.func6
    (witness_row_at (enc := enc) (C := Tryd.checked) false (laidWorld os) #[.agg #[.int .i64 0, .int .i64 0, .int .i64 0], .agg #[.int .i64 0, .int .i64 0, .int .i64 0]] rfl (by kernel_rfl) (by kernel_rfl) (by kernel_rfl)
      (OpenSpec.preRow_of_cond 8 hx (by kernel_rfl) (fun k hk => by cases hk) (by kernel_rfl) (laid_met os))) ?_
  intro W base args ds gs before hval hW _ _ _ hL _ _
  exact contract H enc W base args ds gs before hval hW hL
theorem said : Rows.FnExactSharedBySaid :=
  OpenClaim.holds_of_cond 6 Tryd.f6 rfl rfl rfl rfl rfl rfl rfl ⟨rfl, rfl, rfl, rfl, rfl⟩ rfl rfl rfl rfl rfl (by kernel_rfl) Tryd.func6 (by kernel_rfl)
    (of_decide_eq_true (by kernel_rfl)) (by unfold Func.isWrapper; first | (rw [if_pos (by decide +kernel)]; kernel_rfl) | (rw [if_neg (by decide +kernel)]; exact ⟨rfl, rfl⟩))
    (fun os started H enc _ F => by rw [OpenClaim.pre_eq_preRow]; exact lifted os started H enc F)
theorem plain (f : FuncId) (fn : Func) (hf : Tryd.pinned.checked.prog.funcNamed "loop.example/g00989/laws.FnExactSharedBy" = some f) (hfn : Tryd.pinned.checked.prog.funcs[f]? = some fn) :
    true = Tryd.pinned.checked.prog.looks [] ∧ ∀ (j : Nat) t, fn.params[j]? = some t → Tryd.pinned.checked.prog.wantsStandIn t = false := by
  obtain rfl : f = 6 := Option.some.inj ((show Tryd.prog.funcNamed "loop.example/g00989/laws.FnExactSharedBy" = some 6 by kernel_rfl).symm.trans hf) |>.symm
  obtain rfl : fn = Tryd.f6 := (Option.some.inj (Tryd.func6.symm.trans hfn)).symm
  refine ⟨by kernel_rfl, fun j t ht => ?_⟩
  rw [Tryd.params6] at ht
  have hm := Array.mem_of_getElem? ht
  simp at hm
  subst hm
  exact (show Tryd.prog.wantsStandIn 46 = false by kernel_rfl)
theorem card : Rows.FnExactSharedByCardSaid :=
  Claim7.holds_tied_plain_at .later [] _ _ _ _ said (fun _ h => by cases h) (by kernel_rfl) (fun _ h => by cases h) fnExactSharedBy_row_tie rfl ⟨rfl, rfl⟩ (by kernel_rfl) rfl plain (by kernel_rfl)
#print axioms card
end Go.Proofs.YtfhefakacjkmiaaDoor.fnExactSharedBy
