/- Contracts of errors.Is where the target is a pointer to an errors.errorString: the same pointer, and no error. -/
import Derived.Test.YtjnhfgacgobfcaaDoorProg
import Derived.WalkKit
import Derived.LaidEql
import Derived.RowKitTokens
namespace Go.Proofs.YtjnhfgacgobfcaaDoor
open Go.RowKit Go.Extern.Stop Go.Stop Go.Extern Go.Extern.Rtype
set_option linter.unusedVariables false
/-- What the model's entry of (rtype).Comparable does. -/
noncomputable def cmpEntry : Array Value → Sem Value := Extern.ReflectliteType.method fun t => do noPackHeld "Comparable" t; pure (.bool (← typeInfo t).comparable)
theorem isTypeFacts : ∃ G : Nat, (∀ (v : Value) (w : World), (Extern.ReflectliteType.typeOf #[.iface 78 v]).run Tryd.prog w = .ok (.iface 66 (.agg #[.pointer (some ⟨G, 78, none⟩)])) w) ∧
    (∀ w : World, (cmpEntry #[.agg #[.pointer (some ⟨G, 78, none⟩)]]).run Tryd.prog w = .ok (.bool true) w) :=
  ⟨Tryd.prog.globals.size, fun v w => by kernel_rfl, fun w => by kernel_rfl⟩
theorem isMethodComparable (n : Nat) (v : Value) (w : World) : (Go.method (n + 1) 66 v "Comparable").run Tryd.prog w = .ok (57, v) w := by kernel_rfl
theorem isComp : (Tryd.prog.info? 78).map (·.comparable) = some true := by kernel_rfl
theorem isSize : (Tryd.prog.info? 104).map (·.size) = some 1 := by kernel_rfl
/-- errors.Is(x, x), x a pointer to an errors.errorString. -/
theorem is_same (a : Addr) (w : World) :
    Calls Tryd.prog 23 #[.iface 78 (.pointer (some a)), .iface 78 (.pointer (some a))] w fun e w' => e = .returned (.bool true) ∧ w' = w := by
  obtain ⟨i, hi, hcmp⟩ := Option.map_eq_some_iff.1 isComp
  obtain ⟨j, hj, hjs⟩ := Option.map_eq_some_iff.1 isSize
  obtain ⟨G, tT, cT⟩ := isTypeFacts
  have h8 := @run_callFunc_extern Tryd.prog 31 _ Extern.ReflectliteType.typeOf Tryd.func31 (by kernel_rfl) (by kernel_rfl) (by kernel_rfl) (by kernel_rfl)
  have h32 := @run_callFunc_extern Tryd.prog 57 _ cmpEntry Tryd.func57 (by kernel_rfl) (by kernel_rfl) (by kernel_rfl) (by kernel_rfl)
  have mR := isMethodComparable
  have heq := run_eql_iface_ptr_same (P := Tryd.prog) w a Tryd.underlying44 Tryd.underlying78 hi hcmp hj
  go_enter Tryd.func23, Tryd.ntmps23
  go_wp2
  refine wp_loop_rounds 1 ?_
  rw [rounds_succ]
  go_wp2
  go_ret
  exact ⟨rfl, rfl⟩
/-- errors.Is(nil, x). -/
theorem is_nil (b : Addr) (w : World) :
    Calls Tryd.prog 23 #[.nilIface, .iface 78 (.pointer (some b))] w fun e w' => e = .returned (.bool false) ∧ w' = w := by
  have hn := run_eql_iface_nil_left (P := Tryd.prog) w 78 (.pointer (some b)) Tryd.underlying44
  go_enter Tryd.func23, Tryd.ntmps23
  go_wp2
  go_ret
  exact ⟨rfl, rfl⟩
end Go.Proofs.YtjnhfgacgobfcaaDoor
