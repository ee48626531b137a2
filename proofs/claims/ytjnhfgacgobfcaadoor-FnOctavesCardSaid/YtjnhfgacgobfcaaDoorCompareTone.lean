/- Contracts of impl.CompareIntervals and impl.SignOf. -/
import Derived.Test.YtjnhfgacgobfcaaDoorCompared
namespace Go.Proofs.YtjnhfgacgobfcaaDoor
open Go.RowKit Go.Joins
set_option linter.unusedVariables false
/-- The comparison of two intervals given by their numbers. -/
def cmp8 (a b c d e f g h : Int) : Int := cmpV ⟨a, b, c, d⟩ ⟨e, f, g, h⟩
theorem cmp8_yes {a b c d e f g h : Int} (hx : okI a b c d = true ∧ okI e f g h = true) : cmp8 a b c d e f g h = cmpI a b c d e f g h := by
  show cmpV ⟨a, b, c, d⟩ ⟨e, f, g, h⟩ = _
  unfold cmpV
  rw [if_pos (show okV ⟨a, b, c, d⟩ = true ∧ okV ⟨e, f, g, h⟩ = true from hx)]
  rfl
theorem cmp8_no {a b c d e f g h : Int} (hx : ¬ (okI a b c d = true ∧ okI e f g h = true)) : cmp8 a b c d e f g h = 0 := by
  show cmpV ⟨a, b, c, d⟩ ⟨e, f, g, h⟩ = _
  unfold cmpV
  rw [if_neg (show ¬ (okV ⟨a, b, c, d⟩ = true ∧ okV ⟨e, f, g, h⟩ = true) from hx)]
theorem cmpPost_ok {A : Addr} {a b c d e f g h : Int} {w w' : World} {en : Ending} (hx : okI a b c d = true ∧ okI e f g h = true) (hp : CmpPost A a b c d e f g h w en w') : en = .returned (.tuple #[.int .i64 (cmp8 a b c d e f g h), .nilIface]) ∧ Below w.heap.size w w' := by
  have h1 := hp.1
  rw [if_pos hx] at h1
  rw [cmp8_yes hx]
  exact ⟨h1, hp.2⟩
theorem cmpPost_bad {A : Addr} {a b c d e f g h : Int} {w w' : World} {en : Ending} (hx : ¬ (okI a b c d = true ∧ okI e f g h = true)) (hp : CmpPost A a b c d e f g h w en w') : en = .returned (.tuple #[.int .i64 0, .iface 78 (.pointer (some A))]) ∧ Below w.heap.size w w' := by
  have h1 := hp.1
  rw [if_neg hx] at h1
  exact ⟨h1, hp.2⟩
set_option maxRecDepth 100000 in
set_option maxHeartbeats 2000000 in
theorem compare_impl (A : Addr) (a b c d e f g h : Int) (w : World) (hs : SenAt A w) :
    Calls Tryd.prog 13 #[ivV a b c d, ivV e f g h] w fun en w' => en = .returned (.int .i64 (cmp8 a b c d e f g h)) ∧ Below w.heap.size w w' := by
  have HS := Lib.hid hs
  clear hs
  by_cases hx : okI a b c d = true ∧ okI e f g h = true
  · have HX := Lib.hid hx
    clear hx
    go_enter Tryd.func13, Tryd.ntmps13
    go_wp2_with fail
    obtain ⟨W0, hW, _, _, EB⟩ := boxes2 w a b c d e f g h 25 25
    rw [← hW]
    have FB := Lib.hid EB
    clear hW EB
    refine (compared_any A _ _ _ _ _ _ _ _ _ (senAt_below HS.out FB.out)).mono ?_
    intro en w1 hp
    obtain ⟨rfl, hb⟩ := cmpPost_ok HX.out hp
    have KB := Lib.hid (FB.out.trans (hb.mono FB.out.size))
    have sE := senAt_below HS.out KB.out
    unfold SenAt at sE
    clear hp hb FB
    go_wp2_with fail
    refine (is_nil A _).mono ?_
    rintro en w2 ⟨rfl, rfl⟩
    go_wp2_with fail
    go_ret
    exact ⟨rfl, KB.out⟩
  · have HX := Lib.hid hx
    have Z := Lib.hid (cmp8_no hx)
    clear hx
    go_enter Tryd.func13, Tryd.ntmps13
    go_wp2_with fail
    obtain ⟨W0, hW, _, _, EB⟩ := boxes2 w a b c d e f g h 25 25
    rw [← hW]
    have FB := Lib.hid EB
    clear hW EB
    refine (compared_any A _ _ _ _ _ _ _ _ _ (senAt_below HS.out FB.out)).mono ?_
    intro en w1 hp
    obtain ⟨rfl, hb⟩ := cmpPost_bad HX.out hp
    have KB := Lib.hid (FB.out.trans (hb.mono FB.out.size))
    have sE := senAt_below HS.out KB.out
    unfold SenAt at sE
    clear hp hb FB
    go_wp2_with fail
    refine (is_same A _).mono ?_
    rintro en w2 ⟨rfl, rfl⟩
    go_wp2_with fail
    go_ret
    exact ⟨ret_int Z.out.symm, KB.out⟩
end Go.Proofs.YtjnhfgacgobfcaaDoor
