/- Contracts of impl.NoteName and spec.NoteName. -/
import Derived.Test.YtmachkcnichefaaDoorNoteMath
import Derived.Test.YtmachkcnichefaaDoorShelfR
import Derived.Test.YtmachkcnichefaaDoorStrTab
import Derived.Lib.SmallJoins
import Derived.Lib.IndexBytes
namespace Go.Proofs.YtmachkcnichefaaDoor
open Go.RowKit
set_option linter.unusedVariables false
/-- The table of letters holds what its initialiser lays. -/
def LetTab (w : World) : Prop := w.var? Tryd.prog "loop.example/g00989/impl.noteLetters" = some (strCells letTab).toArray
theorem gLet : Tryd.prog.globalNamed "loop.example/g00989/impl.noteLetters" = some 0 := by kernel_rfl
theorem LetTab.cell {w : World} (h : LetTab w) (k : Nat) (hk : k < 7) : w.cell? ⟨0, k, none⟩ = some (.string ⟨(letB k).toArray⟩) := by
  have h1 := World.var?_cell gLet h k
  have : k = 0 ∨ k = 1 ∨ k = 2 ∨ k = 3 ∨ k = 4 ∨ k = 5 ∨ k = 6 := by omega
  rcases this with rfl | rfl | rfl | rfl | rfl | rfl | rfl <;> simpa [strCells, letTab, letB] using h1
theorem LetTab.below {w w' : World} (h : LetTab w) (hb : Below w.heap.size w w') : LetTab w' := by
  unfold LetTab World.var? at h ⊢
  rw [gLet] at h ⊢
  simp only [Option.bind_some] at h ⊢
  have hlt : 0 < w.heap.size := by
    rcases Nat.lt_or_ge 0 w.heap.size with h' | h'
    · exact h'
    · simp [Array.getElem?_eq_none h'] at h
  rw [hb.block 0 hlt]
  exact h
theorem letB_len (k : Nat) (hk : k < 7) : (letB k).length = 1 := by
  have : k = 0 ∨ k = 1 ∨ k = 2 ∨ k = 3 ∨ k = 4 ∨ k = 5 ∨ k = 6 := by omega
  rcases this with rfl | rfl | rfl | rfl | rfl | rfl | rfl <;> rfl
theorem ret_strN {a b : List UInt8} (h : a = b) : Ending.returned (.string ⟨a.toArray⟩) = .returned (.string ⟨b.toArray⟩) := by rw [h]
/-- Two strings are joined: the list of the bytes, and what '+' does. -/
theorem catN_run (P : Program) (x y : List UInt8) (m n : Nat) (hx : x.length ≤ m) (hy : y.length ≤ n) (hm : m + n ≤ 1000000) : ∃ z : List UInt8, z.length ≤ m + n ∧ z = x ++ y ∧ ∀ w, (Op.stringOp .add ⟨x.toArray⟩ ⟨y.toArray⟩).run P w = .ok (.string ⟨z.toArray⟩) w :=
  ⟨x ++ y, by simp; omega, rfl, fun w => by
    rw [run_string_add_sum w _ _ (by simp [ByteArray.size]; omega), ByteArray.mk_append_mk]⟩
theorem maxN_run (ats : Array TypeId) (ty : TypeId) (a : Int) : Builtin.max_ ats ty #[.int .i64 a, .int .i64 0] = pure (.int .i64 (a.toNat : Int)) := by
  have e : (a.toNat : Int) = if a < 0 then 0 else a := by split <;> omega
  rw [e]
  simp [Builtin.max_, Builtin.max2]
theorem repeat_any (s : ByteArray) (L : List UInt8) (c : Nat) (hs : s.data.toList = L) (hc : c ≤ 100) (hl : s.size ≤ 100) (w : World) :
    Calls Tryd.prog 17 #[.string s, .int .i64 (c : Int)] w fun e w' => e = .returned (.string ⟨(Lib.repeatL L c).toArray⟩) ∧ Below w.heap.size w w' := by
  subst hs
  exact Tryd.strings_Repeat s c w (by omega) (by have := Nat.mul_le_mul hl hc; omega)
theorem repeat_max (s : ByteArray) (L : List UInt8) (a : Int) (hs : s.data.toList = L) (hc : a ≤ 100) (hl : s.size ≤ 100) (w : World) :
    Calls Tryd.prog 17 #[.string s, .int .i64 (max a 0)] w fun e w' => e = .returned (.string ⟨(Lib.repeatL L a.toNat).toArray⟩) ∧ Below w.heap.size w w' := by
  have e : max a 0 = ((a.toNat : Nat) : Int) := by omega
  rw [e]
  exact repeat_any s L a.toNat hs (by omega) hl w
set_option maxHeartbeats 1000000 in
theorem name_impl (n : Int) (w : World) (ht : LetTab w) :
    Calls Tryd.prog 9 #[.int .i64 n] w fun e w' => e = .returned (.string ⟨(nameL n).toArray⟩) ∧ Below w.heap.size w w' := by
  by_cases h : HasN n
  · have D : HasAt n true := (hasN_yes h).symm
    have R := Lib.hid (nameL_yes h)
    obtain ⟨a, ha⟩ : ∃ a, a = accN n := ⟨_, rfl⟩
    obtain ⟨k, hk⟩ : ∃ k : Nat, k = (letN n).toNat := ⟨_, rfl⟩
    obtain ⟨a0, a1⟩ := accN_bd h
    obtain ⟨x0, x1⟩ := letN_bd h
    have X : LetAt n (k : Int) := by unfold LetAt; omega
    have k7 : k < 7 := by omega
    rw [← hk, ← ha] at R
    rw [← ha] at a0 a1
    have AC := Lib.hid (fun w => acc_impl n w)
    rw [← ha] at AC
    have L1 := letB_len k k7
    have C := Lib.hid (fun w (hw : LetTab w) => hw.cell k k7)
    have M : ∀ ats ty x, Builtin.max_ ats ty #[.int .i64 x, .int .i64 0] = pure (.int .i64 (x.toNat : Int)) := maxN_run
    obtain ⟨q1, hq1⟩ : ∃ q, q = Lib.repeatL [35] a.toNat := ⟨_, rfl⟩
    obtain ⟨q2, hq2⟩ : ∃ q, q = Lib.repeatL [98] (-a).toNat := ⟨_, rfl⟩
    have l1 : q1.length ≤ 2 := by rw [hq1, Lib.repeatL_length]; simp; omega
    have l2 : q2.length ≤ 2 := by rw [hq2, Lib.repeatL_length]; simp; omega
    rw [← hq1, ← hq2] at R
    have R1 := Lib.hid (repeat_max ⟨#[35]⟩ [35] a rfl (by omega) (by decide))
    have R2 := Lib.hid (repeat_max ⟨#[98]⟩ [98] (-a) rfl (by omega) (by decide))
    rw [← hq1] at R1
    rw [← hq2] at R2
    obtain ⟨s1, c1, hs1, cat1⟩ := catN_run Tryd.prog (letB k) q1 1 2 (by omega) l1 (by omega)
    obtain ⟨s2, c2, hs2, cat2⟩ := catN_run Tryd.prog s1 q2 3 2 (by omega) l2 (by omega)
    rw [← hs1, ← hs2] at R
    have HT := Lib.hid ht
    clear h ha hk x0 x1 hq1 hq2 hs1 hs2 l1 l2 L1 c1 c2 ht
    go_enter Tryd.func9, Tryd.ntmps9
    go_wp2_with (go_at_call 16; refine (hasName_impl_at (by with_reducible assumption) _).mono ?_; rintro e w1 ⟨rfl, rfl⟩)
    refine (AC.out _).mono ?_
    rintro e w1 ⟨rfl, rfl⟩
    go_wp2_with fail
    refine (R1.out _).mono ?_
    rintro e w1 ⟨rfl, hb1⟩
    go_wp2_with fail
    refine (R2.out _).mono ?_
    rintro e w2 ⟨rfl, hb2⟩
    have B := Lib.hid (hb1.trans (hb2.mono hb1.size))
    have cc := C.out _ (HT.out.below B.out)
    clear hb1 hb2
    go_wp2_with (go_at_call 10; refine (letter_impl_at (by with_reducible assumption) _).mono ?_; rintro e w1 ⟨rfl, rfl⟩)
    go_ret
    exact ⟨ret_strN R.out.symm, B.out⟩
  · have D : HasAt n false := (hasN_no h).symm
    have R := Lib.hid (nameL_no h)
    clear h
    go_enter Tryd.func9, Tryd.ntmps9
    go_wp2_with (go_at_call 16; refine (hasName_impl_at (by with_reducible assumption) _).mono ?_; rintro e w1 ⟨rfl, rfl⟩)
    go_ret
    exact ⟨by rw [R.out]; rfl, Below.refl _ _⟩
end Go.Proofs.YtmachkcnichefaaDoor
