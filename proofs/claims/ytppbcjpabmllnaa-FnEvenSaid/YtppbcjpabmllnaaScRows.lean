/- Scale: a struct of one row of ints. Written by oneslice.py out of the circle's texts. -/
import Derived.Test.YtppbcjpabmllnaaCirOk
import Derived.Test.YtppbcjpabmllnaaCirOkLaw
import Derived.Test.YtppbcjpabmllnaaEqCirLaw
import Derived.OpenShut
import Derived.Lib.SmallJoins
import Derived.Deep.DeepCutAuto
namespace Go.Proofs.Ytppbcjpabmllnaa
open Go.RowKit Go.Joins Go.WideShapes Go.ChangeShapes Go.ChangeAt
set_option linter.unusedVariables false
theorem szSc_low (a : Option Addr) (len cap : Nat) (w : World) (h : len ≤ 1048576) :
    Calls Try.prog 25 #[cirV (.slice a len cap), .int .i64 1048576] w fun e w' => e = .returned (.int .i64 (1048576 - len)) ∧ Below w.heap.size w w' := by
  go_enter Try.func25, Try.ntmps25
  go_wp2
  go_ret
  exact ⟨rfl, below_alloc1 w _⟩
theorem szSc_high (a : Option Addr) (len cap : Nat) (w : World) (h : 1048576 < len) (h' : len ≤ 9223372036854775807) :
    Calls Try.prog 25 #[cirV (.slice a len cap), .int .i64 1048576] w fun e w' => e = .returned (.int .i64 (-1)) ∧ Below w.heap.size w w' := by
  go_enter Try.func25, Try.ntmps25
  go_wp2
  go_ret
  exact ⟨rfl, below_alloc1 w _⟩
theorem toSc_any (w : World) (a : Option Addr) (len cap : Nat) (zs : List Int) (hr : IsRow .i64 w a len cap zs) (hl : len ≤ 1048576) :
    Calls Try.prog 27 #[cirV (.slice a len cap)] w (CirPost (zs.take len) w) := by
  have HR := Lib.hid hr
  obtain ⟨xs, hxs⟩ : ∃ xs, xs = zs.take len := ⟨_, rfl⟩
  rw [← hxs]
  have HX := Lib.hid hxs
  clear hr hxs
  go_enter Try.func27, Try.ntmps27
  go_wp2_with fail
  refine (toInts_any _ a len cap zs (HR.out.below (below_alloc3 w _ _ _)) hl).mono ?_
  rintro e w1 ⟨v, rfl, o1, b1⟩
  obtain ⟨k1, c1, f1⟩ : One (w.heap.size + 1) (.slice none 0 0) w1 := by simpa using one_keep b1 (one_al (o := .cells #[.slice none 0 0] 26) (one_alloc (w := w.alloc (.cells #[.slice a len cap] 38)) (v := .slice none 0 0) (t := 26)))
  obtain ⟨k2, c2, f2⟩ : One (w.heap.size + 1 + 1) (.slice none 0 0) w1 := by simpa using one_keep b1 (one_alloc (w := (w.alloc (.cells #[.slice a len cap] 38)).alloc (.cells #[.slice none 0 0] 26)) (v := .slice none 0 0) (t := 26))
  have B1 := Lib.hid ((below_alloc3 w _ _ _).trans (b1.mono (by simp; omega)))
  have HS : (((w.alloc (.cells #[.slice a len cap] 38)).alloc (.cells #[.slice none 0 0] 26)).alloc (.cells #[.slice none 0 0] 26)).heap.size = w.heap.size + 1 + 1 + 1 := by simp
  rw [HS] at o1
  rw [← HX.out] at o1
  obtain ⟨n, hn⟩ : ∃ n, n = xs.length := ⟨_, rfl⟩
  rw [← hn] at o1
  obtain ⟨p, c, rfl⟩ := own_slice o1
  have O1 := Lib.hid (ownsRow_setCell_below (ownsRow_setCell_below o1 (a := ⟨w.heap.size + 1 + 1, 0, none⟩) (by simp only; omega) (.slice p n c)) (a := ⟨w.heap.size + 1, 0, none⟩) (by simp only; omega) (.slice p n c))
  obtain ⟨_, x1, _⟩ := one_set (u := .slice p n c) (one_oth (j := 0) (u := .slice p n c) (n := w.heap.size + 1 + 1) (m := w.heap.size + 1) (by omega) ⟨k1, c1, f1⟩)
  have HN := Lib.hid hn
  clear o1 b1 HR hn HS
  go_wp2_with fail
  refine bodyPost_ret (v := cirV (.slice p n c)) (by simp [results, Try.results27, go_sem, x1]) rfl ⟨_, rfl, ?_, (B1.out.setCell (by simp only; omega) _).setCell (by simp only; omega) _⟩
  rw [← HN.out]
  exact own_base O1.out (by omega)
theorem eqSc_any (w : World) (b1 b2 : Nat) (e1 e2 : TypeId) (v1 v2 : Value) (xs ys : List Int) (hx : xs.length ≤ 2000000) (hy : ys.length ≤ 2000000) (h1 : w.ownsRow b1 e1 1 v1 xs.length (intCs xs)) (h2 : w.ownsRow b2 e2 1 v2 ys.length (intCs ys)) :
    Calls Try.prog 22 #[cirV v1, cirV v2] w fun e w' => e = .returned (.bool (decide (xs = ys))) ∧ Below w.heap.size w w' := by
  have H1 := Lib.hid h1
  have H2 := Lib.hid h2
  clear h1 h2
  have B2 := below_alloc2 w (.cells #[v1] 26) (.cells #[v2] 26)
  have C := eqInts_any _ _ _ _ _ v1 v2 xs ys hx hy (own_below H1.out B2) (own_below H2.out B2)
  by_cases hxy : xs = ys
  · rw [decide_eq_true hxy] at C ⊢
    clear hxy hx hy H1 H2
    go_enter Try.func22, Try.ntmps22
    go_wp2_with fail
    refine C.mono ?_
    rintro e w1 ⟨rfl, b1⟩
    go_wp2_with fail
    go_ret
    exact ⟨rfl, B2.trans (b1.mono (by simp; omega))⟩
  · rw [decide_eq_false hxy] at C ⊢
    clear hxy hx hy H1 H2
    go_enter Try.func22, Try.ntmps22
    go_wp2_with fail
    refine C.mono ?_
    rintro e w1 ⟨rfl, b1⟩
    go_wp2_with fail
    go_ret
    exact ⟨rfl, B2.trans (b1.mono (by simp; omega))⟩
theorem markSc_own (w : World) (base k0 : Nat) (e : TypeId) (v : Value) (n : Nat) (xs : List Int) (hn' : n ≤ 2000000) (hk1 : k0 ≤ 1000000) (h : w.ownsRow base e 1 v n (intCs xs)) :
    Calls Try.prog 23 #[cirV v, .int .i64 k0] w fun en w' => en = .returned (.int .i64 ((k0 : Int) + n)) ∧ w'.ownsRow base e 1 v n (intCs (marksI k0 n)) ∧ w.grownBy w' v.ownBlock := by
  have H1 := Lib.hid h
  clear h
  go_enter Try.func23, Try.ntmps23
  go_wp2_with fail
  refine (markInts_own _ base k0 e v n xs hn' hk1 (own_below H1.out (below_alloc1 w _))).mono ?_
  rintro en w1 ⟨rfl, o1, g1⟩
  have O1 := Lib.hid o1
  have G1 := Lib.hid ((grown_row (below_alloc1 w (.cells #[v] 26)) v.ownBlock).trans g1)
  clear o1 g1
  go_wp2_with fail
  go_ret
  exact ⟨rfl, O1.out, G1.out⟩
theorem heldSc_any (w : World) (base k0 : Nat) (e : TypeId) (v : Value) (n : Nat) (hn' : n ≤ 2000000) (hk1 : k0 ≤ 1000000) (h : w.ownsRow base e 1 v n (intCs (marksI k0 n))) :
    Calls Try.prog 24 #[cirV v, .int .i64 k0] w fun en w' => en = .returned (.int .i64 ((k0 : Int) + n)) ∧ Below w.heap.size w w' := by
  have H1 := Lib.hid h
  clear h
  go_enter Try.func24, Try.ntmps24
  go_wp2_with fail
  refine (heldInts_any _ base k0 e v n hn' hk1 (own_below H1.out (below_alloc1 w _))).mono ?_
  rintro en w1 ⟨rfl, b1⟩
  have B1 := Lib.hid ((below_alloc1 w (.cells #[v] 26)).trans (b1.mono (by simp)))
  have t1 : ¬ ((k0 : Int) + n) < 0 := by omega
  clear b1
  go_wp2_with fail
  go_ret
  exact ⟨rfl, B1.out⟩
/-- toCircle behind a world that is named. -/
theorem calls_toSc {W w : World} {a : Option Addr} {len cap : Nat} {zs xs : List Int} (h : Below W.heap.size W w) (hr : IsRow .i64 W a len cap zs) (hl : len ≤ 1048576) (hx : Hid (xs = zs.take len)) :
    Calls Try.prog 27 #[cirV (.slice a len cap)] w fun e w' => ∃ v, e = .returned (cirV v) ∧ w'.ownsRow w.heap.size 3 1 v xs.length (intCs xs) ∧ Below W.heap.size W w' := by
  rw [hx.out]
  exact (toSc_any w a len cap zs (hr.below h) hl).mono fun e w' ⟨v, he, o, b⟩ => ⟨v, he, o, h.trans (b.mono h.size)⟩
/-- eqCircle of two equal rows. -/
theorem calls_eqSc {W w : World} {b1 b2 : Nat} {e1 e2 : TypeId} {v1 v2 : Value} {xs : List Int} (h : Below W.heap.size W w) (hl : xs.length ≤ 2000000) (h1 : W.ownsRow b1 e1 1 v1 xs.length (intCs xs)) (h2 : w.ownsRow b2 e2 1 v2 xs.length (intCs xs)) :
    Calls Try.prog 22 #[cirV v1, cirV v2] w fun e w' => e = .returned (.bool true) ∧ Below W.heap.size W w' := by
  have C := eqSc_any w b1 b2 e1 e2 v1 v2 xs xs hl hl (own_below h1 h) h2
  rw [decide_eq_true (rfl : xs = xs)] at C
  exact C.mono fun e w' ⟨he, b⟩ => ⟨he, h.trans (b.mono h.size)⟩
/-- A result that is a circle, laid into a block of its own. -/
theorem sc_laid {W w1 : World} {v : Value} {xs : List Int} {n : Nat} (hW : W.heap.size ≤ w1.heap.size) (hn : xs.length = n) (o1 : w1.ownsRow W.heap.size 3 1 v xs.length (intCs xs)) :
    ∃ p c, v = .slice p n c ∧ One w1.heap.size (.slice p n c) (w1.alloc (.cells #[.slice p n c] 26)) ∧ (w1.alloc (.cells #[.slice p n c] 26)).ownsRow W.heap.size 3 1 (.slice p n c) n (intCs xs) ∧ ∀ g, (Value.slice p n c).ownBlock = some g → W.heap.size ≤ g ∧ g < w1.heap.size := by
  rw [hn] at o1
  obtain ⟨p, c, rfl⟩ := own_slice o1
  exact ⟨p, c, rfl, one_alloc, own_below o1 (below_alloc1 _ _), fun g hg => o1.lt g hg⟩
end Go.Proofs.Ytppbcjpabmllnaa
