/- Circles: a struct of one row of ints. Contracts of laws.szCircle, laws.toCircle, laws.eqCircle, laws.markCircle, laws.heldCircle. -/
import Derived.Test.YtjfeeppbbckneabMarkOwn
import Derived.Test.YtjfeeppbbckneabToneWalks
import Derived.OpenShut
import Derived.Lib.SmallJoins
import Derived.Deep.DeepCutAuto
namespace Go.Proofs.Ytjfeeppbbckneab
open Go.RowKit Go.Joins Go.WideShapes Go.ChangeShapes Go.ChangeAt
set_option linter.unusedVariables false
/-- The value of a circle. -/
abbrev cirV (v : Value) : Value := .agg #[v]
/-- One value lies at block m, and it may be written. -/
def One (m : Nat) (v : Value) (w : World) : Prop := m < w.heap.size ∧ w.cell? ⟨m, 0, none⟩ = some v ∧ ∀ o, w.frozen? ⟨m, o, none⟩ = false
theorem one_alloc {w : World} {v : Value} {t : TypeId} : One w.heap.size v (w.alloc (.cells #[v] t)) := ⟨by simp, by simp [go_sem], fun o => by simp [go_sem]⟩
theorem one_keep {W w : World} {m : Nat} {v : Value} (hb : Below W.heap.size W w) (h : One m v W) : One m v w :=
  ⟨Nat.lt_of_lt_of_le h.1 hb.size, (hb.cell h.1).trans h.2.1, fun o => (hb.frozen h.1).trans (h.2.2 o)⟩
theorem one_al {w : World} {m : Nat} {v : Value} {o : Obj} (h : One m v w) : One m v (w.alloc o) := one_keep ((Below.refl _ _).alloc (Nat.le_refl _) o) h
theorem one_set {w : World} {m : Nat} {v u : Value} (h : One m v w) : One m u (w.setCell ⟨m, 0, none⟩ u) :=
  ⟨by simpa using h.1, by simp [go_sem, h.2.1], fun o => by simp [go_sem, h.2.2]⟩
theorem one_oth {w : World} {n m j : Nat} {v u : Value} (hn : n ≠ m) (h : One m v w) : One m v (w.setCell ⟨n, j, none⟩ u) :=
  ⟨by simpa using h.1, (World.cell?_setCell_other _ _ _ _ (fun e => hn (by injection e))).trans h.2.1, fun o => by simp [go_sem, h.2.2]⟩
theorem own_base {w : World} {b b' : Nat} {e : TypeId} {size : Nat} {v : Value} {n : Nat} {xs : List Value} (h : w.ownsRow b' e size v n xs) (hb : b ≤ b') : w.ownsRow b e size v n xs := by
  refine ⟨h.1, ?_⟩
  rcases h.2 with h1 | ⟨g, cap, cur, h1, h2, h3⟩
  · exact .inl h1
  · exact .inr ⟨g, cap, cur, h1, Nat.le_trans hb h2, h3⟩
theorem own_slice {w : World} {base : Nat} {e : TypeId} {v : Value} {n : Nat} {xs : List Value} (h : w.ownsRow base e 1 v n xs) : ∃ p c, v = .slice p n c := by
  rcases own_shape h with ⟨h, h'⟩ | ⟨g, cap, h, _⟩
  · exact ⟨_, _, by rw [h, h']⟩
  · exact ⟨_, _, h⟩
theorem grown_row {w w' : World} (h : Below w.heap.size w w') (r : Option Nat) : w.grownBy w' r := ⟨h.os, h.tape, h.output, h.size, fun k hk _ => h.block k hk⟩
section
variable {H : Type} {enc : TypeId × Value → H} {P : Program} {w : World} {base : Nat} {held : Bool}
/-- A struct of one slice of ints, by value, opened. -/
theorem open_cir {r : Reach} {b0 : Nat} {t e i : TypeId} {f0 : Field} {v : Value} {d : DataW H} {p : List MemPlace} (hs : P.underlying t = some (.struct #[f0])) (ht : P.underlying e = some (.slice i)) (hi : P.underlying i = some (.int .i64)) (h1 : f0.type = e) (h2 : f0.offset = 0) (h3 : P.cellsOf e = 1) (hci : P.cellsOf i = 1) (hC : P.cellsOf t = 1)
    (hv : Value.okWide P w r b0 t v) (h : DataW.Trod enc P w base (fun _ => true) held t v d p) :
    ∃ a len cap zs, v = .agg #[.slice a len cap] ∧ IsRow .i64 w a len cap zs := by
  obtain ⟨cs, rfl, hsz⟩ := okWide_struct hs hv
  obtain ⟨c0, rfl⟩ : ∃ c0, cs = #[c0] := by
    have hz := hsz.trans hC
    obtain ⟨l⟩ := cs
    match l, hz with
    | [c0], _ => exact ⟨c0, rfl⟩
  obtain ⟨fuel, hf'⟩ := h
  obtain ⟨xs, n, _, _, hl, hlen, hg⟩ := DataW.trod_struct hs hf'
  match xs, hlen with
  | [y0], _ =>
    have k0 := hg 0 f0 rfl
    rw [h1, h2, h3] at k0
    have k1 : DataW.trod enc P w base (fun _ => true) held n e [c0] = some y0 := by simpa [Value.cells] using k0
    obtain ⟨a, len, cap, hcs⟩ := slice_form ht k1
    simp only [List.cons.injEq, and_true] at hcs
    subst hcs
    rcases open_ints ht hi hci k1 with ⟨hcs, _⟩ | ⟨x, l, c, zs, hcs, _, hl, hm, hz, _, hcell, hwz⟩
    · simp at hcs; obtain ⟨rfl, rfl, rfl⟩ := hcs; exact ⟨none, 0, 0, [], rfl, .inl ⟨rfl, rfl, rfl, rfl⟩⟩
    · simp at hcs; obtain ⟨rfl, rfl, rfl⟩ := hcs; exact ⟨_, _, _, zs, rfl, .inr ⟨_, rfl, hl, hm, by simpa using hz, hcell, hwz⟩⟩
end
/-- What a function that makes a circle leaves. -/
def CirPost (xs : List Int) (w : World) (e : Ending) (w' : World) : Prop :=
  ∃ v, e = .returned (cirV v) ∧ w'.ownsRow w.heap.size 3 1 v xs.length (intCs xs) ∧ Below w.heap.size w w'
theorem szCir_low (a : Option Addr) (len cap : Nat) (w : World) (h : len ≤ 1048576) :
    Calls Try.prog 15 #[cirV (.slice a len cap), .int .i64 1048576] w fun e w' => e = .returned (.int .i64 (1048576 - len)) ∧ Below w.heap.size w w' := by
  go_enter Try.func15, Try.ntmps15
  go_wp2
  go_ret
  exact ⟨rfl, below_alloc1 w _⟩
theorem szCir_high (a : Option Addr) (len cap : Nat) (w : World) (h : 1048576 < len) (h' : len ≤ 9223372036854775807) :
    Calls Try.prog 15 #[cirV (.slice a len cap), .int .i64 1048576] w fun e w' => e = .returned (.int .i64 (-1)) ∧ Below w.heap.size w w' := by
  go_enter Try.func15, Try.ntmps15
  go_wp2
  go_ret
  exact ⟨rfl, below_alloc1 w _⟩
theorem toCir_any (w : World) (a : Option Addr) (len cap : Nat) (zs : List Int) (hr : IsRow .i64 w a len cap zs) (hl : len ≤ 1048576) :
    Calls Try.prog 17 #[cirV (.slice a len cap)] w (CirPost (zs.take len) w) := by
  have HR := Lib.hid hr
  obtain ⟨xs, hxs⟩ : ∃ xs, xs = zs.take len := ⟨_, rfl⟩
  rw [← hxs]
  have HX := Lib.hid hxs
  clear hr hxs
  go_enter Try.func17, Try.ntmps17
  go_wp2_with fail
  refine (toInts_any _ a len cap zs (HR.out.below (below_alloc3 w _ _ _)) hl).mono ?_
  rintro e w1 ⟨v, rfl, o1, b1⟩
  obtain ⟨k1, c1, f1⟩ : One (w.heap.size + 1) (.slice none 0 0) w1 := by simpa using one_keep b1 (one_al (o := .cells #[.slice none 0 0] 26) (one_alloc (w := w.alloc (.cells #[.slice a len cap] 30)) (v := .slice none 0 0) (t := 26)))
  obtain ⟨k2, c2, f2⟩ : One (w.heap.size + 1 + 1) (.slice none 0 0) w1 := by simpa using one_keep b1 (one_alloc (w := (w.alloc (.cells #[.slice a len cap] 30)).alloc (.cells #[.slice none 0 0] 26)) (v := .slice none 0 0) (t := 26))
  have B1 := Lib.hid ((below_alloc3 w _ _ _).trans (b1.mono (by simp; omega)))
  have HS : (((w.alloc (.cells #[.slice a len cap] 30)).alloc (.cells #[.slice none 0 0] 26)).alloc (.cells #[.slice none 0 0] 26)).heap.size = w.heap.size + 1 + 1 + 1 := by simp
  rw [HS] at o1
  rw [← HX.out] at o1
  obtain ⟨n, hn⟩ : ∃ n, n = xs.length := ⟨_, rfl⟩
  rw [← hn] at o1
  obtain ⟨p, c, rfl⟩ := own_slice o1
  have O1 := Lib.hid (ownsRow_setCell_below (ownsRow_setCell_below o1 (a := ⟨w.heap.size + 1 + 1, 0, none⟩) (by simp only; omega) (.slice p n c)) (a := ⟨w.heap.size + 1, 0, none⟩) (by simp only; omega) (.slice p n c))
  obtain ⟨_, x1, _⟩ := one_set (u := .slice p n c) (one_oth (j := 0) (u := .slice p n c) (n := w.heap.size + 1 + 1) (m := w.heap.size + 1) (by omega) ⟨k1, c1, f1⟩)
  have HN := Lib.hid hn
  clear o1 b1 HR hn HS
  go_wp2_with fail
  refine bodyPost_ret (v := cirV (.slice p n c)) (by simp [results, Try.results17, go_sem, x1]) rfl ⟨_, rfl, ?_, (B1.out.setCell (by simp only; omega) _).setCell (by simp only; omega) _⟩
  rw [← HN.out]
  exact own_base O1.out (by omega)
theorem eqCir_any (w : World) (b1 b2 : Nat) (e1 e2 : TypeId) (v1 v2 : Value) (xs ys : List Int) (hx : xs.length ≤ 2000000) (hy : ys.length ≤ 2000000) (h1 : w.ownsRow b1 e1 1 v1 xs.length (intCs xs)) (h2 : w.ownsRow b2 e2 1 v2 ys.length (intCs ys)) :
    Calls Try.prog 19 #[cirV v1, cirV v2] w fun e w' => e = .returned (.bool (decide (xs = ys))) ∧ Below w.heap.size w w' := by
  have H1 := Lib.hid h1
  have H2 := Lib.hid h2
  clear h1 h2
  have B2 := below_alloc2 w (.cells #[v1] 26) (.cells #[v2] 26)
  have C := eqInts_any _ _ _ _ _ v1 v2 xs ys hx hy (own_below H1.out B2) (own_below H2.out B2)
  by_cases hxy : xs = ys
  · rw [decide_eq_true hxy] at C ⊢
    clear hxy hx hy H1 H2
    go_enter Try.func19, Try.ntmps19
    go_wp2_with fail
    refine C.mono ?_
    rintro e w1 ⟨rfl, b1⟩
    go_wp2_with fail
    go_ret
    exact ⟨rfl, B2.trans (b1.mono (by simp; omega))⟩
  · rw [decide_eq_false hxy] at C ⊢
    clear hxy hx hy H1 H2
    go_enter Try.func19, Try.ntmps19
    go_wp2_with fail
    refine C.mono ?_
    rintro e w1 ⟨rfl, b1⟩
    go_wp2_with fail
    go_ret
    exact ⟨rfl, B2.trans (b1.mono (by simp; omega))⟩
theorem markCir_own (w : World) (base k0 : Nat) (e : TypeId) (v : Value) (n : Nat) (xs : List Int) (hn' : n ≤ 2000000) (hk1 : k0 ≤ 1000000) (h : w.ownsRow base e 1 v n (intCs xs)) :
    Calls Try.prog 20 #[cirV v, .int .i64 k0] w fun en w' => en = .returned (.int .i64 ((k0 : Int) + n)) ∧ w'.ownsRow base e 1 v n (intCs (marksI k0 n)) ∧ w.grownBy w' v.ownBlock := by
  have H1 := Lib.hid h
  clear h
  go_enter Try.func20, Try.ntmps20
  go_wp2_with fail
  refine (markInts_own _ base k0 e v n xs hn' hk1 (own_below H1.out (below_alloc1 w _))).mono ?_
  rintro en w1 ⟨rfl, o1, g1⟩
  have O1 := Lib.hid o1
  have G1 := Lib.hid ((grown_row (below_alloc1 w (.cells #[v] 26)) v.ownBlock).trans g1)
  clear o1 g1
  go_wp2_with fail
  go_ret
  exact ⟨rfl, O1.out, G1.out⟩
end Go.Proofs.Ytjfeeppbbckneab
/- Contracts of impl.CircleOk, impl.sumOf, impl.isPart, impl.isKey and spec.CircleOk, spec.l12Has. -/
namespace Go.Proofs.Ytjfeeppbbckneab
open Go.RowKit Go.Joins
set_option linter.unusedVariables false
/-- The sum of the first k parts. -/
def sumTo (xs : List Int) : Nat → Int
  | 0 => 0
  | k + 1 => sumTo xs k + xs.getD k 0
/-- CircleOk. -/
def CirOk (xs : List Int) : Prop := xs.length = 12 ∧ (∀ j, j < 12 → 0 ≤ xs.getD j 0 ∧ xs.getD j 0 ≤ 12) ∧ sumTo xs 12 = 12
instance (xs : List Int) : Decidable (CirOk xs) := by unfold CirOk; infer_instance
def cirB (xs : List Int) : Bool := decide (CirOk xs)
theorem sumTo_bd {xs : List Int} {n : Nat} (h : ∀ j, j < n → 0 ≤ xs.getD j 0 ∧ xs.getD j 0 ≤ 12) : ∀ k, k ≤ n → 0 ≤ sumTo xs k ∧ sumTo xs k ≤ 12 * k
  | 0, _ => by simp [sumTo]
  | k + 1, hk => by
    have e := sumTo_bd h k (by omega)
    have f := h k (by omega)
    unfold sumTo
    omega
theorem sumTo_mono {xs : List Int} {n : Nat} (h : ∀ j, j < n → 0 ≤ xs.getD j 0 ∧ xs.getD j 0 ≤ 12) {i : Nat} : ∀ d, i + d ≤ n → sumTo xs i ≤ sumTo xs (i + d)
  | 0, _ => Int.le_refl _
  | d + 1, hd => by
    have e := sumTo_mono (i := i) h d (by omega)
    have f := h (i + d) (by omega)
    show sumTo xs i ≤ sumTo xs (i + d) + xs.getD (i + d) 0
    omega
theorem cirOk_sum {xs : List Int} (h : CirOk xs) {k : Nat} (hk : k ≤ 12) : 0 ≤ sumTo xs k ∧ sumTo xs k ≤ 12 := by
  obtain ⟨_, h1, h2⟩ := h
  have e := sumTo_bd h1 k hk
  have f := sumTo_mono h1 (i := k) (12 - k) (by omega)
  rw [show k + (12 - k) = 12 from by omega] at f
  omega
/-- The first n numbers lie in a range. -/
def InTo (xs : List Int) (lo hi : Int) (n : Nat) : Prop := ∀ j, j < n → lo ≤ xs.getD j 0 ∧ xs.getD j 0 ≤ hi
instance (xs : List Int) (lo hi : Int) (n : Nat) : Decidable (InTo xs lo hi n) := by unfold InTo; infer_instance
set_option maxHeartbeats 400000 in
theorem areWithin_any (w : World) (g cap n : Nat) (xs : List Int) (lo hi : Int) (hn : n ≤ 2000000) (hc : ∀ j, j < n → w.cell? ⟨g, j, none⟩ = some (.int .i64 (xs.getD j 0))) :
    Calls Try.prog 50 #[.slice (some ⟨g, 0, none⟩) n cap, .int .i64 lo, .int .i64 hi] w fun e w' => e = .returned (.bool (decide (InTo xs lo hi n))) ∧ w = w' := by
  have HC := Lib.hid hc
  clear hc
  obtain ⟨y, hy⟩ : ∃ y, y = decide (InTo xs lo hi n) := ⟨_, rfl⟩
  rw [← hy]
  have HY := Lib.hid hy
  clear hy
  go_enter Try.func50, Try.ntmps50
  go_wp2
  go_loopw [11] (fun i wr => ∃ k : Nat, k ≤ n ∧ Hid (InTo xs lo hi k) ∧ i = .int .i64 k ∧ wr = w) (fun i _ => n - (intOf i).toNat)
  case atStart => exact ⟨0, Nat.zero_le _, Lib.hid (fun j hj => by omega), rfl, rfl⟩
  case round =>
    obtain ⟨k, hk, HA, rfl, hwr⟩ := hrel
    have hwr2 := hwr.symm
    clear hwr
    subst hwr2
    by_cases hlt : k < n
    · have q1 := HC.out k hlt
      have q3 : (k : Int) < n := by omega
      obtain ⟨x, hxk⟩ : ∃ x, x = xs.getD k 0 := ⟨_, rfl⟩
      rw [← hxk] at q1
      have HX := Lib.hid hxk
      have HLT := Lib.hid hlt
      clear hxk hlt
      by_cases t1 : x < lo
      · have R := Lib.hid (show y = false from by rw [HY.out]; exact decide_eq_false (fun q => by have := (q k HLT.out).1; rw [← HX.out] at this; omega))
        go_wp2_with fail
        go_ret
        exact ⟨ret_bool R.out.symm, by trivial⟩
      · by_cases t2 : hi < x
        · have R := Lib.hid (show y = false from by rw [HY.out]; exact decide_eq_false (fun q => by have := (q k HLT.out).2; rw [← HX.out] at this; omega))
          go_wp2_with fail
          go_ret
          exact ⟨ret_bool R.out.symm, by trivial⟩
        · have HI := Lib.hid (show lo ≤ x ∧ x ≤ hi from by omega)
          go_wp2_with fail
          go_roundw
          case rel => exact ⟨k + 1, HLT.out, Lib.hid (fun j hj => (show j < k ∨ j = k from by omega).elim (HA.out j) (fun h => by rw [h, ← HX.out]; exact HI.out)), by go_num, by trivial⟩
          case measure => simp [intOf]; omega
    · have q3 : ¬ (k : Int) < n := by omega
      obtain rfl : k = n := by omega
      have R := Lib.hid (show y = true from by rw [HY.out]; exact decide_eq_true HA.out)
      go_wp2_with fail
      go_ret
      exact ⟨ret_bool R.out.symm, by trivial⟩
theorem isKey_any (n : Int) (w : World) : Calls Try.prog 46 #[.int .i64 n] w fun e w' => e = .returned (.bool (decide (0 ≤ n ∧ n ≤ 11))) ∧ w = w' := by
  by_cases h1 : 0 ≤ n
  · by_cases h2 : n < 12
    · have R := Lib.hid (And.intro h1 (show n ≤ 11 from by omega))
      go_enter Try.func46, Try.ntmps46
      go_wp2
      go_ret
      exact ⟨ret_boolT (decide_eq_true R.out).symm, rfl⟩
    · have R := Lib.hid h2
      go_enter Try.func46, Try.ntmps46
      go_wp2
      go_ret
      exact ⟨ret_boolT (decide_eq_false (fun h => by have := R.out; omega)).symm, rfl⟩
  · have R := Lib.hid h1
    go_enter Try.func46, Try.ntmps46
    go_wp2
    go_ret
    exact ⟨ret_boolT (by have := R.out; simp; omega), rfl⟩
theorem sumTo_wide {xs : List Int} {n : Nat} (h : ∀ j, j < n → -1000 ≤ xs.getD j 0 ∧ xs.getD j 0 ≤ 1000) : ∀ k, k ≤ n → -1000 * k ≤ sumTo xs k ∧ sumTo xs k ≤ 1000 * k
  | 0, _ => by simp [sumTo]
  | k + 1, hk => by
    have a := sumTo_wide h k (by omega)
    have b := h k (by omega)
    unfold sumTo
    omega
set_option maxHeartbeats 400000 in
theorem sumOf_wide (w : World) (g cap n : Nat) (xs : List Int) (hn : n ≤ 12) (hp : ∀ j, j < n → -1000 ≤ xs.getD j 0 ∧ xs.getD j 0 ≤ 1000) (hc : ∀ j, j < n → w.cell? ⟨g, j, none⟩ = some (.int .i64 (xs.getD j 0))) :
    Calls Try.prog 51 #[.slice (some ⟨g, 0, none⟩) n cap] w fun e w' => e = .returned (.int .i64 (sumTo xs n)) ∧ w = w' := by
  have HC := Lib.hid hc
  have HP := Lib.hid hp
  clear hc hp
  go_enter Try.func51, Try.ntmps51
  go_wp2
  go_loopw [3, 8] (fun s i wr => ∃ (k : Nat) (S : Int), k ≤ n ∧ S = sumTo xs k ∧ i = .int .i64 k ∧ s = .int .i64 S ∧ wr = w) (fun _ i _ => n - (intOf i).toNat)
  case atStart => exact ⟨0, 0, Nat.zero_le _, rfl, rfl, rfl, rfl⟩
  case round =>
    obtain ⟨k, S, hk, hS, rfl, rfl, rfl⟩ := hrel
    have hb := sumTo_wide HP.out k hk
    rw [← hS] at hb
    have HS := Lib.hid hS
    clear hS
    by_cases hlt : k < n
    · have q1 := HC.out k hlt
      have q3 : (k : Int) < n := by omega
      have hx := HP.out k hlt
      obtain ⟨x, hxk⟩ : ∃ x, x = xs.getD k 0 := ⟨_, rfl⟩
      rw [← hxk] at q1 hx
      have HX := Lib.hid hxk
      clear hxk
      go_wp2_with fail
      go_roundw
      case rel => exact ⟨k + 1, S + x, by omega, by rw [HS.out, HX.out]; rfl, by go_num, by go_num, by trivial⟩
      case measure => simp [intOf]; omega
    · have q3 : ¬ (k : Int) < n := by omega
      obtain rfl : k = n := by omega
      go_wp2_with fail
      go_ret
      exact ⟨ret_int HS.out, by trivial⟩
theorem sumOf_any (w : World) (g cap n : Nat) (xs : List Int) (hn : n ≤ 12) (hp : ∀ j, j < n → 0 ≤ xs.getD j 0 ∧ xs.getD j 0 ≤ 12) (hc : ∀ j, j < n → w.cell? ⟨g, j, none⟩ = some (.int .i64 (xs.getD j 0))) :
    Calls Try.prog 51 #[.slice (some ⟨g, 0, none⟩) n cap] w fun e w' => e = .returned (.int .i64 (sumTo xs n)) ∧ w = w' :=
  sumOf_wide w g cap n xs hn (fun j hj => by have := hp j hj; omega) hc
set_option maxHeartbeats 400000 in
theorem cirOk_impl (w : World) (b : Nat) (e : TypeId) (v : Value) (xs : List Int) (hl : xs.length ≤ 2000000) (h : w.ownsRow b e 1 v xs.length (intCs xs)) :
    Calls Try.prog 41 #[cirV v] w fun en w' => en = .returned (.bool (cirB xs)) ∧ Below w.heap.size w w' := by
  obtain ⟨n, hn⟩ : ∃ n, n = xs.length := ⟨_, rfl⟩
  rw [← hn] at h hl
  by_cases h12 : n = 12
  · subst h12
    obtain ⟨g, cap, rfl, _, hg⟩ := own_pos h (by omega)
    have HC := Lib.hid (fun j (hj : j < 12) => ((below_alloc1 w (.cells #[.slice (some ⟨g, 0, none⟩) 12 cap] 26)).cell (p := ⟨g, j, none⟩) hg).trans (own_icell h j hj))
    obtain ⟨_, c0, _⟩ := one_alloc (w := w) (v := .slice (some ⟨g, 0, none⟩) 12 cap) (t := 26)
    have B0 := Lib.hid (below_alloc1 w (.cells #[.slice (some ⟨g, 0, none⟩) 12 cap] 26))
    have HN := Lib.hid hn
    clear h hn
    go_enter Try.func41, Try.ntmps41
    go_upto_region 1 with fail
    obtain ⟨W0, hW⟩ : ∃ W, W = w.alloc (.cells #[.slice (some ⟨g, 0, none⟩) 12 cap] 26) := ⟨_, rfl⟩
    rw [← hW] at HC c0 B0 ⊢
    clear hW
    have A := Lib.hid (areWithin_any W0 g cap 12 xs 0 12 (by omega) HC.out)
    by_cases hin : InTo xs 0 12 12
    · rw [decide_eq_true hin] at A
      have C := Lib.hid (sumOf_any W0 g cap 12 xs (by omega) hin HC.out)
      have HIN := Lib.hid hin
      obtain ⟨S, hS⟩ : ∃ S, S = sumTo xs 12 := ⟨_, rfl⟩
      rw [← hS] at C
      have HS := Lib.hid hS
      clear hS hin
      by_cases hs : S = 12
      · have t1 : (S == 12) = true := by simp [hs]
        have HSB := Lib.hid hs
        clear hs
        go_wp2_with fail
        refine A.out.mono ?_
        rintro e1 w1 ⟨rfl, rfl⟩
        go_wp2_with fail
        refine C.out.mono ?_
        rintro e1 w1 ⟨rfl, rfl⟩
        go_wp2_with fail
        go_ret
        exact ⟨ret_boolT (decide_eq_true (⟨HN.out.symm, HIN.out, HS.out.symm.trans HSB.out⟩ : CirOk xs)).symm, B0.out⟩
      · have t1 : (S == 12) = false := by simp [hs]
        have HSB := Lib.hid hs
        clear hs
        go_wp2_with fail
        refine A.out.mono ?_
        rintro e1 w1 ⟨rfl, rfl⟩
        go_wp2_with fail
        refine C.out.mono ?_
        rintro e1 w1 ⟨rfl, rfl⟩
        go_wp2_with fail
        go_ret
        exact ⟨ret_boolT (decide_eq_false (fun h => HSB.out (HS.out.trans h.2.2))).symm, B0.out⟩
    · rw [decide_eq_false hin] at A
      have HIN := Lib.hid hin
      clear hin
      go_wp2_with fail
      refine A.out.mono ?_
      rintro e1 w1 ⟨rfl, rfl⟩
      go_wp2_with fail
      go_ret
      exact ⟨ret_boolT (decide_eq_false (fun h => HIN.out h.2.1)).symm, B0.out⟩
  · obtain ⟨p, c, rfl⟩ := own_slice h
    have t0 : ((n : Int) == (12 : Int)) = false := by simp; omega
    have HR := Lib.hid h12
    have HN := Lib.hid hn
    clear h hn h12
    go_enter Try.func41, Try.ntmps41
    go_wp2
    go_ret
    exact ⟨ret_boolT (decide_eq_false (fun h => HR.out (HN.out.trans h.1))).symm, below_alloc1 w _⟩
set_option maxHeartbeats 400000 in
theorem cirOk_spec (w : World) (b : Nat) (e : TypeId) (v : Value) (xs : List Int) (hl : xs.length ≤ 2000000) (h : w.ownsRow b e 1 v xs.length (intCs xs)) :
    Calls Try.prog 48 #[cirV v] w fun en w' => en = .returned (.bool (cirB xs)) ∧ Below w.heap.size w w' := by
  obtain ⟨n, hn⟩ : ∃ n, n = xs.length := ⟨_, rfl⟩
  rw [← hn] at h hl
  obtain ⟨p, cap, rfl⟩ := own_slice h
  have HC := Lib.hid (fun j (hj : j < n) => show ∃ g, p = some ⟨g, 0, none⟩ ∧ (w.alloc (.cells #[.slice p n cap] 26)).cell? ⟨g, j, none⟩ = some (.int .i64 (xs.getD j 0)) from by
    obtain ⟨g, cap', e1, _, hg⟩ := own_pos h (by omega)
    simp only [Value.slice.injEq] at e1
    obtain ⟨rfl, _, rfl⟩ := e1
    exact ⟨g, rfl, ((below_alloc1 w (.cells #[.slice (some ⟨g, 0, none⟩) n cap] 26)).cell (p := ⟨g, j, none⟩) hg).trans (own_icell h j hj)⟩)
  obtain ⟨_, c0, _⟩ := one_alloc (w := w) (v := .slice p n cap) (t := 26)
  have B0 := Lib.hid (below_alloc1 w (.cells #[.slice p n cap] 26))
  have HN := Lib.hid hn
  clear h hn
  go_enter Try.func48, Try.ntmps48
  go_upto_region 1 with fail
  obtain ⟨W0, hW⟩ : ∃ W, W = w.alloc (.cells #[.slice p n cap] 26) := ⟨_, rfl⟩
  rw [← hW] at HC c0 B0 ⊢
  clear hW
  go_wp2_with fail
  go_loopw [3, 4] (fun s i wr => ∃ (k : Nat) (S : Int), k ≤ n ∧ Hid (∀ j, j < k → 0 ≤ xs.getD j 0 ∧ xs.getD j 0 ≤ 12) ∧ S = sumTo xs k ∧ s = .int .i64 S ∧ i = .int .i64 k ∧ wr = W0) (fun _ i _ => n - (intOf i).toNat)
  case atStart => exact ⟨0, 0, Nat.zero_le _, Lib.hid (fun j hj => by omega), rfl, rfl, rfl, rfl⟩
  case round =>
    obtain ⟨k, S, hk, HA, hS, rfl, rfl, rfl⟩ := hrel
    have hb := sumTo_bd HA.out k (Nat.le_refl _)
    rw [← hS] at hb
    have HS := Lib.hid hS
    clear hS
    by_cases hlt : k < n
    · obtain ⟨g, hp, q1⟩ := HC.out k hlt
      subst hp
      have q3 : (k : Int) < n := by omega
      obtain ⟨x, hxk⟩ : ∃ x, x = xs.getD k 0 := ⟨_, rfl⟩
      rw [← hxk] at q1
      have HX := Lib.hid hxk
      clear hxk
      by_cases hx : 0 ≤ x ∧ x ≤ 12
      · have C := inT_any x 0 12
        rw [decide_eq_true hx] at C
        have HXB := Lib.hid hx
        go_wp2_with fail
        refine (C _).mono ?_
        rintro e1 w1 ⟨rfl, rfl⟩
        go_wp2_with fail
        go_roundw
        case rel => exact ⟨k + 1, S + x, by omega, Lib.hid (fun j hj => (show j < k ∨ j = k from by omega).elim (fun h => HA.out j h) (fun h => by rw [h, ← HX.out]; exact HXB.out)), by rw [HS.out, HX.out]; rfl, by go_num, by go_num, by trivial⟩
        case measure => simp [intOf]; omega
      · have C := inT_any x 0 12
        rw [decide_eq_false hx] at C
        have HXB := Lib.hid hx
        clear hx
        go_wp2_with fail
        refine (C _).mono ?_
        rintro e1 w1 ⟨rfl, rfl⟩
        go_wp2_with fail
        go_ret
        exact ⟨ret_boolT (decide_eq_false (fun h => HXB.out (by rw [HX.out]; exact h.2.1 k (by have := h.1; have := HN.out; omega)))).symm, B0.out⟩
    · have q3 : ¬ (k : Int) < n := by omega
      obtain rfl : k = n := by omega
      by_cases h12 : k = 12
      · subst h12
        by_cases hs : S = 12
        · have t1 : (S == 12) = true := by simp [hs]
          have HSB := Lib.hid hs
          clear hs
          go_wp2_with fail
          go_ret
          exact ⟨ret_boolT (decide_eq_true (⟨HN.out.symm, HA.out, HS.out.symm.trans HSB.out⟩ : CirOk xs)).symm, B0.out⟩
        · have t1 : (S == 12) = false := by simp [hs]
          have HSB := Lib.hid hs
          clear hs
          go_wp2_with fail
          go_ret
          exact ⟨ret_boolT (decide_eq_false (fun h => HSB.out (HS.out.trans h.2.2))).symm, B0.out⟩
      · have t1 : ((k : Int) == (12 : Int)) = false := by simp; omega
        have HR := Lib.hid h12
        clear h12
        go_wp2_with fail
        go_ret
        exact ⟨ret_boolT (decide_eq_false (fun h => HR.out (HN.out.trans h.1))).symm, B0.out⟩
/-- l12Has, and impl's two conditions together. -/
theorem l12Has_any (w : World) (b : Nat) (e : TypeId) (v : Value) (xs : List Int) (i : Int) (hl : xs.length ≤ 2000000) (h : w.ownsRow b e 1 v xs.length (intCs xs)) :
    Calls Try.prog 75 #[cirV v, .int .i64 i] w fun en w' => en = .returned (.bool (cirB xs && decide (0 ≤ i ∧ i ≤ 11))) ∧ Below w.heap.size w w' := by
  have C := cirOk_spec _ b e v xs hl (own_below h (below_alloc1 w (.cells #[v] 26)))
  have B0 := Lib.hid (below_alloc1 w (.cells #[v] 26))
  have D := inT_any i 0 11
  generalize cirB xs = y at C ⊢
  generalize decide (0 ≤ i ∧ i ≤ 11) = z at D ⊢
  clear h hl
  cases y
  · go_enter Try.func75, Try.ntmps75
    go_wp2_with fail
    refine C.mono ?_
    rintro e1 w1 ⟨rfl, b1⟩
    go_wp2_with fail
    go_ret
    exact ⟨rfl, B0.out.trans (b1.mono (by simp))⟩
  · go_enter Try.func75, Try.ntmps75
    go_wp2_with fail
    refine C.mono ?_
    rintro e1 w1 ⟨rfl, b1⟩
    go_wp2_with fail
    refine (D _).mono ?_
    rintro e2 w2 ⟨rfl, rfl⟩
    go_wp2_with fail
    go_ret
    exact ⟨rfl, B0.out.trans (b1.mono (by simp))⟩
end Go.Proofs.Ytjfeeppbbckneab
