/- Contracts of spec.l19Plan and spec.DrawPlan: a drawn plan is valid, its beats are below 1500, and it lies in memory of its own. -/
import Derived.Test.YtbklnlmijkclmaaDrawTone
import Derived.Test.YtbklnlmijkclmaaSUsual
import Derived.Test.YtbklnlmijkclmaaPlanDraws
import Derived.Deep.DeepCutAuto
namespace Go.Proofs.Ytbklnlmijkclmaa
open Go.RowKit Go.Joins
set_option linter.unusedVariables false
theorem curL_below {T : TypeId} {W : World} {a : Option Addr} {len cap : Nat} {zs : List Int} {b : Nat} {w w' : World} (h : Cur T W a len cap zs b w) (hb : Below w.heap.size w w') : Cur T W a len cap zs b w' := by
  have hl := h.lt
  obtain ⟨i, x, hi, hc⟩ := h.cells
  exact ⟨h.row, h.below.trans (hb.mono h.below.size), h.ge, i, x, hi, (hb.block b hl).trans hc⟩
theorem grownL_below {w w1 w2 : World} {r : Option Nat} (h : w.grownBy w1 r) (hb : Below w1.heap.size w1 w2) : w.grownBy w2 r :=
  ⟨hb.os.trans h.os, hb.tape.trans h.tape, hb.output.trans h.output, Nat.le_trans h.size hb.size, fun k hk hn => (hb.block k (Nat.lt_of_lt_of_le hk h.size)).trans (h.block k hk hn)⟩
theorem ownL_gr {w w' : World} {base : Nat} {e : TypeId} {size : Nat} {v : Value} {n : Nat} {xs : List Value} {r : Option Nat} (h : w.ownsRow base e size v n xs) (hg : w.grownBy w' r) (hr : ∀ g, v.ownBlock = some g → r ≠ some g) : w'.ownsRow base e size v n xs := by
  refine h.kept hg ?_
  cases hv : v.ownBlock
  · exact .inl rfl
  · exact .inr (fun e => hr _ hv e.symm)
theorem ownL_cut {w : World} {base g n cap i size : Nat} {e : TypeId} {xs : List Value} (h : w.ownsRow base e size (.slice (some ⟨g, 0, none⟩) n cap) n xs) (hi : i ≤ n) : w.ownsRow base e size (.slice (some ⟨g, 0, none⟩) i cap) i (xs.take (i * size)) := by
  have hm : i * size ≤ n * size := Nat.mul_le_mul_right _ hi
  refine ⟨by rw [List.length_take, h.1]; omega, ?_⟩
  rcases h.2 with ⟨h', _⟩ | ⟨g', cap', cur, h', hb, hg, hnc, hcm, hcs, htake⟩
  · simp at h'
  · simp only [Value.slice.injEq, Option.some.injEq, Addr.mk.injEq, and_true, true_and] at h'
    obtain ⟨rfl, rfl⟩ := h'
    exact .inr ⟨g, cap, cur, rfl, hb, hg, Nat.le_trans hi hnc, hcm, hcs, by rw [← htake, List.take_take, Nat.min_eq_left hm]⟩
theorem ownL_cap {w : World} {base g n cap size : Nat} {e : TypeId} {xs : List Value} (h : w.ownsRow base e size (.slice (some ⟨g, 0, none⟩) n cap) n xs) : n ≤ cap := by
  rcases h.2 with ⟨h', _⟩ | ⟨g', cap', cur, h', hb, hg, hnc, hcm, hcs, htake⟩
  · simp at h'
  · simp only [Value.slice.injEq, Option.some.injEq, Addr.mk.injEq, and_true, true_and] at h'
    obtain ⟨rfl, rfl⟩ := h'
    exact hnc
theorem ivCsL_take : ∀ (i : Nat) (xs : List Iv), (ivCs xs).take (i * 4) = ivCs (xs.take i)
  | 0, xs => by simp [ivCs]
  | i + 1, [] => by simp [ivCs]
  | i + 1, x :: xs => by
    rw [show (i + 1) * 4 = i * 4 + 4 from by omega]
    simp only [ivCs, List.take_succ_cons, ivCsL_take i xs]
/-- One number of a step is written. -/
theorem ivCs_root : ∀ (xs : List Iv) (k : Nat) (y : Int), k < xs.length → (ivCs xs).set (k * 4 + 3) (.int .i64 y) = ivCs (xs.set k ⟨(ivAt xs k).two, (ivAt xs k).three, (ivAt xs k).five, y⟩)
  | [], k, y, h => by simp at h
  | x :: xs, 0, y, _ => by simp [ivCs, ivAt]
  | x :: xs, k + 1, y, h => by
    have := ivCs_root xs k y (by simpa using h)
    rw [show (k + 1) * 4 + 3 = (k * 4 + 3) + 4 from by omega]
    simp only [ivCs, List.set_cons_succ, this]
    simp [ivAt]
theorem ivCs_five : ∀ (xs : List Iv) (k : Nat) (y : Int), k < xs.length → (ivCs xs).set (k * 4 + 2) (.int .i64 y) = ivCs (xs.set k ⟨(ivAt xs k).two, (ivAt xs k).three, y, (ivAt xs k).root⟩)
  | [], k, y, h => by simp at h
  | x :: xs, 0, y, _ => by simp [ivCs, ivAt]
  | x :: xs, k + 1, y, h => by
    have := ivCs_five xs k y (by simpa using h)
    rw [show (k + 1) * 4 + 2 = (k * 4 + 2) + 4 from by omega]
    simp only [ivCs, List.set_cons_succ, this]
    simp [ivAt]
theorem ivAt_set {xs : List Iv} {k j : Nat} {X : Iv} (h : k < xs.length) : ivAt (xs.set k X) j = if j = k then X else ivAt xs j := by
  unfold ivAt
  by_cases e : j = k
  · subst e; simp [h]
  · have e' : k ≠ j := fun q => e q.symm
    simp [e, List.getElem?_set_ne e']
theorem us_drawn : ∀ j, j < 11 → StDraw j (ivAt (usTo 0 11) j) := by decide
/-- A plan that is being drawn. -/
structure PlSt (T E : TypeId) (W : World) (a : Option Addr) (len cap : Nat) (zs : List Int) (b : Nat) (w : World) (g c : Nat) (xs : List Iv) (X : World) : Prop where
  cur : Cur T W a len cap zs b X
  grown : w.grownBy X (some b)
  row : X.ownsRow w.heap.size E 4 (.slice (some ⟨g, 0, none⟩) 11 c) 11 (ivCs xs)
  len11 : xs.length = 11
  good : ∀ j, j < 11 → StDraw j (ivAt xs j)
  lt : b < w.heap.size
  old : W.heap.size ≤ w.heap.size
section
variable {T E : TypeId} {W : World} {a : Option Addr} {len cap : Nat} {zs : List Int} {b : Nat} {w : World} {g c : Nat} {xs : List Iv} {X X' : World}
theorem PlSt.draw (h : PlSt T E W a len cap zs b w g c xs X) (hc : Cur T W a len cap zs b X') (hg : X.grownBy X' (some b)) : PlSt T E W a len cap zs b w g c xs X' :=
  ⟨hc, grown_trans h.grown hg, ownL_gr h.row hg (fun g hg' e => by have := (h.row.lt g hg').1; have := h.lt; injection e; omega), h.len11, h.good, h.lt, h.old⟩
theorem PlSt.al (h : PlSt T E W a len cap zs b w g c xs X) (o : Obj) : PlSt T E W a len cap zs b w g c xs (X.alloc o) :=
  have hb : Below X.heap.size X (X.alloc o) := (Below.refl _ _).alloc (Nat.le_refl _) o
  ⟨curL_below h.cur hb, grownL_below h.grown hb, own4_below h.row hb, h.len11, h.good, h.lt, h.old⟩
theorem PlSt.beats (h : PlSt T E W a len cap zs b w g c xs X) {k : Nat} (hk : k < 11) {y : Int} (hy : 0 ≤ y ∧ y < 1500) : PlSt T E W a len cap zs b w g c (xs.set k ⟨(ivAt xs k).two, (ivAt xs k).three, (ivAt xs k).five, y⟩) (X.setCell ⟨g, k * 4 + 3, none⟩ (.int .i64 y)) := by
  have R := (h.row.stored (k * 4 + 3) (.int .i64 y)).1
  rw [ivCs_root xs k y (by rw [h.len11]; exact hk)] at R
  have hg := (h.row.lt g rfl).1
  have h1 := h.lt
  have h2 := h.old
  refine ⟨h.cur.setOther (n := g) (by omega) (by omega) _ _, grown_setNew h.grown (n := g) hg _ _, R, by rw [List.length_set]; exact h.len11, fun j hj => ?_, h1, h2⟩
  rw [ivAt_set (by rw [h.len11]; exact hk)]
  split
  · rename_i e; subst e
    exact ⟨(h.good j hj).1, (h.good j hj).2.1, hy⟩
  · exact h.good j hj
theorem PlSt.fourth (h : PlSt T E W a len cap zs b w g c xs X) {k : Nat} (hk : k < 11) : PlSt T E W a len cap zs b w g c (xs.set k ⟨(ivAt xs k).two, (ivAt xs k).three, 2, (ivAt xs k).root⟩) (X.setCell ⟨g, k * 4 + 2, none⟩ (.int .i64 2)) := by
  have R := (h.row.stored (k * 4 + 2) (.int .i64 2)).1
  rw [ivCs_five xs k 2 (by rw [h.len11]; exact hk)] at R
  have hg := (h.row.lt g rfl).1
  have h1 := h.lt
  have h2 := h.old
  refine ⟨h.cur.setOther (n := g) (by omega) (by omega) _ _, grown_setNew h.grown (n := g) hg _ _, R, by rw [List.length_set]; exact h.len11, fun j hj => ?_, h1, h2⟩
  rw [ivAt_set (by rw [h.len11]; exact hk)]
  split
  · rename_i e; subst e
    exact ⟨(h.good j hj).1, .inr rfl, (h.good j hj).2.2⟩
  · exact h.good j hj
theorem PlSt.cells (h : PlSt T E W a len cap zs b w g c xs X) {k : Nat} (hk : k < 11) : (X.cell? ⟨g, k * 4 + 3, none⟩ = some (.int .i64 (ivAt xs k).root) ∧ X.frozen? ⟨g, k * 4 + 3, none⟩ = false) ∧ X.cell? ⟨g, k * 4 + 2, none⟩ = some (.int .i64 (ivAt xs k).five) ∧ X.frozen? ⟨g, k * 4 + 2, none⟩ = false := by
  obtain ⟨_, _, x2, x3⟩ := own_iv h.row h.len11.symm k hk
  exact ⟨⟨x3, h.row.frozenAt _⟩, x2, h.row.frozenAt _⟩
end
/-- What l19Plan leaves. -/
def DrawnPl (T : TypeId) (W : World) (a : Option Addr) (len cap : Nat) (zs : List Int) (b : Nat) (w : World) (e : Ending) (w' : World) : Prop :=
  ∃ xs p c, (xs.length ≤ 11 ∧ ∀ j, j < xs.length → StDraw j (ivAt xs j)) ∧ e = .returned (.slice p xs.length c) ∧ w'.ownsRow w.heap.size 32 4 (.slice p xs.length c) xs.length (ivCs xs) ∧ Cur T W a len cap zs b w' ∧ w.grownBy w' (some b)
theorem plSt_done {T : TypeId} {W : World} {a : Option Addr} {len cap : Nat} {zs : List Int} {b : Nat} {w : World} {g c : Nat} {xs : List Iv} {X : World} (h : PlSt T 32 W a len cap zs b w g c xs X) {t : Nat} (ht : t ≤ 11) : DrawnPl T W a len cap zs b w (.returned (.slice (some ⟨g, 0, none⟩) t c)) X := by
  have R := ownL_cut h.row ht
  rw [ivCsL_take] at R
  have l : (xs.take t).length = t := by rw [List.length_take, h.len11]; omega
  refine ⟨xs.take t, _, _, ⟨by omega, fun j hj => ?_⟩, by rw [l], by rw [l]; exact R, h.cur, h.grown⟩
  rw [l] at hj
  have e : ivAt (xs.take t) j = ivAt xs j := by unfold ivAt; simp [hj]
  rw [e]
  exact h.good j (by omega)
set_option maxRecDepth 100000 in
set_option maxHeartbeats 4000000 in
theorem plan_any {W : World} {a : Option Addr} {len cap : Nat} {zs : List Int} {b : Nat} {w : World} (hc : Cur 74 W a len cap zs b w) :
    Calls Try.prog 36 #[.pointer (some ⟨b, 0, none⟩)] w (DrawnPl 74 W a len cap zs b w) := by
  have HC := Lib.hid hc
  clear hc
  go_enter Try.func36, Try.ntmps36
  go_wp2_with fail
  refine (usual_spec 0 _).mono ?_
  rintro e w1 ⟨v1, rfl, o1, b1⟩
  rw [show usL 0 = usTo 0 11 from rfl, usTo_len] at o1
  obtain ⟨g, c, rfl, _, _⟩ := own4_pos o1 (by omega)
  have hcap := ownL_cap o1
  have S0 : Hid (PlSt 74 32 W a len cap zs b w g c (usTo 0 11) w1) := Lib.hid ⟨curL_below HC.out b1, grownL_below (World.grownBy.refl _ _) b1, o1, usTo_len _ _, us_drawn, HC.out.lt, HC.out.below.size⟩
  clear o1 b1 HC
  go_wp2_with fail
  go_loopw [4] (fun i wr => ∃ (k : Nat) (xs : List Iv), k ≤ 11 ∧ i = .int .i64 (k : Int) ∧ Hid (PlSt 74 32 W a len cap zs b w g c xs wr)) (fun i _ => 11 - (intOf i).toNat)
  case atStart => exact ⟨0, _, by omega, by go_num, S0⟩
  case round =>
    clear S0
    obtain ⟨k, xs, hk, rfl, S1⟩ := hrel
    by_cases hlt : k < 11
    · have q3 : (k : Int) < 11 := by omega
      have k0 : 0 ≤ (k : Int) := by omega
      go_wp2_with fail
      refine (below_any S1.out.cur _).mono ?_
      rintro e w2 ⟨y, hy, rfl, hc2, hg2⟩
      have S2 := Lib.hid (S1.out.draw hc2 hg2)
      have hy2 : 0 ≤ y ∧ y < 1500 := ⟨hy.1, hy.2.2 (by omega)⟩
      have S3 := Lib.hid (S2.out.beats hlt hy2)
      obtain ⟨⟨x3, f3⟩, _, _⟩ := S2.out.cells hlt
      generalize (ivAt xs k).root = z3 at x3
      clear hy hc2 hg2 S1 hy2
      go_wp2_with fail
      refine (once_any S3.out.cur _).mono ?_
      rintro e w4 ⟨x, rfl, hc4, hg4⟩
      have S4 := Lib.hid (S3.out.draw hc4 hg4)
      clear hc4 hg4 S2 S3 x3 f3
      cases x
      · go_wp2_with fail
        go_roundw
        case rel => exact ⟨k + 1, _, hlt, by go_num, S4⟩
        case measure => simp [intOf]; omega
      · have S5 := Lib.hid (S4.out.fourth hlt)
        obtain ⟨_, x2, f2⟩ := S4.out.cells hlt
        generalize (ivAt (xs.set k ⟨(ivAt xs k).two, (ivAt xs k).three, (ivAt xs k).five, y⟩) k).five = z2 at x2
        clear S4
        go_wp2_with fail
        go_roundw
        case rel => exact ⟨k + 1, _, hlt, by go_num, S5⟩
        case measure => simp [intOf]; omega
    · obtain rfl : k = 11 := by omega
      go_wp2_with fail
      refine (below_any S1.out.cur _).mono ?_
      rintro e w2 ⟨y, hy, rfl, hc2, hg2⟩
      have S2 := Lib.hid (S1.out.draw hc2 hg2)
      have y1 : 0 ≤ y := hy.1
      have y2 : y < 12 := hy.2.2 (by omega)
      have S3 := Lib.hid (S2.out.al (.cells #[.int .i64 11, .int .i64 11, .int .i64 11, .int .i64 y] 3))
      clear hy hc2 hg2 S1
      go_wp2_with fail
      refine (pickInt_any S3.out.cur w2.heap.size 4 4 [11, 11, 11, y] 3 rfl (by omega) (by omega) (by have := S2.out.cur.lt; omega) (heap_alloc_new _ _)).mono ?_
      rintro e w4 ⟨t, ht, rfl, hc4, hg4⟩
      have S4 := Lib.hid (S3.out.draw hc4 hg4)
      obtain ⟨t', rfl⟩ : ∃ t' : Nat, t = (t' : Int) := ⟨t.toNat, by simp only [List.mem_cons, List.not_mem_nil, or_false] at ht; omega⟩
      have ht11 : t' ≤ 11 := by simp only [List.mem_cons, List.not_mem_nil, or_false] at ht; omega
      have tc : (t' : Int) ≤ (c : Int) := by omega
      have t0 : 0 ≤ (t' : Int) := by omega
      clear ht hc4 hg4 S2 S3
      go_wp2_with fail
      go_ret
      exact plSt_done S4.out ht11
/-- What DrawPlan leaves: a pitch and a valid plan. -/
def DrawnPlan (w : World) (e : Ending) (w' : World) : Prop :=
  ∃ s xs p c, DrOk s xs ∧ e = .returned (.tuple #[.int .i64 s, .slice p xs.length c]) ∧ w'.ownsRow w.heap.size 32 4 (.slice p xs.length c) xs.length (ivCs xs) ∧ Below w.heap.size w w'
theorem ownL_base {w : World} {b b' : Nat} {e : TypeId} {size : Nat} {v : Value} {n : Nat} {xs : List Value} (h : w.ownsRow b' e size v n xs) (hb : b ≤ b') : w.ownsRow b e size v n xs := by
  refine ⟨h.1, ?_⟩
  rcases h.2 with h1 | ⟨g, cap, cur, h1, h2, h3⟩
  · exact .inl h1
  · exact .inr ⟨g, cap, cur, h1, Nat.le_trans hb h2, h3⟩
set_option maxHeartbeats 1000000 in
theorem drawPlan_any {W : World} {a : Option Addr} {len cap : Nat} {zs : List Int} (hr : IsRow .u8 W a len cap zs) : Calls Try.prog 11 #[.slice a len cap] W (DrawnPlan W) := by
  have HR := Lib.hid hr
  clear hr
  go_enter Try.func11, Try.ntmps11
  go_wp2_with fail
  refine (new_any HR.out).mono ?_
  rintro e w1 ⟨b, rfl, hc1⟩
  have HC1 := Lib.hid hc1
  clear hc1
  go_wp2_with fail
  refine (below_any HC1.out _).mono ?_
  rintro e w2 ⟨x, hx, rfl, hc2, _⟩
  have x1 : 0 ≤ x := hx.1
  have x2 : x < 100000 := hx.2.2 (by omega)
  have HC2 := Lib.hid hc2
  clear hx hc2 HC1
  go_wp2_with fail
  refine (plan_any HC2.out).mono ?_
  rintro e w3 ⟨xs, p, c, hx, rfl, ho, hc3, _⟩
  have HX := Lib.hid hx
  have HO := Lib.hid (ownL_base ho HC2.out.below.size)
  have HB := Lib.hid hc3.below
  clear hx ho hc3 HC2
  obtain ⟨n, hn⟩ : ∃ n, n = xs.length := ⟨_, rfl⟩
  rw [← hn]
  have HN := Lib.hid hn
  clear hn
  go_wp2_with fail
  refine bodyPost_ret (v := .tuple #[.int .i64 (200000 + x), .slice p n c]) (by simp [results, Try.results11, go_sem]) rfl ⟨200000 + x, xs, p, c, ⟨⟨by omega, by omega⟩, HX.out⟩, by rw [HN.out], HO.out, HB.out⟩
end Go.Proofs.Ytbklnlmijkclmaa
