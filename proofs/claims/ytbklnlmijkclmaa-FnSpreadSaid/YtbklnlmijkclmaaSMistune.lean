/- Contracts of spec.l19Copy and spec.Mistune. -/
import Derived.Test.YtbklnlmijkclmaaSDepth
import Derived.Test.YtbklnlmijkclmaaSUsual
namespace Go.Proofs.Ytbklnlmijkclmaa
open Go.RowKit Go.Joins
set_option linter.unusedVariables false
theorem ivCs_oneU : ∀ xs, ∀ u ∈ ivCs xs, u.oneCell' = true
  | [], u, h => by simp [ivCs] at h
  | x :: xs, u, h => by
    simp only [ivCs, List.mem_cons] at h
    rcases h with rfl | rfl | rfl | rfl | h <;> first | rfl | exact ivCs_oneU xs u h
theorem own4_cells {w : World} {base g cap n : Nat} {e : TypeId} {xs : List Value} (h : w.ownsRow base e 4 (.slice (some ⟨g, 0, none⟩) n cap) n xs) : ∀ j u, xs[j]? = some u → w.cell? ⟨g, j, none⟩ = some u := by
  intro j u hu
  have := h.cells rfl j u hu
  have e : (⟨g, 0, none⟩ : Addr).add j = ⟨g, j, none⟩ := by unfold Addr.add; split <;> simp_all
  rw [e] at this
  exact this
set_option maxRecDepth 100000 in
set_option maxHeartbeats 2000000 in
theorem copy_any (w : World) (b : Nat) (e : TypeId) (v : Value) (xs : List Iv) (hl : xs.length ≤ 2000000) (h : w.ownsRow b e 4 v xs.length (ivCs xs)) :
    Calls Try.prog 55 #[v] w (OwnSt xs w) := by
  obtain ⟨i0, hi, hz0, hz1, hz2⟩ := info_parts4 infoSt
  have OL := Lib.hid (World.ownsRow_lit (base := w.heap.size) (e := 32) (size := 4) w #[] 0 (Nat.le_refl _) (by unfold maxLen; omega) rfl)
  rcases Nat.eq_zero_or_pos xs.length with h0 | h0
  · obtain ⟨p1, c1, rfl⟩ := own4_zero h h0
    have HX : Hid (xs = []) := Lib.hid (List.eq_nil_of_length_eq_zero h0)
    clear h hl h0
    go_enter Try.func55, Try.ntmps55
    rcases p1 with _ | a1
    all_goals
      go_wp2_with fail
      go_ret
      exact ⟨_, rfl, by rw [HX.out]; exact OL.out, below_alloc1 w _⟩
  · obtain ⟨g, cap, rfl, _, hg⟩ := own4_pos h h0
    obtain ⟨n, hn⟩ : ∃ n, n = xs.length := ⟨_, rfl⟩
    have HN := Lib.hid hn
    have HC2 := Lib.hid (fun j u (hj : (ivCs xs)[j]? = some u) => ((Below.refl _ w).alloc (Nat.le_refl _) (.cells #[] 32)).cell (p := ⟨g, j, none⟩) hg |>.trans (own4_cells h j u hj))
    rw [← hn] at h0 hl ⊢
    clear h hn hg
    go_enter Try.func55, Try.ntmps55
    go_wp2_with (at_builtin; refine wpList_append_lies _ rfl (.tmp 3) (.tmp 4) 24 rfl w.heap.size 32 i0 (ivV 0 0 0 0) 4 32 Try.underlying24 hi hz0 hz1 hz2 rfl (by decide) _ 0 _ rfl OL.out ⟨g, 0, none⟩ n cap (ivCs xs) rfl (by rw [ivCs_len, HN.out]) (fun j u hu => by rw [show (⟨g, 0, none⟩ : Addr).add j = ⟨g, j, none⟩ from by unfold Addr.add; split <;> simp_all]; exact HC2.out j u hu) (ivCs_oneU xs) h0 (by unfold maxLen; omega) (by omega) (by simp) _ rfl ?_; intro g1 cap1 w1 hown' hgrow hat hgt)
    go_wp2_with fail
    go_ret
    refine ⟨_, rfl, ?_, ((Below.refl _ w).alloc (Nat.le_refl _) _).grown hgrow (by simp) (fun j hj => by cases hj; exact Nat.le_refl _)⟩
    have := hown'
    rw [Nat.zero_add] at this
    rw [← HN.out]
    exact this
/-- A row of steps and whether there is one. -/
def StB (ys : List Iv) (z : Bool) (w : World) (e : Ending) (w' : World) : Prop := ∃ v, e = .returned (.tuple #[v, .bool z]) ∧ w'.ownsRow w.heap.size 32 4 v ys.length (ivCs ys) ∧ Below w.heap.size w w'
theorem ret_pair {v : Value} {z z' : Bool} (h : z' = z) : Ending.returned (.tuple #[v, .bool z]) = .returned (.tuple #[v, .bool z']) := by rw [h]
theorem mis_no {xs : List Iv} {a ch : Int} (h : ¬ MisOk xs a ch) : misL xs a ch = xs ∧ misB xs a ch = false := ⟨if_neg h, decide_eq_false h⟩
theorem mis_yes {xs : List Iv} {a ch : Int} (h : MisOk xs a ch) : misL xs a ch = misX xs a.toNat ch ∧ misB xs a ch = true := ⟨if_pos h, decide_eq_true h⟩
theorem ivCsM_root : ∀ (xs : List Iv) (k : Nat) (y : Int), k < xs.length → (ivCs xs).set (k * 4 + 3) (.int .i64 y) = ivCs (xs.set k ⟨(ivAt xs k).two, (ivAt xs k).three, (ivAt xs k).five, y⟩)
  | [], k, y, h => by simp at h
  | x :: xs, 0, y, _ => by simp [ivCs, ivAt]
  | x :: xs, k + 1, y, h => by
    have := ivCsM_root xs k y (by simpa using h)
    rw [show (k + 1) * 4 + 3 = (k * 4 + 3) + 4 from by omega]
    simp only [ivCs, List.set_cons_succ, this]
    simp [ivAt]
theorem ownM_base {w : World} {b b' : Nat} {e : TypeId} {size : Nat} {v : Value} {n : Nat} {xs : List Value} (h : w.ownsRow b' e size v n xs) (hb : b ≤ b') : w.ownsRow b e size v n xs := by
  refine ⟨h.1, ?_⟩
  rcases h.2 with h1 | ⟨g, cap, cur, h1, h2, h3⟩
  · exact .inl h1
  · exact .inr ⟨g, cap, cur, h1, Nat.le_trans hb h2, h3⟩
set_option maxRecDepth 100000 in
set_option maxHeartbeats 8000000 in
theorem mistune_spec (a ch : Int) (w : World) (b : Nat) (e : TypeId) (v : Value) (xs : List Iv) (hl : xs.length ≤ 2000000) (h : w.ownsRow b e 4 v xs.length (ivCs xs)) :
    Calls Try.prog 25 #[v, .int .i64 a, .int .i64 ch] w (StB (misL xs a ch) (misB xs a ch) w) := by
  have CC := Lib.hid (fun (W : World) (q : Below w.heap.size w W) => copy_any W b e v xs hl (own4_below h q))
  have PK := Lib.hid (fun (W : World) (q : Below w.heap.size w W) => planOk_spec W b e v xs hl (own4_below h q))
  by_cases hp : PlOk xs
  · rw [show planB xs = true from decide_eq_true hp] at PK
    have hs : ∃ p c, v = .slice p xs.length c := by
      rcases own4_shape h with ⟨q, q'⟩ | ⟨g, cap, q, _⟩
      · exact ⟨none, 0, by rw [q, q']⟩
      · exact ⟨_, _, q⟩
    obtain ⟨p, c, rfl⟩ := hs
    have hn11 := hp.1
    obtain ⟨n, hn⟩ : ∃ n, n = xs.length := ⟨_, rfl⟩
    rw [← hn] at CC PK hl hn11 ⊢
    have HN := Lib.hid hn
    have HP := Lib.hid hp
    clear h
    by_cases h1 : 0 ≤ a ∧ a ≤ (n : Int) - 1
    · have H1 := Lib.hid (decide_eq_true h1)
      by_cases h2 : -5000 ≤ ch ∧ ch ≤ 5000
      · have H2 := Lib.hid (decide_eq_true h2)
        obtain ⟨A, hA⟩ : ∃ A : Nat, a = A := ⟨a.toNat, by omega⟩
        have hAn : A < n := by omega
        have g := hp.2 A (by omega)
        obtain ⟨r, hr⟩ : ∃ r, r = (ivAt xs A).root := ⟨_, rfl⟩
        have hr1 : 0 ≤ r ∧ r ≤ 5000 := by rw [hr]; exact g.2.2
        have HR := Lib.hid hr
        obtain ⟨ys, hys⟩ : ∃ ys, ys = misX xs A ch := ⟨_, rfl⟩
        have HY := Lib.hid hys
        have hyl : ys.length = n := by rw [hys, misX_len, hn]
        have HYL := Lib.hid hyl
        have AT : Hid (AtOk xs a) := Lib.hid ⟨hp, by omega, by omega⟩
        have MA : Hid ((AtOk xs a ∧ -5000 ≤ ch ∧ ch ≤ 5000) ∧ misX xs a.toNat ch = ys) := Lib.hid ⟨⟨AT.out, h2⟩, by rw [hA, Int.toNat_natCast, hys]⟩
        obtain ⟨z, hz⟩ : ∃ z : Bool, planB ys = z := ⟨_, rfl⟩
        have HZ := Lib.hid hz
        have q1 : 0 ≤ (A : Int) := by omega
        have q2 : (A : Int) < n := by omega
        obtain ⟨r1, r2⟩ := hr1
        obtain ⟨c1, c2⟩ := h2
        subst hA
        clear h1 g hr hys hyl hn hp hz AT
        go_enter Try.func25, Try.ntmps25
        go_wp2_with fail
        refine (CC.out _ (Below.refl _ _)).mono ?_
        rintro e1 w1 ⟨v1, rfl, o1, b1⟩
        rw [← HN.out] at o1
        obtain ⟨g, cp, rfl, hg0, hg1⟩ := own4_pos o1 (by omega)
        have O1 := Lib.hid o1
        have B1 := Lib.hid b1
        have HG0 := Lib.hid hg0
        clear o1 b1 hg0 hg1
        go_wp2_with fail
        refine (PK.out _ B1.out).mono ?_
        rintro e1 w2 ⟨rfl, b2⟩
        have O2 := Lib.hid (own4_below O1.out b2)
        have B2 := Lib.hid (B1.out.trans (b2.mono B1.out.size))
        clear b2 O1 B1 PK
        go_wp2_with fail
        refine (in_at H1.out _).mono ?_
        rintro e1 w3 ⟨rfl, rfl⟩
        go_wp2_with fail
        refine (in_at H2.out _).mono ?_
        rintro e1 w3 ⟨rfl, rfl⟩
        obtain ⟨_, _, _, x3⟩ := own_iv O2.out HN.out A hAn
        rw [← HR.out] at x3
        have f3 := O2.out.frozenAt (A * 4 + 3)
        have ST := (O2.out.stored (A * 4 + 3) (.int .i64 (r + ch))).1
        rw [ivCsM_root xs A _ (by rw [← HN.out]; exact hAn), HR.out, show xs.set A ⟨(ivAt xs A).two, (ivAt xs A).three, (ivAt xs A).five, (ivAt xs A).root + ch⟩ = ys from HY.out.symm, ← HR.out] at ST
        have O3 := Lib.hid ST
        have B3 := Lib.hid (B2.out.setCell (p := ⟨g, A * 4 + 3, none⟩) HG0.out (.int .i64 (r + ch)))
        clear ST O2 B2
        go_upto_region 5 with fail
        obtain ⟨W4, hW4⟩ : ∃ W, W = w2.setCell ⟨g, A * 4 + 3, none⟩ (.int .i64 (r + ch)) := ⟨_, rfl⟩
        rw [← hW4] at O3 B3 ⊢
        have PY := Lib.hid (planOk_spec W4 _ _ _ ys (by have := HYL.out; omega) (by rw [HYL.out]; exact O3.out))
        rw [HZ.out] at PY
        clear hW4 x3 f3
        go_wp2_with fail
        refine PY.out.mono ?_
        rintro e1 w5 ⟨rfl, b5⟩
        have O5 := Lib.hid (own4_below O3.out b5)
        have B5 := Lib.hid (B3.out.trans (b5.mono B3.out.size))
        clear b5 O3 B3 PY
        cases z
        · have R := Lib.hid (mis_no (xs := xs) (a := (A : Int)) (ch := ch) (fun q => by have := q.2; rw [MA.out.2] at this; exact of_decide_eq_false HZ.out this))
          go_wp2_with fail
          refine (CC.out _ B5.out).mono ?_
          rintro e1 w6 ⟨v6, rfl, o6, b6⟩
          go_wp2_with fail
          go_ret2
          exact ⟨v6, ret_pair R.out.2, by rw [R.out.1]; exact ownM_base o6 B5.out.size, B5.out.trans (b6.mono B5.out.size)⟩
        · have R := Lib.hid (mis_yes (xs := xs) (a := (A : Int)) (ch := ch) ⟨MA.out.1, by rw [MA.out.2]; exact of_decide_eq_true HZ.out⟩)
          go_wp2_with fail
          go_ret2
          exact ⟨_, ret_pair R.out.2, by rw [R.out.1, MA.out.2, HYL.out]; exact O5.out, B5.out⟩
      · have H2 := Lib.hid (decide_eq_false h2)
        have R := Lib.hid (mis_no (xs := xs) (a := a) (ch := ch) (fun q => h2 q.1.2))
        clear h1 h2 hp hn
        go_enter Try.func25, Try.ntmps25
        go_wp2_with fail
        refine (CC.out _ (Below.refl _ _)).mono ?_
        rintro e1 w1 ⟨v1, rfl, o1, b1⟩
        have B1 := Lib.hid b1
        have O1 := Lib.hid o1
        clear o1 b1
        go_wp2_with fail
        refine (PK.out _ B1.out).mono ?_
        rintro e1 w2 ⟨rfl, b2⟩
        go_wp2_with fail
        refine (in_at H1.out _).mono ?_
        rintro e1 w3 ⟨rfl, rfl⟩
        go_wp2_with fail
        refine (in_at H2.out _).mono ?_
        rintro e1 w3 ⟨rfl, rfl⟩
        go_wp2_with fail
        go_ret2
        exact ⟨v1, ret_pair R.out.2, by rw [R.out.1]; exact own4_below O1.out b2, B1.out.trans (b2.mono B1.out.size)⟩
    · have H1 := Lib.hid (decide_eq_false h1)
      have R := Lib.hid (mis_no (xs := xs) (a := a) (ch := ch) (fun q => h1 ⟨q.1.1.2.1, by have := q.1.1.2.2; omega⟩))
      clear h1 hp hn
      go_enter Try.func25, Try.ntmps25
      go_wp2_with fail
      refine (CC.out _ (Below.refl _ _)).mono ?_
      rintro e1 w1 ⟨v1, rfl, o1, b1⟩
      have B1 := Lib.hid b1
      have O1 := Lib.hid o1
      clear o1 b1
      go_wp2_with fail
      refine (PK.out _ B1.out).mono ?_
      rintro e1 w2 ⟨rfl, b2⟩
      go_wp2_with fail
      refine (in_at H1.out _).mono ?_
      rintro e1 w3 ⟨rfl, rfl⟩
      go_wp2_with fail
      go_ret2
      exact ⟨v1, ret_pair R.out.2, by rw [R.out.1]; exact own4_below O1.out b2, B1.out.trans (b2.mono B1.out.size)⟩
  · rw [show planB xs = false from decide_eq_false hp] at PK
    have R := Lib.hid (mis_no (xs := xs) (a := a) (ch := ch) (fun q => hp q.1.1.1))
    clear h hp
    go_enter Try.func25, Try.ntmps25
    go_wp2_with fail
    refine (CC.out _ (Below.refl _ _)).mono ?_
    rintro e1 w1 ⟨v1, rfl, o1, b1⟩
    have B1 := Lib.hid b1
    have O1 := Lib.hid o1
    clear o1 b1
    go_wp2_with fail
    refine (PK.out _ B1.out).mono ?_
    rintro e1 w2 ⟨rfl, b2⟩
    go_wp2_with fail
    go_ret2
    exact ⟨v1, ret_pair R.out.2, by rw [R.out.1]; exact own4_below O1.out b2, B1.out.trans (b2.mono B1.out.size)⟩
end Go.Proofs.Ytbklnlmijkclmaa
