/- Rows of ints that begin anywhere in their block: what is read, written and compared. Written by off.py. -/
import Derived.Test.YtppbcjpabmllnaaScRows
import Derived.Test.YtppbcjpabmllnaaSameInts
import Derived.Test.YtppbcjpabmllnaaMarkOwn
import Derived.Test.YtppbcjpabmllnaaModeMath
namespace Go.Proofs.Ytppbcjpabmllnaa
open Go.RowKit Go.Joins
set_option linter.unusedVariables false
/-- A row of ints, from the place o of its block on. -/
def OffI (w : World) (B : Nat) (v : Value) (n : Nat) (xs : List Int) : Prop :=
  xs.length = n ∧ ((n = 0 ∧ v = .slice none 0 0) ∨ ∃ g o c, v = .slice (some ⟨g, o, none⟩) n c ∧ (B ≤ g ∧ g < w.heap.size) ∧ (∀ j, j < n → w.cell? ⟨g, o + j, none⟩ = some (.int .i64 (xs.getD j 0))) ∧ ∀ j, w.frozen? ⟨g, j, none⟩ = false)
theorem off_own {w : World} {B : Nat} {e : TypeId} {v : Value} {n : Nat} {xs : List Int} (h : w.ownsRow B e 1 v n (intCs xs)) : OffI w B v n xs := by
  refine ⟨by have := h.1; rw [intCs_len] at this; omega, ?_⟩
  rcases own_shape h with ⟨hv, h0⟩ | ⟨g, cap, hv, hb, hg⟩
  · exact .inl ⟨h0, hv⟩
  · subst hv
    exact .inr ⟨g, 0, cap, rfl, ⟨hb, hg⟩, fun j hj => by rw [Nat.zero_add]; exact own_icell h j hj, fun j => h.frozenAt j⟩
theorem off_below {w w' : World} {B : Nat} {v : Value} {n : Nat} {xs : List Int} (h : OffI w B v n xs) (hb : Below w.heap.size w w') : OffI w' B v n xs := by
  refine ⟨h.1, ?_⟩
  rcases h.2 with h0 | ⟨g, o, c, hv, hg, hc, hf⟩
  · exact .inl h0
  · exact .inr ⟨g, o, c, hv, ⟨hg.1, Nat.lt_of_lt_of_le hg.2 hb.size⟩, fun j hj => (hb.cell (p := ⟨g, o + j, none⟩) hg.2).trans (hc j hj), fun j => (hb.frozen (p := ⟨g, j, none⟩) hg.2).trans (hf j)⟩
theorem off_base {w : World} {B B' : Nat} {v : Value} {n : Nat} {xs : List Int} (h : OffI w B' v n xs) (hb : B ≤ B') : OffI w B v n xs := by
  refine ⟨h.1, ?_⟩
  rcases h.2 with h0 | ⟨g, o, c, hv, hg, h3⟩
  · exact .inl h0
  · exact .inr ⟨g, o, c, hv, ⟨Nat.le_trans hb hg.1, hg.2⟩, h3⟩
theorem off_slice {w : World} {B : Nat} {v : Value} {n : Nat} {xs : List Int} (h : OffI w B v n xs) : ∃ p c, v = .slice p n c := by
  rcases h.2 with ⟨h0, hv⟩ | ⟨g, o, c, hv, _⟩
  · exact ⟨_, _, by rw [hv, h0]⟩
  · exact ⟨_, _, hv⟩
theorem off_zero {w : World} {B : Nat} {v : Value} {n : Nat} {xs : List Int} (h : OffI w B v n xs) (h0 : n = 0) : ∃ p c, v = .slice p 0 c := by
  obtain ⟨p, c, hv⟩ := off_slice h
  exact ⟨p, c, by rw [hv, h0]⟩
theorem off_pos {w : World} {B : Nat} {v : Value} {n : Nat} {xs : List Int} (h : OffI w B v n xs) (h0 : 0 < n) : ∃ g o c, v = .slice (some ⟨g, o, none⟩) n c ∧ B ≤ g ∧ g < w.heap.size := by
  rcases h.2 with ⟨h1, _⟩ | ⟨g, o, c, hv, hg, _⟩
  · omega
  · exact ⟨g, o, c, hv, hg⟩
theorem off_get {w : World} {B g o n c : Nat} {xs : List Int} (h : OffI w B (.slice (some ⟨g, o, none⟩) n c) n xs) : (B ≤ g ∧ g < w.heap.size) ∧ (∀ j, j < n → w.cell? ⟨g, o + j, none⟩ = some (.int .i64 (xs.getD j 0))) ∧ ∀ j, w.frozen? ⟨g, j, none⟩ = false := by
  rcases h.2 with ⟨_, hv⟩ | ⟨g', o', c', hv, h3⟩
  · simp at hv
  · simp only [Value.slice.injEq, Option.some.injEq, Addr.mk.injEq, and_true, true_and] at hv
    obtain ⟨⟨rfl, rfl⟩, rfl⟩ := hv
    exact h3
theorem off_icell {w : World} {B g o n c : Nat} {xs : List Int} (h : OffI w B (.slice (some ⟨g, o, none⟩) n c) n xs) (j : Nat) (hj : j < n) : w.cell? ⟨g, o + j, none⟩ = some (.int .i64 (xs.getD j 0)) := (off_get h).2.1 j hj
theorem off_frozen {w : World} {B g o n c : Nat} {xs : List Int} (h : OffI w B (.slice (some ⟨g, o, none⟩) n c) n xs) (j : Nat) : w.frozen? ⟨g, j, none⟩ = false := (off_get h).2.2 j
theorem off_lt {w : World} {B : Nat} {v : Value} {n g : Nat} {xs : List Int} (h : OffI w B v n xs) (hg : v.ownBlock = some g) : B ≤ g ∧ g < w.heap.size := by
  rcases h.2 with ⟨_, hv⟩ | ⟨g', o', c', hv, h3, _⟩
  · rw [hv] at hg; cases hg
  · rw [hv] at hg; cases hg; exact h3
theorem off_eq {w : World} {B : Nat} {v : Value} {n : Nat} {xs ys : List Int} (h : OffI w B v n xs) (hx : xs = ys) (hn : n = ys.length) : OffI w B v ys.length ys := by subst hx; subst hn; exact h
theorem off_grown {w w' : World} {B : Nat} {v : Value} {n : Nat} {xs : List Int} {r : Option Nat} (h : OffI w B v n xs) (hg : w.grownBy w' r) (hr : ∀ g, v.ownBlock = some g → r ≠ some g) : OffI w' B v n xs := by
  refine ⟨h.1, ?_⟩
  rcases h.2 with h0 | ⟨g, o, c, hv, hb, hc, hf⟩
  · exact .inl h0
  · have e := hg.block g hb.2 (fun e => hr g (by rw [hv]; rfl) e.symm)
    exact .inr ⟨g, o, c, hv, ⟨hb.1, Nat.lt_of_lt_of_le hb.2 hg.size⟩, fun j hj => (World.cell?_of_block (w := w) (a := ⟨g, o + j, none⟩) e).trans (hc j hj), fun j => (World.frozen?_of_block (w := w) (a := ⟨g, j, none⟩) e).trans (hf j)⟩
theorem getD_setI {xs : List Int} {i j : Nat} {x : Int} (h : i < xs.length) : (xs.set i x).getD j 0 = if i = j then x else xs.getD j 0 := by
  rw [List.getD_eq_getElem?_getD, List.getElem?_set, List.getD_eq_getElem?_getD]
  by_cases e : i = j
  · rw [if_pos e, if_pos e, if_pos h]; rfl
  · rw [if_neg e, if_neg e]
theorem off_put {w : World} {B g o n c : Nat} {xs : List Int} (h : OffI w B (.slice (some ⟨g, o, none⟩) n c) n xs) {j : Nat} (hj : j < n) (x : Int) : OffI (w.setCell ⟨g, o + j, none⟩ (.int .i64 x)) B (.slice (some ⟨g, o, none⟩) n c) n (xs.set j x) := by
  obtain ⟨hg, hc, hf⟩ := off_get h
  refine ⟨by rw [List.length_set]; exact h.1, .inr ⟨g, o, c, rfl, ⟨hg.1, by simpa using hg.2⟩, fun i hi => ?_, fun i => by rw [World.frozen?_setCell]; exact hf i⟩⟩
  rw [getD_setI (by rw [h.1]; exact hj)]
  by_cases e : j = i
  · subst e
    rw [if_pos rfl]
    simp [go_sem, hc j hj]
  · rw [if_neg e, World.cell?_setCell_other _ _ _ _ (fun q => by injection q; omega)]
    exact hc i hi
set_option maxHeartbeats 400000 in
theorem eqInts_off (w : World) (b1 b2 : Nat) (v1 v2 : Value) (xs ys : List Int) (hx : xs.length ≤ 2000000) (hy : ys.length ≤ 2000000) (h1 : OffI w b1 v1 xs.length xs) (h2 : OffI w b2 v2 ys.length ys) :
    Calls Try.prog 18 #[v1, v2] w fun e w' => e = .returned (.bool (decide (xs = ys))) ∧ Below w.heap.size w w' := by
  obtain ⟨n, hn⟩ : ∃ n, n = xs.length := ⟨_, rfl⟩
  obtain ⟨m, hm⟩ : ∃ m, m = ys.length := ⟨_, rfl⟩
  rw [← hn] at h1 hx
  rw [← hm] at h2 hy
  have HN := Lib.hid hn
  have HM := Lib.hid hm
  clear hn hm
  by_cases hne : n = m
  · subst hne
    rcases Nat.eq_zero_or_pos n with h0 | h0
    · obtain ⟨p1, c1, rfl⟩ := off_zero h1 h0
      obtain ⟨p2, c2, rfl⟩ := off_zero h2 h0
      have R : xs = ys := by rw [List.eq_nil_of_length_eq_zero (HN.out.symm.trans h0), List.eq_nil_of_length_eq_zero (HM.out.symm.trans h0)]
      have HR := Lib.hid R
      clear h1 h2 h0 R
      go_enter Try.func18, Try.ntmps18
      go_wp2
      refine wp_loop_rounds 1 ?_
      rw [rounds_succ]
      go_wp2
      go_ret
      exact ⟨ret_bool (decide_eq_true HR.out).symm, Below.refl _ _⟩
    · obtain ⟨g1, o1, c1, rfl, _, _⟩ := off_pos h1 h0
      obtain ⟨g2, o2, c2, rfl, _, _⟩ := off_pos h2 h0
      have t0 : ((n : Int) != (n : Int)) = false := by simp
      go_enter Try.func18, Try.ntmps18
      go_wp2
      go_loopw [5] (fun i wr => ∃ k d : Nat, k ≤ n ∧ i = .int .i64 k ∧ (∀ j, j < k → xs.getD j 0 = ys.getD j 0) ∧ wr = w.drewN d) (fun i _ => n - (intOf i).toNat)
      case atStart => exact ⟨0, 0, Nat.zero_le _, rfl, fun j hj => by omega, rfl⟩
      case round =>
        obtain ⟨k, d, hk, rfl, hall, rfl⟩ := hrel
        have HA := Lib.hid hall
        clear hall
        by_cases hlt : k < n
        · have q1 := off_icell h1 k hlt
          have q2 := off_icell h2 k hlt
          have q3 : (k : Int) < n := by omega
          obtain ⟨x, hxk⟩ : ∃ x, x = xs.getD k 0 := ⟨_, rfl⟩
          obtain ⟨y, hyk⟩ : ∃ y, y = ys.getD k 0 := ⟨_, rfl⟩
          rw [← hxk] at q1
          rw [← hyk] at q2
          have HX := Lib.hid hxk
          have HY := Lib.hid hyk
          clear hxk hyk
          by_cases hxy : x = y
          · have t1 : (x != y) = false := by simp [hxy]
            have HXY := Lib.hid hxy
            clear hxy
            go_wp2_with fail
            go_quiet (fail)
            go_wp2_with fail
            go_roundw
            case rel => exact ⟨k + 1, _, by omega, by go_num, fun j hj => by rcases (show j < k ∨ j = k from by omega) with h | h; exact HA.out j h; rw [h, ← HX.out, ← HY.out]; exact HXY.out, rfl⟩
            case measure => simp [intOf]; omega
          · have t1 : (x != y) = true := by simp [hxy]
            have HXY := Lib.hid hxy
            clear hxy
            go_wp2_with fail
            go_quiet (fail)
            go_wp2_with fail
            go_ret
            exact ⟨ret_bool (decide_eq_false (fun h => HXY.out (by rw [HX.out, HY.out, h]))).symm, ⟨rfl, rfl, rfl, Nat.le_refl _, fun _ _ => rfl⟩⟩
        · have q3 : ¬ (k : Int) < n := by omega
          have hkn : k = n := by omega
          go_wp2_with fail
          go_ret
          exact ⟨ret_bool (decide_eq_true (ext_getD (HN.out.symm.trans HM.out) (fun j hj => HA.out j (by have := HN.out; omega)))).symm, ⟨rfl, rfl, rfl, Nat.le_refl _, fun _ _ => rfl⟩⟩
  · have s1 := off_slice h1
    have s2 := off_slice h2
    obtain ⟨p1, c1, rfl⟩ := s1
    obtain ⟨p2, c2, rfl⟩ := s2
    have t0 : ((n : Int) != (m : Int)) = true := by simp; omega
    have HR := Lib.hid hne
    clear h1 h2 hne
    go_enter Try.func18, Try.ntmps18
    go_wp2
    go_ret
    exact ⟨ret_bool (decide_eq_false (fun h => HR.out (by rw [HN.out, HM.out, h]))).symm, Below.refl _ _⟩
theorem marksI_put (k0 j : Nat) (xs : List Int) (h : j < xs.length) : (marksI k0 j ++ xs.drop j).set j ((k0 + j : Nat) : Int) = marksI k0 (j + 1) ++ xs.drop (j + 1) := by
  have e1 : xs.drop j = xs[j] :: xs.drop (j + 1) := List.drop_eq_getElem_cons h
  have e2 : marksI k0 (j + 1) = marksI k0 j ++ [((k0 + j : Nat) : Int)] := by simp [marksI, List.range_succ]
  rw [e1, e2, List.set_append_right _ _ (by rw [marksI_len]; exact Nat.le_refl _), marksI_len, Nat.sub_self, List.set_cons_zero, List.append_assoc]
  rfl
set_option maxHeartbeats 400000 in
theorem markInts_off (w : World) (base k0 : Nat) (v : Value) (n : Nat) (xs : List Int) (hn' : n ≤ 2000000) (hk1 : k0 ≤ 1000000) (h : OffI w base v n xs) :
    Calls Try.prog 19 #[v, .int .i64 k0] w fun en w' => en = .returned (.int .i64 ((k0 : Int) + n)) ∧ OffI w' base v n (marksI k0 n) ∧ w.grownBy w' v.ownBlock := by
  have hn : xs.length = n := h.1
  have HN := Lib.hid hn
  clear hn
  rcases Nat.eq_zero_or_pos n with h0 | h0
  · obtain ⟨p1, c1, rfl⟩ := off_zero h h0
    subst h0
    have hx : xs = [] := List.eq_nil_of_length_eq_zero HN.out
    subst hx
    have HH := Lib.hid h
    clear h
    go_enter Try.func19, Try.ntmps19
    go_wp2
    refine wp_loop_rounds 1 ?_
    rw [rounds_succ]
    go_wp2
    go_ret
    exact ⟨ret_int (by omega), HH.out, World.grownBy.refl _ _⟩
  · obtain ⟨g, o, c, rfl, hg, hgl⟩ := off_pos h h0
    go_enter Try.func19, Try.ntmps19
    go_wp2
    go_loopw [1, 5] (fun k i wr => ∃ j z : Nat, j ≤ n ∧ z = k0 + j ∧ i = .int .i64 j ∧ k = .int .i64 z ∧ OffI wr base (.slice (some ⟨g, o, none⟩) n c) n (marksI k0 j ++ xs.drop j) ∧ w.grownBy wr (some g)) (fun _ i _ => n - (intOf i).toNat)
    case atStart => exact ⟨0, k0, Nat.zero_le _, rfl, rfl, rfl, by simpa [marksI] using h, World.grownBy.refl _ _⟩
    case round =>
      obtain ⟨j, z, hj, hz, rfl, rfl, hown, hb⟩ := hrel
      clear h
      by_cases hlt : j < n
      · have q3 : (j : Int) < n := by omega
        have hl : j < xs.length := by have := HN.out; omega
        have q1 := off_icell hown j hlt
        have q2 := off_frozen hown (o + j)
        have R1 := off_put hown hlt ((k0 + j : Nat) : Int)
        rw [marksI_put k0 j xs hl] at R1
        have R2 : w.grownBy (wr.setCell ⟨g, o + j, none⟩ (.int .i64 ((k0 + j : Nat) : Int))) (some g) := grownI_set hb _ _
        generalize (marksI k0 j ++ xs.drop j).getD j 0 = y at q1
        have hz2 : z ≤ 3000000 := by omega
        rw [← hz] at R1 R2
        have HZ := Lib.hid hz
        clear hown hb hl hz
        go_wp2
        go_roundw
        case rel => exact ⟨j + 1, z + 1, by omega, by have := HZ.out; omega, by go_num, by go_num, R1, R2⟩
        case measure => simp [intOf]; omega
      · have q3 : ¬ (j : Int) < n := by omega
        obtain rfl : j = n := by omega
        go_wp2
        go_ret
        refine ⟨ret_int (by omega), ?_, hb⟩
        rwa [List.drop_of_length_le (by have := HN.out; omega), List.append_nil] at hown
set_option maxHeartbeats 400000 in
theorem heldInts_off (w : World) (base k0 : Nat) (v : Value) (n : Nat) (hn' : n ≤ 2000000) (hk1 : k0 ≤ 1000000) (h : OffI w base v n (marksI k0 n)) :
    Calls Try.prog 20 #[v, .int .i64 k0] w fun en w' => en = .returned (.int .i64 ((k0 : Int) + n)) ∧ Below w.heap.size w w' := by
  rcases Nat.eq_zero_or_pos n with h0 | h0
  · obtain ⟨p1, c1, rfl⟩ := off_zero h h0
    subst h0
    clear h
    go_enter Try.func20, Try.ntmps20
    go_wp2
    refine wp_loop_rounds 1 ?_
    rw [rounds_succ]
    go_wp2
    go_ret
    exact ⟨ret_int (by omega), Below.refl _ _⟩
  · obtain ⟨g, o, c, rfl, hg, hgl⟩ := off_pos h h0
    go_enter Try.func20, Try.ntmps20
    go_wp2
    go_loopw [1, 5] (fun k i wr => ∃ j z : Nat, j ≤ n ∧ z = k0 + j ∧ i = .int .i64 j ∧ k = .int .i64 z ∧ wr = w) (fun _ i _ => n - (intOf i).toNat)
    case atStart => exact ⟨0, k0, Nat.zero_le _, rfl, rfl, rfl, by trivial⟩
    case round =>
      obtain ⟨j, z, hj, hz, rfl, rfl, rfl⟩ := hrel
      by_cases hlt : j < n
      · have q3 : (j : Int) < n := by omega
        have q1 := off_icell h j hlt
        rw [marksI_get k0 n j hlt] at q1
        have hz2 : z ≤ 3000000 := by omega
        rw [← hz] at q1
        have HZ := Lib.hid hz
        clear hz
        have t1 : ((z : Int) != (z : Int)) = false := by simp
        clear h
        go_wp2
        go_roundw
        case rel => exact ⟨j + 1, z + 1, by omega, by have := HZ.out; omega, by go_num, by go_num, by trivial⟩
        case measure => simp [intOf]; omega
      · have q3 : ¬ (j : Int) < n := by omega
        obtain rfl : j = n := by omega
        go_wp2
        go_ret
        exact ⟨ret_int (by omega), Below.refl _ _⟩
theorem eqSc_off (w : World) (b1 b2 : Nat) (v1 v2 : Value) (xs ys : List Int) (hx : xs.length ≤ 2000000) (hy : ys.length ≤ 2000000) (h1 : OffI w b1 v1 xs.length xs) (h2 : OffI w b2 v2 ys.length ys) :
    Calls Try.prog 22 #[cirV v1, cirV v2] w fun e w' => e = .returned (.bool (decide (xs = ys))) ∧ Below w.heap.size w w' := by
  have H1 := Lib.hid h1
  have H2 := Lib.hid h2
  clear h1 h2
  have B2 := below_alloc2 w (.cells #[v1] 26) (.cells #[v2] 26)
  have C := eqInts_off _ _ _ v1 v2 xs ys hx hy (off_below H1.out B2) (off_below H2.out B2)
  by_cases hxy : xs = ys
  · rw [decide_eq_true hxy] at C ⊢
    clear hxy hx hy H1 H2
    go_enter Try.func22, Try.ntmps22
    go_wp2_with fail
    refine C.mono ?_
    rintro e w1 ⟨rfl, b1⟩
    go_wp2_with fail
    go_ret
    exact ⟨rfl, B2.trans (b1.mono (by simp; omega))⟩
  · rw [decide_eq_false hxy] at C ⊢
    clear hxy hx hy H1 H2
    go_enter Try.func22, Try.ntmps22
    go_wp2_with fail
    refine C.mono ?_
    rintro e w1 ⟨rfl, b1⟩
    go_wp2_with fail
    go_ret
    exact ⟨rfl, B2.trans (b1.mono (by simp; omega))⟩
theorem markSc_off (w : World) (base k0 : Nat) (v : Value) (n : Nat) (xs : List Int) (hn' : n ≤ 2000000) (hk1 : k0 ≤ 1000000) (h : OffI w base v n xs) :
    Calls Try.prog 23 #[cirV v, .int .i64 k0] w fun en w' => en = .returned (.int .i64 ((k0 : Int) + n)) ∧ OffI w' base v n (marksI k0 n) ∧ w.grownBy w' v.ownBlock := by
  have H1 := Lib.hid h
  clear h
  go_enter Try.func23, Try.ntmps23
  go_wp2_with fail
  refine (markInts_off _ base k0 v n xs hn' hk1 (off_below H1.out (below_alloc1 w _))).mono ?_
  rintro en w1 ⟨rfl, o1, g1⟩
  have O1 := Lib.hid o1
  have G1 := Lib.hid ((grown_row (below_alloc1 w (.cells #[v] 26)) v.ownBlock).trans g1)
  clear o1 g1
  go_wp2_with fail
  go_ret
  exact ⟨rfl, O1.out, G1.out⟩
theorem heldSc_off (w : World) (base k0 : Nat) (v : Value) (n : Nat) (hn' : n ≤ 2000000) (hk1 : k0 ≤ 1000000) (h : OffI w base v n (marksI k0 n)) :
    Calls Try.prog 24 #[cirV v, .int .i64 k0] w fun en w' => en = .returned (.int .i64 ((k0 : Int) + n)) ∧ Below w.heap.size w w' := by
  have H1 := Lib.hid h
  clear h
  go_enter Try.func24, Try.ntmps24
  go_wp2_with fail
  refine (heldInts_off _ base k0 v n hn' hk1 (off_below H1.out (below_alloc1 w _))).mono ?_
  rintro en w1 ⟨rfl, b1⟩
  have B1 := Lib.hid ((below_alloc1 w (.cells #[v] 26)).trans (b1.mono (by simp)))
  have t1 : ¬ ((k0 : Int) + n) < 0 := by omega
  clear b1
  go_wp2_with fail
  go_ret
  exact ⟨rfl, B1.out⟩
/-- eqScale of two equal rows. -/
theorem calls_eqScO {W w : World} {b1 b2 : Nat} {v1 v2 : Value} {xs : List Int} (h : Below W.heap.size W w) (hl : xs.length ≤ 2000000) (h1 : OffI W b1 v1 xs.length xs) (h2 : OffI w b2 v2 xs.length xs) :
    Calls Try.prog 22 #[cirV v1, cirV v2] w fun e w' => e = .returned (.bool true) ∧ Below W.heap.size W w' := by
  have C := eqSc_off w b1 b2 v1 v2 xs xs hl hl (off_below h1 h) h2
  rw [decide_eq_true (rfl : xs = xs)] at C
  exact C.mono fun e w' ⟨he, b⟩ => ⟨he, h.trans (b.mono h.size)⟩
set_option maxHeartbeats 400000 in
theorem areWithin_off (w : World) (g o cap n : Nat) (xs : List Int) (lo hi : Int) (hn : n ≤ 2000000) (hc : ∀ j, j < n → w.cell? ⟨g, o + j, none⟩ = some (.int .i64 (xs.getD j 0))) :
    Calls Try.prog 46 #[.slice (some ⟨g, o, none⟩) n cap, .int .i64 lo, .int .i64 hi] w fun e w' => e = .returned (.bool (decide (InTo xs lo hi n))) ∧ w = w' := by
  have HC := Lib.hid hc
  clear hc
  obtain ⟨y, hy⟩ : ∃ y, y = decide (InTo xs lo hi n) := ⟨_, rfl⟩
  rw [← hy]
  have HY := Lib.hid hy
  clear hy
  go_enter Try.func46, Try.ntmps46
  go_wp2
  go_loopw [11] (fun i wr => ∃ k : Nat, k ≤ n ∧ Hid (InTo xs lo hi k) ∧ i = .int .i64 k ∧ wr = w) (fun i _ => n - (intOf i).toNat)
  case atStart => exact ⟨0, Nat.zero_le _, Lib.hid (fun j hj => by omega), rfl, rfl⟩
  case round =>
    obtain ⟨k, hk, HA, rfl, hwr⟩ := hrel
    have hwr2 := hwr.symm
    clear hwr
    subst hwr2
    by_cases hlt : k < n
    · have q1 := HC.out k hlt
      have q3 : (k : Int) < n := by omega
      obtain ⟨x, hxk⟩ : ∃ x, x = xs.getD k 0 := ⟨_, rfl⟩
      rw [← hxk] at q1
      have HX := Lib.hid hxk
      have HLT := Lib.hid hlt
      clear hxk hlt
      by_cases t1 : x < lo
      · have R := Lib.hid (show y = false from by rw [HY.out]; exact decide_eq_false (fun q => by have := (q k HLT.out).1; rw [← HX.out] at this; omega))
        go_wp2_with fail
        go_ret
        exact ⟨ret_bool R.out.symm, by trivial⟩
      · by_cases t2 : hi < x
        · have R := Lib.hid (show y = false from by rw [HY.out]; exact decide_eq_false (fun q => by have := (q k HLT.out).2; rw [← HX.out] at this; omega))
          go_wp2_with fail
          go_ret
          exact ⟨ret_bool R.out.symm, by trivial⟩
        · have HI := Lib.hid (show lo ≤ x ∧ x ≤ hi from by omega)
          go_wp2_with fail
          go_roundw
          case rel => exact ⟨k + 1, HLT.out, Lib.hid (fun j hj => (show j < k ∨ j = k from by omega).elim (HA.out j) (fun h => by rw [h, ← HX.out]; exact HI.out)), by go_num, by trivial⟩
          case measure => simp [intOf]; omega
    · have q3 : ¬ (k : Int) < n := by omega
      obtain rfl : k = n := by omega
      have R := Lib.hid (show y = true from by rw [HY.out]; exact decide_eq_true HA.out)
      go_wp2_with fail
      go_ret
      exact ⟨ret_bool R.out.symm, by trivial⟩
set_option maxHeartbeats 400000 in
theorem sumOf_off (w : World) (g o cap n : Nat) (xs : List Int) (hn : n ≤ 12) (hp : ∀ j, j < n → -1000 ≤ xs.getD j 0 ∧ xs.getD j 0 ≤ 1000) (hc : ∀ j, j < n → w.cell? ⟨g, o + j, none⟩ = some (.int .i64 (xs.getD j 0))) :
    Calls Try.prog 32 #[.slice (some ⟨g, o, none⟩) n cap] w fun e w' => e = .returned (.int .i64 (sumTo xs n)) ∧ w = w' := by
  have HC := Lib.hid hc
  have HP := Lib.hid hp
  clear hc hp
  go_enter Try.func32, Try.ntmps32
  go_wp2
  go_loopw [3, 8] (fun s i wr => ∃ (k : Nat) (S : Int), k ≤ n ∧ S = sumTo xs k ∧ i = .int .i64 k ∧ s = .int .i64 S ∧ wr = w) (fun _ i _ => n - (intOf i).toNat)
  case atStart => exact ⟨0, 0, Nat.zero_le _, rfl, rfl, rfl, rfl⟩
  case round =>
    obtain ⟨k, S, hk, hS, rfl, rfl, rfl⟩ := hrel
    have hb := sumTo_wide HP.out k hk
    rw [← hS] at hb
    have HS := Lib.hid hS
    clear hS
    by_cases hlt : k < n
    · have q1 := HC.out k hlt
      have q3 : (k : Int) < n := by omega
      have hx := HP.out k hlt
      obtain ⟨x, hxk⟩ : ∃ x, x = xs.getD k 0 := ⟨_, rfl⟩
      rw [← hxk] at q1 hx
      have HX := Lib.hid hxk
      clear hxk
      go_wp2_with fail
      go_roundw
      case rel => exact ⟨k + 1, S + x, by omega, by rw [HS.out, HX.out]; rfl, by go_num, by go_num, by trivial⟩
      case measure => simp [intOf]; omega
    · have q3 : ¬ (k : Int) < n := by omega
      obtain rfl : k = n := by omega
      go_wp2_with fail
      go_ret
      exact ⟨ret_int HS.out, by trivial⟩
/-- A scale's box and its sizes. -/
def ScBoxO (xs : List Int) (m q o n c : Nat) (w : World) : Prop := (m < w.heap.size ∧ q < w.heap.size) ∧ w.cell? ⟨m, 0, none⟩ = some (.slice (some ⟨q, o, none⟩) n c) ∧ ∀ j, j < n → w.cell? ⟨q, o + j, none⟩ = some (.int .i64 (xs.getD j 0))
theorem scBoxO_keep {xs : List Int} {m q o n c : Nat} {w w' : World} (h : ScBoxO xs m q o n c w) (hb : Below w.heap.size w w') : ScBoxO xs m q o n c w' :=
  ⟨⟨Nat.lt_of_lt_of_le h.1.1 hb.size, Nat.lt_of_lt_of_le h.1.2 hb.size⟩, (hb.cell h.1.1).trans h.2.1, fun j hj => (hb.cell (p := ⟨q, o + j, none⟩) h.1.2).trans (h.2.2 j hj)⟩
theorem scBoxO_cell {xs : List Int} {m q o n c : Nat} {w : World} (h : ScBoxO xs m q o n c w) : w.cell? ⟨m, 0, none⟩ = some (.slice (some ⟨q, o, none⟩) n c) := h.2.1
theorem scBoxO_new {xs : List Int} {w W0 : World} {b : Nat} {v : Value} {n : Nat} (hn : 0 < n) (h : OffI w b v n xs) (hW : W0 = w.alloc (.cells #[v] 26)) :
    ∃ q o c, v = .slice (some ⟨q, o, none⟩) n c ∧ ScBoxO xs w.heap.size q o n c W0 := by
  obtain ⟨q, o, c, rfl, _, hq⟩ := off_pos h hn
  refine ⟨q, o, c, rfl, ?_⟩
  subst hW
  have X0 := one_alloc (w := w) (v := .slice (some ⟨q, o, none⟩) n c) (t := 26)
  have B0 := below_alloc1 w (.cells #[.slice (some ⟨q, o, none⟩) n c] 26)
  exact ⟨⟨X0.1, Nat.lt_of_lt_of_le hq B0.size⟩, X0.2.1, fun j hj => (B0.cell (p := ⟨q, o + j, none⟩) hq).trans (off_icell h j hj)⟩
end Go.Proofs.Ytppbcjpabmllnaa
