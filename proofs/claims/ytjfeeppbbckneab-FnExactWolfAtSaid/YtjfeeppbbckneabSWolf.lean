/- Contracts of spec.WolfAt and spec.IsRegular. -/
import Derived.Test.YtjfeeppbbckneabClosMath
import Derived.Test.YtjfeeppbbckneabSThirds
import Derived.Test.YtjfeeppbbckneabTakeD
import Derived.Deep.RegionHeld3
namespace Go.Proofs.Ytjfeeppbbckneab
open Go.RowKit Go.Joins
set_option linter.unusedVariables false
/-- What the inner loop knows behind t parts. -/
def WSt (xs : List Int) (k t : Nat) (x o : Int) (z : Bool) : Prop := z = true ↔ (x ≠ o ∧ ∀ j, j < t → j = k ∨ xs.getD j 0 = o)
theorem wst_zero (xs : List Int) (k : Nat) (x o : Int) : WSt xs k 0 x o (x != o) := by unfold WSt; simp
theorem wst_no {xs : List Int} {k t : Nat} {x o : Int} (h : WSt xs k t x o false) : WSt xs k (t + 1) x o false :=
  ⟨fun q => (by cases q), fun q => h.2 ⟨q.1, fun j hj => q.2 j (by omega)⟩⟩
theorem wst_same {xs : List Int} {k : Nat} {x o : Int} (h : WSt xs k k x o true) : WSt xs k (k + 1) x o true :=
  ⟨fun _ => ⟨(h.1 rfl).1, fun j hj => (show j < k ∨ j = k from by omega).elim ((h.1 rfl).2 j) .inl⟩, fun _ => rfl⟩
theorem wst_cmp {xs : List Int} {k t : Nat} {x o u : Int} (h : WSt xs k t x o true) (ht : t ≠ k) (hu : u = xs.getD t 0) : WSt xs k (t + 1) x o (u == o) := by
  subst hu
  refine ⟨fun q => ⟨(h.1 rfl).1, fun j hj => (show j < t ∨ j = t from by omega).elim ((h.1 rfl).2 j) (fun e => .inr (by rw [e]; simpa using q))⟩, fun q => ?_⟩
  have := (q.2 t (by omega)).resolve_left ht
  simpa using this
theorem wst_end {xs : List Int} {k : Nat} {x o : Int} {z : Bool} (h : WSt xs k 12 x o z) (hx : x = xs.getD k 0) (ho : o = xs.getD ((k + 1) % 12) 0) : z = true ↔ WolfIs xs k := by
  subst hx; subst ho; exact h
set_option maxRecDepth 100000 in
set_option maxHeartbeats 8000000 in
theorem wolf_spec {xs : List Int} {y : Int} (hf : WolfTo xs y) (w : World) (b : Nat) (e : TypeId) (v : Value) (hl : xs.length ≤ 2000000) (h : w.ownsRow b e 1 v xs.length (intCs xs)) :
    Calls Try.prog 38 #[cirV v] w fun en w' => en = .returned (.int .i64 y) ∧ Below w.heap.size w w' := by
  have CO := Lib.hid (fun w (h : w.ownsRow b e 1 v xs.length (intCs xs)) => cirOk_spec w b e v xs hl h)
  have HH := Lib.hid h
  have HF := Lib.hid hf
  clear hf
  by_cases hc : CirOk xs
  · rw [show cirB xs = true from decide_eq_true hc] at CO
    obtain ⟨q, c, rfl, hq, _, _, hcl⟩ := cir_row h hc
    have HC := Lib.hid hc
    obtain ⟨W0, hW0⟩ : ∃ W0, W0 = w.alloc (.cells #[.slice (some ⟨q, 0, none⟩) 12 c] 26) := ⟨_, rfl⟩
    have B0 : Hid (Below w.heap.size w W0) := Lib.hid (by rw [hW0]; exact below_alloc1 w _)
    have X0 : One w.heap.size (.slice (some ⟨q, 0, none⟩) 12 c) W0 := by rw [hW0]; exact one_alloc
    have CX0 : Hid (CirBox xs w.heap.size q c W0) := Lib.hid ⟨⟨X0.1, Nat.lt_of_lt_of_le hq B0.out.size⟩, X0.2.1, fun j hj => (B0.out.cell (p := ⟨q, j, none⟩) hq).trans (hcl j hj)⟩
    have HH0 := Lib.hid (own_below HH.out B0.out)
    clear h hc hl hcl hq X0
    go_enter Try.func38, Try.ntmps38
    go_upto_region 1 with fail
    rw [← hW0]
    clear hW0
    generalize hm : w.heap.size = m at CX0 ⊢
    have HM := Lib.hid hm
    clear hm
    go_wp2_with fail
    go_loopw [3] (fun x wr => ∃ k : Nat, k ≤ 12 ∧ x = .int .i64 (k : Int) ∧ Hid (∀ j, j < k → ¬ WolfIs xs j) ∧ Hid (Below W0.heap.size W0 wr)) (fun x _ => 13 - (intOf x).toNat)
    case atStart => exact ⟨0, Nat.zero_le _, by go_num, Lib.hid (fun j hj => by omega), Lib.hid (Below.refl _ _)⟩
    case round =>
      obtain ⟨k, hk, rfl, HN, HB⟩ := hrel
      by_cases hlt : k < 12
      · have q3 : (k : Int) < 12 := by omega
        have hck := cirBox_cell (cirBox_keep CX0.out HB.out)
        have HK := Lib.hid hlt
        go_wp2_with fail
        refine (CO.out _ (own_below HH0.out HB.out)).mono ?_
        rintro e1 w2 ⟨rfl, b2⟩
        have B2 := Lib.hid (HB.out.trans (b2.mono HB.out.size))
        have CB := Lib.hid (cirBox_keep CX0.out B2.out)
        clear hck b2 HB
        obtain ⟨o, ho⟩ : ∃ o, o = xs.getD ((k + 1) % 12) 0 := ⟨_, rfl⟩
        obtain ⟨x, hx⟩ : ∃ x, x = xs.getD k 0 := ⟨_, rfl⟩
        have c0 := cirBox_cell CB.out
        have q1 : w2.cell? ⟨q, (k + 1) % 12, none⟩ = some (.int .i64 o) := (CB.out.2.2 _ (by omega)).trans (by rw [ho])
        have q2 : w2.cell? ⟨q, k, none⟩ = some (.int .i64 x) := (CB.out.2.2 _ hlt).trans (by rw [hx])
        have HO := Lib.hid ho
        have HX := Lib.hid hx
        have hl12 : (k + 1) % 12 < 12 := by omega
        clear ho hx hlt
        go_wp2_with fail
        go_loopw [5, 6] (fun s i wr => ∃ (t : Nat) (z : Bool), t ≤ 12 ∧ Hid (WSt xs k t x o z) ∧ s = .bool z ∧ i = .int .i64 (t : Int) ∧ wr = w2) (fun _ i _ => 12 - (intOf i).toNat)
        case atStart => exact ⟨0, (x != o), Nat.zero_le _, Lib.hid (wst_zero xs k x o), rfl, by go_num, rfl⟩
        case round =>
          obtain ⟨t, z, ht, HZ, rfl, rfl, hwr⟩ := hrel
          have hwr2 := hwr.symm
          clear hwr
          subst hwr2
          by_cases hlt : t < 12
          · have q4 : (t : Int) < 12 := by omega
            cases z
            · have HZ2 := Lib.hid (wst_no HZ.out)
              have HT := Lib.hid hlt
              go_wp2_with fail
              go_roundw
              case rel => exact ⟨t + 1, false, HT.out, HZ2, by first | trivial | rfl, by go_num, by first | trivial | rfl⟩
              case measure => simp [intOf]; omega
            · by_cases htk : t = k
              · subst htk
                have HZ2 := Lib.hid (wst_same HZ.out)
                have HT := Lib.hid hlt
                have t1 : ((t : Int) == (t : Int)) = true := by simp
                go_wp2_with fail
                go_roundw
                case rel => exact ⟨t + 1, true, HT.out, HZ2, by first | trivial | rfl, by go_num, by first | trivial | rfl⟩
                case measure => simp [intOf]; omega
              · obtain ⟨u, hu⟩ : ∃ u, u = xs.getD t 0 := ⟨_, rfl⟩
                have q5 : w2.cell? ⟨q, t, none⟩ = some (.int .i64 u) := (CB.out.2.2 _ hlt).trans (by rw [hu])
                have HZ2 := Lib.hid (wst_cmp HZ.out htk hu)
                have HT := Lib.hid hlt
                have t1 : ((t : Int) == (k : Int)) = false := by simp; omega
                clear hu htk
                go_wp2_with fail
                go_roundw
                case rel => exact ⟨t + 1, (u == o), HT.out, HZ2, by first | trivial | rfl, by go_num, by first | trivial | rfl⟩
                case measure => simp [intOf]; omega
          · have q4 : ¬ (t : Int) < 12 := by omega
            obtain rfl : t = 12 := by omega
            have HE := Lib.hid (wst_end HZ.out HX.out HO.out)
            cases z
            · have HNK := Lib.hid (fun h => Bool.noConfusion (HE.out.2 h) : ¬ WolfIs xs k)
              go_wp2_with fail
              go_roundw
              case rel => exact ⟨k + 1, HK.out, by go_num, Lib.hid (fun j hj => (show j < k ∨ j = k from by omega).elim (HN.out j) (fun h => by rw [h]; exact HNK.out)), B2⟩
              case measure => simp [intOf]; omega
            · have HY := Lib.hid (wolf_at HF.out HC.out HK.out (HE.out.1 rfl))
              have BB := Lib.hid (B0.out.trans (B2.out.mono B0.out.size))
              go_wp2_with fail
              go_ret
              exact ⟨ret_int HY.out.symm, BB.out⟩
      · have q3 : ¬ (k : Int) < 12 := by omega
        obtain rfl : k = 12 := by omega
        have HY := Lib.hid (wolf_no HF.out (fun _ => HN.out))
        have BB := Lib.hid (B0.out.trans (HB.out.mono B0.out.size))
        go_wp2_with fail
        go_ret
        exact ⟨ret_int HY.out.symm, BB.out⟩
  · rw [show cirB xs = false from decide_eq_false hc] at CO
    have HY := Lib.hid (wolf_no HF.out (fun q => absurd q hc))
    obtain ⟨p0, c0, rfl⟩ := own_slice h
    have X0 := Lib.hid (own_below h (below_alloc1 w (.cells #[.slice p0 xs.length c0] 26)))
    clear h hl hc
    generalize xs.length = n at CO X0 ⊢
    have B0 := Lib.hid (below_alloc1 w (.cells #[.slice p0 n c0] 26))
    obtain ⟨_, c1, _⟩ := one_alloc (w := w) (v := .slice p0 n c0) (t := 26)
    go_enter Try.func38, Try.ntmps38
    go_upto_region 1 with fail
    obtain ⟨W0, hW0⟩ : ∃ W0, W0 = w.alloc (.cells #[.slice p0 n c0] 26) := ⟨_, rfl⟩
    rw [← hW0] at X0 B0 c1 ⊢
    clear hW0
    go_wp2_with fail
    go_loopw [3] (fun x wr => x = .int .i64 0 ∧ wr = W0) (fun _ _ => 0)
    case atStart => exact ⟨rfl, rfl⟩
    case round =>
      obtain ⟨rfl, rfl⟩ := hrel
      go_wp2_with fail
      refine (CO.out _ X0.out).mono ?_
      rintro e1 w2 ⟨rfl, b2⟩
      have B2 := Lib.hid (B0.out.trans (b2.mono B0.out.size))
      go_wp2_with fail
      go_ret
      exact ⟨ret_int HY.out.symm, B2.out⟩
/-- What is called by IsRegular, behind a world that is named. -/
theorem one_w {w : World} {m : Nat} {v : Value} (h : One m v w) : w.cell? ⟨m, 0, none⟩ = some v := h.2.1
def CkSay (v : Value) (z : Bool) (W : World) : Prop := ∀ X, Below W.heap.size W X → Calls Try.prog 48 #[cirV v] X fun e w' => e = .returned (.bool z) ∧ Below W.heap.size W w'
theorem ck_run {v : Value} {z : Bool} {W : World} (h : CkSay v z W) (X : World) (hX : Below W.heap.size W X) : Calls Try.prog 48 #[cirV v] X fun e w' => e = .returned (.bool z) ∧ Below W.heap.size W w' := h X hX
def WkSay (v : Value) (k : Int) (W : World) : Prop := ∀ X, Below W.heap.size W X → Calls Try.prog 38 #[cirV v] X fun e w' => e = .returned (.int .i64 k) ∧ Below W.heap.size W w'
theorem wk_run {v : Value} {k : Int} {W : World} (h : WkSay v k W) (X : World) (hX : Below W.heap.size W X) : Calls Try.prog 38 #[cirV v] X fun e w' => e = .returned (.int .i64 k) ∧ Below W.heap.size W w' := h X hX
def SaSay (v u : Value) (z : Bool) (W' W : World) : Prop := ∀ X, Below W'.heap.size W' X → Calls Try.prog 60 #[v, u] X fun e w'' => e = .returned (.bool z) ∧ Below W.heap.size W w''
theorem sa_run {v u : Value} {z : Bool} {W' W : World} (h : SaSay v u z W' W) (X : World) (hX : Below W'.heap.size W' X) : Calls Try.prog 60 #[v, u] X fun e w'' => e = .returned (.bool z) ∧ Below W.heap.size W w'' := h X hX
def EoSay (v : Value) (z : Bool) (W : World) : Prop := ∀ X, Below W.heap.size W X → Calls Try.prog 61 #[] X fun e w' => ∃ u, e = .returned (cirV u) ∧ SaSay v u z w' W ∧ Below W.heap.size W w'
theorem eo_run {v : Value} {z : Bool} {W : World} (h : EoSay v z W) (X : World) (hX : Below W.heap.size W X) : Calls Try.prog 61 #[] X fun e w' => ∃ u, e = .returned (cirV u) ∧ SaSay v u z w' W ∧ Below W.heap.size W w' := h X hX
theorem eo_says {W : World} {v : Value} {xs : List Int} {b : Nat} {e : TypeId} (hl : xs.length ≤ 2000000) (h : W.ownsRow b e 1 v xs.length (intCs xs)) : EoSay v (decide (xs = List.replicate 12 1)) W := fun X hX => by
  refine (equal_spec X).mono ?_
  rintro e1 w1 ⟨u, rfl, o1, b1⟩
  refine ⟨u, rfl, fun Y hY => ?_, hX.trans (b1.mono hX.size)⟩
  have hXY : Below W.heap.size W Y := hX.trans ((b1.trans (hY.mono b1.size)).mono hX.size)
  have k := same15_any Y _ _ _ _ v u xs onesL hl (by decide) (own_below h hXY) (own_below o1 hY)
  rw [show onesL = List.replicate 12 1 from rfl] at k
  exact k.mono fun _ _ ⟨he, hb⟩ => ⟨he, hXY.trans (hb.mono hXY.size)⟩
set_option maxRecDepth 100000 in
theorem cir_field (v : Value) (w : World) : Sem.run Try.prog (Instr.field 26 (cirV v) 0) w = .ok v w := by
  first | rfl | simp [go_sem]
set_option maxRecDepth 100000 in
set_option maxHeartbeats 8000000 in
theorem regular_spec {xs : List Int} {y : Bool} (hf : RegTo xs y) (w : World) (b : Nat) (e : TypeId) (v : Value) (hl : xs.length ≤ 2000000) (h : w.ownsRow b e 1 v xs.length (intCs xs)) :
    Calls Try.prog 37 #[cirV v] w fun en w' => en = .returned (.bool y) ∧ Below w.heap.size w w' := by
  obtain ⟨W0, hW0⟩ : ∃ W0, W0 = w.alloc (.cells #[v] 26) := ⟨_, rfl⟩
  have b0 : Below w.heap.size w W0 := by rw [hW0]; exact below_alloc1 w _
  have B0 := Lib.hid b0
  have C0 : Hid (One w.heap.size v W0) := Lib.hid (by rw [hW0]; exact one_alloc)
  have hr := own_below h b0
  obtain ⟨k, hk⟩ := wolfTo_ex xs
  have CK : CkSay v (cirB xs) W0 := fun X hX => (cirOk_spec X b e v xs hl (own_below hr hX)).mono fun _ _ ⟨he, hb⟩ => ⟨he, hX.trans (hb.mono hX.size)⟩
  have WK : WkSay v k W0 := fun X hX => (wolf_spec hk X b e v hl (own_below hr hX)).mono fun _ _ ⟨he, hb⟩ => ⟨he, hX.trans (hb.mono hX.size)⟩
  have EO := eo_says hl hr
  obtain ⟨u, hu⟩ : ∃ u, u = decide (xs = List.replicate 12 1) := ⟨_, rfl⟩
  obtain ⟨p0, c0, hv⟩ := own_slice h
  generalize xs.length = n at hv
  clear h hl hr b0
  rw [← hu] at EO
  by_cases hc : CirOk xs
  · rw [show cirB xs = true from decide_eq_true hc] at CK
    have hy := reg_val hf hk hc
    rw [← hu] at hy
    clear hu hf
    by_cases h0 : 0 ≤ k
    · rw [decide_eq_true h0, Bool.true_or] at hy
      clear hk hc EO
      subst hy
      subst hv
      go_enter Try.func37, Try.ntmps37
      go_upto_region 1 with fail
      rw [← hW0]
      clear hW0
      obtain ⟨m, hm⟩ : ∃ m, m = w.heap.size := ⟨_, rfl⟩
      rw [← hm] at C0 ⊢
      clear hm
      have c0' := one_w C0.out
      refine wp_region_held_drew (S := (fun w' => w'.cell? ⟨m, 0, none⟩ = some (.slice p0 n c0))) (by kernel_rfl) ?_ (fun hHeld => ?_)
      · exact one_w (one_keep (Below.refl _ _).drew C0.out)
      refine takeD (i := 0) (d := (some 3)) (v := (cirV (.slice p0 n c0))) rfl rfl (by kernel_rfl) (by kernel_rfl) (by kernel_rfl) (fun _ _ _ h => h) (Or.inl ⟨by kernel_rfl, ?_⟩) (by assumption) ?_
      · intro wS hSw
        (try dsimp only at hSw)
        go_simp
      (try simp only [Act.put]); (try simp only [List.setIfInBounds_toArray]); (try simp only [List.set_cons_succ]); (try simp only [List.set_cons_zero])
      refine wpAnyH_ready (rs := [1]) (by kernel_rfl) (by simp) ?_
      refine AllReadyH.cons rfl (fun K hK => ?_) AllReadyH.nil
      go_simp
      refine (ck_run (W := W0) CK _ (by with_reducible first | assumption | exact (Below.refl _ _) | exact (Below.refl _ _).drew)).mono ?_
      rintro e1 w1 ⟨rfl, hb⟩
      go_wp2_with fail
      refine hK.out _ _ ?_ (fun hHeld => ?_)
      · exact one_w (one_keep hb C0.out)
      clear hK K
      (try simp only [Act.put]); (try simp only [List.setIfInBounds_toArray]); (try simp only [List.set_cons_succ]); (try simp only [List.set_cons_zero])
      refine takeD (i := 2) (d := (some 5)) (v := (.bool true)) rfl rfl (by kernel_rfl) (by kernel_rfl) (by kernel_rfl) (fun _ _ _ h => h) (Or.inl ⟨by kernel_rfl, ?_⟩) (by assumption) ?_
      · intro wS hSw
        (try dsimp only at hSw)
        go_simp
      (try simp only [Act.put]); (try simp only [List.setIfInBounds_toArray]); (try simp only [List.set_cons_succ]); (try simp only [List.set_cons_zero])
      refine takeD (i := 3) (d := (some 6)) (v := (cirV (.slice p0 n c0))) rfl rfl (by kernel_rfl) (by kernel_rfl) (by kernel_rfl) (fun _ _ _ h => h) (Or.inl ⟨by kernel_rfl, ?_⟩) (by assumption) ?_
      · intro wS hSw
        (try dsimp only at hSw)
        go_simp
      (try simp only [Act.put]); (try simp only [List.setIfInBounds_toArray]); (try simp only [List.set_cons_succ]); (try simp only [List.set_cons_zero])
      refine wpAnyH_ready (rs := [4]) (by kernel_rfl) (by simp) ?_
      refine AllReadyH.cons rfl (fun K hK => ?_) AllReadyH.nil
      go_simp
      refine (wk_run (W := W0) WK _ (by with_reducible first | assumption | exact (Below.refl _ _) | exact (Below.refl _ _).drew)).mono ?_
      rintro e1 w1 ⟨rfl, hb⟩
      go_wp2_with fail
      refine hK.out _ _ ?_ (fun hHeld => ?_)
      · exact one_w (one_keep hb C0.out)
      clear hK K
      (try simp only [Act.put]); (try simp only [List.setIfInBounds_toArray]); (try simp only [List.set_cons_succ]); (try simp only [List.set_cons_zero])
      refine takeD (i := 5) (d := (some 8)) (v := (.bool true)) rfl rfl (by kernel_rfl) (by kernel_rfl) (by kernel_rfl) (fun _ _ _ h => h) (Or.inl ⟨by kernel_rfl, ?_⟩) (by assumption) ?_
      · intro wS hSw
        (try dsimp only at hSw)
        go_simp
        first | done | (simp; done) | (simp; omega)
      (try simp only [Act.put]); (try simp only [List.setIfInBounds_toArray]); (try simp only [List.set_cons_succ]); (try simp only [List.set_cons_zero])
      refine takeD (i := 6) (d := (some 9)) (v := (.bool true)) rfl rfl (by kernel_rfl) (by kernel_rfl) (by kernel_rfl) (fun _ _ _ h => h) (Or.inl ⟨by kernel_rfl, ?_⟩) (by assumption) ?_
      · intro wS hSw
        (try dsimp only at hSw)
        go_simp
      (try simp only [Act.put]); (try simp only [List.setIfInBounds_toArray]); (try simp only [List.set_cons_succ]); (try simp only [List.set_cons_zero])
      refine takeD (i := 7) (d := (some 10)) (v := undef) rfl rfl (by kernel_rfl) (by kernel_rfl) (by kernel_rfl) (fun _ _ _ h => h) (Or.inr ⟨by kernel_rfl, rfl⟩) (by assumption) ?_
      (try simp only [Act.put]); (try simp only [List.setIfInBounds_toArray]); (try simp only [List.set_cons_succ]); (try simp only [List.set_cons_zero])
      refine takeD (i := 8) (d := (some 11)) (v := undef) rfl rfl (by kernel_rfl) (by kernel_rfl) (by kernel_rfl) (fun _ _ _ h => h) (Or.inr ⟨by kernel_rfl, rfl⟩) (by assumption) ?_
      (try simp only [Act.put]); (try simp only [List.setIfInBounds_toArray]); (try simp only [List.set_cons_succ]); (try simp only [List.set_cons_zero])
      refine takeD (i := 9) (d := (some 12)) (v := undef) rfl rfl (by kernel_rfl) (by kernel_rfl) (by kernel_rfl) (fun _ _ _ h => h) (Or.inr ⟨by kernel_rfl, rfl⟩) (by assumption) ?_
      (try simp only [Act.put]); (try simp only [List.setIfInBounds_toArray]); (try simp only [List.set_cons_succ]); (try simp only [List.set_cons_zero])
      refine takeD (i := 10) (d := (some 13)) (v := undef) rfl rfl (by kernel_rfl) (by kernel_rfl) (by kernel_rfl) (fun _ _ _ h => h) (Or.inr ⟨by kernel_rfl, rfl⟩) (by assumption) ?_
      (try simp only [Act.put]); (try simp only [List.setIfInBounds_toArray]); (try simp only [List.set_cons_succ]); (try simp only [List.set_cons_zero])
      refine takeD (i := 11) (d := (some 14)) (v := undef) rfl rfl (by kernel_rfl) (by kernel_rfl) (by kernel_rfl) (fun _ _ _ h => h) (Or.inr ⟨by kernel_rfl, rfl⟩) (by assumption) ?_
      (try simp only [Act.put]); (try simp only [List.setIfInBounds_toArray]); (try simp only [List.set_cons_succ]); (try simp only [List.set_cons_zero])
      refine takeD (i := 12) (d := (some 15)) (v := (.bool true)) rfl rfl (by kernel_rfl) (by kernel_rfl) (by kernel_rfl) (fun _ _ _ h => h) (Or.inl ⟨by kernel_rfl, ?_⟩) (by assumption) ?_
      · intro wS hSw
        (try dsimp only at hSw)
        go_simp
      (try simp only [Act.put]); (try simp only [List.setIfInBounds_toArray]); (try simp only [List.set_cons_succ]); (try simp only [List.set_cons_zero])
      refine takeD (i := 13) (d := (some 16)) (v := (.bool true)) rfl rfl (by kernel_rfl) (by kernel_rfl) (by kernel_rfl) (fun _ _ _ h => h) (Or.inl ⟨by kernel_rfl, ?_⟩) (by assumption) ?_
      · intro wS hSw
        (try dsimp only at hSw)
        go_simp
      (try simp only [Act.put]); (try simp only [List.setIfInBounds_toArray]); (try simp only [List.set_cons_succ]); (try simp only [List.set_cons_zero])
      refine takeD (i := 14) (d := (some 2)) (v := (.bool true)) rfl rfl (by kernel_rfl) (by kernel_rfl) (by kernel_rfl) (fun _ _ _ h => h) (Or.inl ⟨by kernel_rfl, ?_⟩) (by assumption) ?_
      · intro wS hSw
        (try dsimp only at hSw)
        go_simp
      (try simp only [Act.put]); (try simp only [List.setIfInBounds_toArray]); (try simp only [List.set_cons_succ]); (try simp only [List.set_cons_zero])
      refine wpAnyH_done (by kernel_rfl) ?_ _
      have B3 := Lib.hid (B0.out.trans (hb.mono B0.out.size))
      go_wp2_with fail
      go_ret
      exact ⟨rfl, B3.out⟩
    · rw [decide_eq_false h0, Bool.false_or] at hy
      clear hk hc
      subst hy
      subst hv
      go_enter Try.func37, Try.ntmps37
      go_upto_region 1 with fail
      rw [← hW0]
      clear hW0
      obtain ⟨m, hm⟩ : ∃ m, m = w.heap.size := ⟨_, rfl⟩
      rw [← hm] at C0 ⊢
      clear hm
      have c0' := one_w C0.out
      refine wp_region_held_drew (S := (fun w' => w'.cell? ⟨m, 0, none⟩ = some (.slice p0 n c0))) (by kernel_rfl) ?_ (fun hHeld => ?_)
      · exact one_w (one_keep (Below.refl _ _).drew C0.out)
      refine takeD (i := 0) (d := (some 3)) (v := (cirV (.slice p0 n c0))) rfl rfl (by kernel_rfl) (by kernel_rfl) (by kernel_rfl) (fun _ _ _ h => h) (Or.inl ⟨by kernel_rfl, ?_⟩) (by assumption) ?_
      · intro wS hSw
        (try dsimp only at hSw)
        go_simp
      (try simp only [Act.put]); (try simp only [List.setIfInBounds_toArray]); (try simp only [List.set_cons_succ]); (try simp only [List.set_cons_zero])
      refine wpAnyH_ready (rs := [1]) (by kernel_rfl) (by simp) ?_
      refine AllReadyH.cons rfl (fun K hK => ?_) AllReadyH.nil
      go_simp
      refine (ck_run (W := W0) CK _ (by with_reducible first | assumption | exact (Below.refl _ _) | exact (Below.refl _ _).drew)).mono ?_
      rintro e1 w1 ⟨rfl, hb⟩
      go_wp2_with fail
      refine hK.out _ _ ?_ (fun hHeld => ?_)
      · exact one_w (one_keep hb C0.out)
      clear hK K
      (try simp only [Act.put]); (try simp only [List.setIfInBounds_toArray]); (try simp only [List.set_cons_succ]); (try simp only [List.set_cons_zero])
      refine takeD (i := 2) (d := (some 5)) (v := (.bool true)) rfl rfl (by kernel_rfl) (by kernel_rfl) (by kernel_rfl) (fun _ _ _ h => h) (Or.inl ⟨by kernel_rfl, ?_⟩) (by assumption) ?_
      · intro wS hSw
        (try dsimp only at hSw)
        go_simp
      (try simp only [Act.put]); (try simp only [List.setIfInBounds_toArray]); (try simp only [List.set_cons_succ]); (try simp only [List.set_cons_zero])
      refine takeD (i := 3) (d := (some 6)) (v := (cirV (.slice p0 n c0))) rfl rfl (by kernel_rfl) (by kernel_rfl) (by kernel_rfl) (fun _ _ _ h => h) (Or.inl ⟨by kernel_rfl, ?_⟩) (by assumption) ?_
      · intro wS hSw
        (try dsimp only at hSw)
        go_simp
      (try simp only [Act.put]); (try simp only [List.setIfInBounds_toArray]); (try simp only [List.set_cons_succ]); (try simp only [List.set_cons_zero])
      refine wpAnyH_ready (rs := [4]) (by kernel_rfl) (by simp) ?_
      refine AllReadyH.cons rfl (fun K hK => ?_) AllReadyH.nil
      go_simp
      refine (wk_run (W := W0) WK _ (by with_reducible first | assumption | exact (Below.refl _ _) | exact (Below.refl _ _).drew)).mono ?_
      rintro e1 w1 ⟨rfl, hb⟩
      go_wp2_with fail
      refine hK.out _ _ ?_ (fun hHeld => ?_)
      · exact one_w (one_keep hb C0.out)
      clear hK K
      (try simp only [Act.put]); (try simp only [List.setIfInBounds_toArray]); (try simp only [List.set_cons_succ]); (try simp only [List.set_cons_zero])
      refine takeD (i := 5) (d := (some 8)) (v := (.bool false)) rfl rfl (by kernel_rfl) (by kernel_rfl) (by kernel_rfl) (fun _ _ _ h => h) (Or.inl ⟨by kernel_rfl, ?_⟩) (by assumption) ?_
      · intro wS hSw
        (try dsimp only at hSw)
        go_simp
        first | done | (simp; done) | (simp; omega)
      (try simp only [Act.put]); (try simp only [List.setIfInBounds_toArray]); (try simp only [List.set_cons_succ]); (try simp only [List.set_cons_zero])
      refine takeD (i := 6) (d := (some 9)) (v := (.bool false)) rfl rfl (by kernel_rfl) (by kernel_rfl) (by kernel_rfl) (fun _ _ _ h => h) (Or.inl ⟨by kernel_rfl, ?_⟩) (by assumption) ?_
      · intro wS hSw
        (try dsimp only at hSw)
        go_simp
      (try simp only [Act.put]); (try simp only [List.setIfInBounds_toArray]); (try simp only [List.set_cons_succ]); (try simp only [List.set_cons_zero])
      refine takeD (i := 7) (d := (some 10)) (v := (.pointer (some ⟨m, 0, none⟩))) rfl rfl (by kernel_rfl) (by kernel_rfl) (by kernel_rfl) (fun _ _ _ h => h) (Or.inl ⟨by kernel_rfl, ?_⟩) (by assumption) ?_
      · intro wS hSw
        (try dsimp only at hSw)
        go_simp
      (try simp only [Act.put]); (try simp only [List.setIfInBounds_toArray]); (try simp only [List.set_cons_succ]); (try simp only [List.set_cons_zero])
      refine takeD (i := 8) (d := (some 11)) (v := (.slice p0 n c0)) rfl rfl (by kernel_rfl) (by kernel_rfl) (by kernel_rfl) (fun _ _ _ h => h) (Or.inl ⟨by kernel_rfl, ?_⟩) (by assumption) ?_
      · intro wS hSw
        (try dsimp only at hSw)
        go_simp
      (try simp only [Act.put]); (try simp only [List.setIfInBounds_toArray]); (try simp only [List.set_cons_succ]); (try simp only [List.set_cons_zero])
      refine wpAnyH_ready (rs := [9]) (by kernel_rfl) (by simp) ?_
      refine AllReadyH.cons rfl (fun K hK => ?_) AllReadyH.nil
      go_simp
      refine (eo_run (W := W0) EO _ (by with_reducible first | assumption | exact (Below.refl _ _) | exact (Below.refl _ _).drew)).mono ?_
      rintro e1 w1 ⟨v3, rfl, hsa, hb⟩
      go_wp2_with fail
      refine hK.out _ _ ?_ (fun hHeld => ?_)
      · exact one_w (one_keep hb C0.out)
      clear hK K
      (try simp only [Act.put]); (try simp only [List.setIfInBounds_toArray]); (try simp only [List.set_cons_succ]); (try simp only [List.set_cons_zero])
      refine takeD (i := 10) (d := (some 13)) (v := v3) rfl rfl (by kernel_rfl) (by kernel_rfl) (by kernel_rfl) (fun _ _ _ h => h) (Or.inl ⟨by kernel_rfl, ?_⟩) (by assumption) ?_
      · intro wS hSw
        (try dsimp only at hSw)
        go_simp
        first | done | (rw [cir_field]; done) | (simp [cir_field]; done)
      (try simp only [Act.put]); (try simp only [List.setIfInBounds_toArray]); (try simp only [List.set_cons_succ]); (try simp only [List.set_cons_zero])
      refine wpAnyH_ready (rs := [11]) (by kernel_rfl) (by simp) ?_
      refine AllReadyH.cons rfl (fun K hK => ?_) AllReadyH.nil
      go_simp
      refine (sa_run (W := W0) hsa _ (by with_reducible first | assumption | exact (Below.refl _ _) | exact (Below.refl _ _).drew)).mono ?_
      rintro e1 w1 ⟨rfl, hb⟩
      go_wp2_with fail
      refine hK.out _ _ ?_ (fun hHeld => ?_)
      · exact one_w (one_keep hb C0.out)
      clear hK K
      (try simp only [Act.put]); (try simp only [List.setIfInBounds_toArray]); (try simp only [List.set_cons_succ]); (try simp only [List.set_cons_zero])
      refine takeD (i := 12) (d := (some 15)) (v := (.bool y)) rfl rfl (by kernel_rfl) (by kernel_rfl) (by kernel_rfl) (fun _ _ _ h => h) (Or.inl ⟨by kernel_rfl, ?_⟩) (by assumption) ?_
      · intro wS hSw
        (try dsimp only at hSw)
        go_simp
      (try simp only [Act.put]); (try simp only [List.setIfInBounds_toArray]); (try simp only [List.set_cons_succ]); (try simp only [List.set_cons_zero])
      refine takeD (i := 13) (d := (some 16)) (v := (.bool y)) rfl rfl (by kernel_rfl) (by kernel_rfl) (by kernel_rfl) (fun _ _ _ h => h) (Or.inl ⟨by kernel_rfl, ?_⟩) (by assumption) ?_
      · intro wS hSw
        (try dsimp only at hSw)
        go_simp
      (try simp only [Act.put]); (try simp only [List.setIfInBounds_toArray]); (try simp only [List.set_cons_succ]); (try simp only [List.set_cons_zero])
      refine takeD (i := 14) (d := (some 2)) (v := (.bool y)) rfl rfl (by kernel_rfl) (by kernel_rfl) (by kernel_rfl) (fun _ _ _ h => h) (Or.inl ⟨by kernel_rfl, ?_⟩) (by assumption) ?_
      · intro wS hSw
        (try dsimp only at hSw)
        go_simp
      (try simp only [Act.put]); (try simp only [List.setIfInBounds_toArray]); (try simp only [List.set_cons_succ]); (try simp only [List.set_cons_zero])
      refine wpAnyH_done (by kernel_rfl) ?_ _
      have B3 := Lib.hid (B0.out.trans (hb.mono B0.out.size))
      go_wp2_with fail
      go_ret
      exact ⟨rfl, B3.out⟩
  · rw [show cirB xs = false from decide_eq_false hc] at CK
    obtain rfl := reg_no hf hc
    clear hf hk hc hu EO WK
    subst hv
    go_enter Try.func37, Try.ntmps37
    go_upto_region 1 with fail
    rw [← hW0]
    clear hW0
    obtain ⟨m, hm⟩ : ∃ m, m = w.heap.size := ⟨_, rfl⟩
    rw [← hm] at C0 ⊢
    clear hm
    have c0' := one_w C0.out
    refine wp_region_held_drew (S := (fun w' => w'.cell? ⟨m, 0, none⟩ = some (.slice p0 n c0))) (by kernel_rfl) ?_ (fun hHeld => ?_)
    · exact one_w (one_keep (Below.refl _ _).drew C0.out)
    refine takeD (i := 0) (d := (some 3)) (v := (cirV (.slice p0 n c0))) rfl rfl (by kernel_rfl) (by kernel_rfl) (by kernel_rfl) (fun _ _ _ h => h) (Or.inl ⟨by kernel_rfl, ?_⟩) (by assumption) ?_
    · intro wS hSw
      (try dsimp only at hSw)
      go_simp
    (try simp only [Act.put]); (try simp only [List.setIfInBounds_toArray]); (try simp only [List.set_cons_succ]); (try simp only [List.set_cons_zero])
    refine wpAnyH_ready (rs := [1]) (by kernel_rfl) (by simp) ?_
    refine AllReadyH.cons rfl (fun K hK => ?_) AllReadyH.nil
    go_simp
    refine (ck_run (W := W0) CK _ (by with_reducible first | assumption | exact (Below.refl _ _) | exact (Below.refl _ _).drew)).mono ?_
    rintro e1 w1 ⟨rfl, hb⟩
    go_wp2_with fail
    refine hK.out _ _ ?_ (fun hHeld => ?_)
    · exact one_w (one_keep hb C0.out)
    clear hK K
    (try simp only [Act.put]); (try simp only [List.setIfInBounds_toArray]); (try simp only [List.set_cons_succ]); (try simp only [List.set_cons_zero])
    refine takeD (i := 2) (d := (some 5)) (v := (.bool false)) rfl rfl (by kernel_rfl) (by kernel_rfl) (by kernel_rfl) (fun _ _ _ h => h) (Or.inl ⟨by kernel_rfl, ?_⟩) (by assumption) ?_
    · intro wS hSw
      (try dsimp only at hSw)
      go_simp
    (try simp only [Act.put]); (try simp only [List.setIfInBounds_toArray]); (try simp only [List.set_cons_succ]); (try simp only [List.set_cons_zero])
    refine takeD (i := 3) (d := (some 6)) (v := undef) rfl rfl (by kernel_rfl) (by kernel_rfl) (by kernel_rfl) (fun _ _ _ h => h) (Or.inr ⟨by kernel_rfl, rfl⟩) (by assumption) ?_
    (try simp only [Act.put]); (try simp only [List.setIfInBounds_toArray]); (try simp only [List.set_cons_succ]); (try simp only [List.set_cons_zero])
    refine takeD (i := 4) (d := (some 7)) (v := undef) rfl rfl (by kernel_rfl) (by kernel_rfl) (by kernel_rfl) (fun _ _ _ h => h) (Or.inr ⟨by kernel_rfl, rfl⟩) (by assumption) ?_
    (try simp only [Act.put]); (try simp only [List.setIfInBounds_toArray]); (try simp only [List.set_cons_succ]); (try simp only [List.set_cons_zero])
    refine takeD (i := 5) (d := (some 8)) (v := undef) rfl rfl (by kernel_rfl) (by kernel_rfl) (by kernel_rfl) (fun _ _ _ h => h) (Or.inr ⟨by kernel_rfl, rfl⟩) (by assumption) ?_
    (try simp only [Act.put]); (try simp only [List.setIfInBounds_toArray]); (try simp only [List.set_cons_succ]); (try simp only [List.set_cons_zero])
    refine takeD (i := 6) (d := (some 9)) (v := undef) rfl rfl (by kernel_rfl) (by kernel_rfl) (by kernel_rfl) (fun _ _ _ h => h) (Or.inr ⟨by kernel_rfl, rfl⟩) (by assumption) ?_
    (try simp only [Act.put]); (try simp only [List.setIfInBounds_toArray]); (try simp only [List.set_cons_succ]); (try simp only [List.set_cons_zero])
    refine takeD (i := 7) (d := (some 10)) (v := undef) rfl rfl (by kernel_rfl) (by kernel_rfl) (by kernel_rfl) (fun _ _ _ h => h) (Or.inr ⟨by kernel_rfl, rfl⟩) (by assumption) ?_
    (try simp only [Act.put]); (try simp only [List.setIfInBounds_toArray]); (try simp only [List.set_cons_succ]); (try simp only [List.set_cons_zero])
    refine takeD (i := 8) (d := (some 11)) (v := undef) rfl rfl (by kernel_rfl) (by kernel_rfl) (by kernel_rfl) (fun _ _ _ h => h) (Or.inr ⟨by kernel_rfl, rfl⟩) (by assumption) ?_
    (try simp only [Act.put]); (try simp only [List.setIfInBounds_toArray]); (try simp only [List.set_cons_succ]); (try simp only [List.set_cons_zero])
    refine takeD (i := 9) (d := (some 12)) (v := undef) rfl rfl (by kernel_rfl) (by kernel_rfl) (by kernel_rfl) (fun _ _ _ h => h) (Or.inr ⟨by kernel_rfl, rfl⟩) (by assumption) ?_
    (try simp only [Act.put]); (try simp only [List.setIfInBounds_toArray]); (try simp only [List.set_cons_succ]); (try simp only [List.set_cons_zero])
    refine takeD (i := 10) (d := (some 13)) (v := undef) rfl rfl (by kernel_rfl) (by kernel_rfl) (by kernel_rfl) (fun _ _ _ h => h) (Or.inr ⟨by kernel_rfl, rfl⟩) (by assumption) ?_
    (try simp only [Act.put]); (try simp only [List.setIfInBounds_toArray]); (try simp only [List.set_cons_succ]); (try simp only [List.set_cons_zero])
    refine takeD (i := 11) (d := (some 14)) (v := undef) rfl rfl (by kernel_rfl) (by kernel_rfl) (by kernel_rfl) (fun _ _ _ h => h) (Or.inr ⟨by kernel_rfl, rfl⟩) (by assumption) ?_
    (try simp only [Act.put]); (try simp only [List.setIfInBounds_toArray]); (try simp only [List.set_cons_succ]); (try simp only [List.set_cons_zero])
    refine takeD (i := 12) (d := (some 15)) (v := undef) rfl rfl (by kernel_rfl) (by kernel_rfl) (by kernel_rfl) (fun _ _ _ h => h) (Or.inr ⟨by kernel_rfl, rfl⟩) (by assumption) ?_
    (try simp only [Act.put]); (try simp only [List.setIfInBounds_toArray]); (try simp only [List.set_cons_succ]); (try simp only [List.set_cons_zero])
    refine takeD (i := 13) (d := (some 16)) (v := (.bool false)) rfl rfl (by kernel_rfl) (by kernel_rfl) (by kernel_rfl) (fun _ _ _ h => h) (Or.inl ⟨by kernel_rfl, ?_⟩) (by assumption) ?_
    · intro wS hSw
      (try dsimp only at hSw)
      go_simp
    (try simp only [Act.put]); (try simp only [List.setIfInBounds_toArray]); (try simp only [List.set_cons_succ]); (try simp only [List.set_cons_zero])
    refine takeD (i := 14) (d := (some 2)) (v := (.bool false)) rfl rfl (by kernel_rfl) (by kernel_rfl) (by kernel_rfl) (fun _ _ _ h => h) (Or.inl ⟨by kernel_rfl, ?_⟩) (by assumption) ?_
    · intro wS hSw
      (try dsimp only at hSw)
      go_simp
    (try simp only [Act.put]); (try simp only [List.setIfInBounds_toArray]); (try simp only [List.set_cons_succ]); (try simp only [List.set_cons_zero])
    refine wpAnyH_done (by kernel_rfl) ?_ _
    have B3 := Lib.hid (B0.out.trans (hb.mono B0.out.size))
    go_wp2_with fail
    go_ret
    exact ⟨rfl, B3.out⟩
end Go.Proofs.Ytjfeeppbbckneab
