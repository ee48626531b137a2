/- Contracts of spec.l22Greater, spec.CountModes and spec.BrightestMode. Written by cntmode.py. -/
import Derived.Test.YtneblpplkidkfaaSMode
import Derived.Test.YtneblpplkidkfaaSThirds
import Derived.Test.YtneblpplkidkfaaTakeD
import Derived.Deep.QuietTactic
import Derived.BigQuiet
import Derived.Deep.RegionHeld3
namespace Go.Proofs.Ytneblpplkidkfaa
open Go.RowKit Go.Joins
set_option linter.unusedVariables false
set_option maxHeartbeats 1000000 in
theorem greater_any (w : World) (b1 b2 : Nat) (e1 e2 : TypeId) (v1 v2 : Value) (xs ys : List Int) (hx : xs.length ≤ 2000000) (hy : xs.length = ys.length) (h1 : w.ownsRow b1 e1 1 v1 xs.length (intCs xs)) (h2 : w.ownsRow b2 e2 1 v2 ys.length (intCs ys)) :
    Calls Try.prog 47 #[v1, v2] w fun e w' => e = .returned (.bool (gtL xs ys)) ∧ Below w.heap.size w w' := by
  obtain ⟨n, hn⟩ : ∃ n, n = xs.length := ⟨_, rfl⟩
  rw [← hn] at h1 hx hy
  rw [← hy] at h2
  have HN := Lib.hid hn
  have HM := Lib.hid hy
  clear hn hy
  rcases Nat.eq_zero_or_pos n with h0 | h0
  · obtain ⟨p1, c1, rfl⟩ := own_zero h1 h0
    have R : gtL xs ys = false := gt_end (HN.out.symm.trans HM.out) (fun j hj => by have := HN.out; omega)
    have HR := Lib.hid R
    clear h1 h2 R
    subst h0
    go_enter Try.func47, Try.ntmps47
    go_wp2
    refine wp_loop_rounds 1 ?_
    rw [rounds_succ]
    go_wp2
    go_ret
    exact ⟨ret_bool HR.out.symm, Below.refl _ _⟩
  · obtain ⟨g1, c1, rfl, _, _⟩ := own_pos h1 h0
    obtain ⟨g2, c2, rfl, _, _⟩ := own_pos h2 h0
    go_enter Try.func47, Try.ntmps47
    go_wp2
    go_loopw [5] (fun i wr => ∃ k d : Nat, k ≤ n ∧ i = .int .i64 k ∧ (∀ j, j < k → xs.getD j 0 = ys.getD j 0) ∧ wr = w.drewN d) (fun i _ => n - (intOf i).toNat)
    case atStart => exact ⟨0, 0, Nat.zero_le _, rfl, fun j hj => by omega, rfl⟩
    case round =>
      obtain ⟨k, d, hk, rfl, hall, rfl⟩ := hrel
      have HA := Lib.hid hall
      clear hall
      by_cases hlt : k < n
      · have q1 := own_icell h1 k hlt
        have q2 := own_icell h2 k hlt
        have q3 : (k : Int) < n := by omega
        obtain ⟨x, hxk⟩ : ∃ x, x = xs.getD k 0 := ⟨_, rfl⟩
        obtain ⟨y, hyk⟩ : ∃ y, y = ys.getD k 0 := ⟨_, rfl⟩
        rw [← hxk] at q1
        rw [← hyk] at q2
        have HX := Lib.hid hxk
        have HY := Lib.hid hyk
        clear hxk hyk
        by_cases hxy : x = y
        · have t1 : (x != y) = false := by simp [hxy]
          have HXY := Lib.hid hxy
          clear hxy
          go_wp2_with fail
          go_quiet (fail)
          go_wp2_with fail
          go_roundw
          case rel => exact ⟨k + 1, _, by omega, by go_num, fun j hj => by rcases (show j < k ∨ j = k from by omega) with h | h; exact HA.out j h; rw [h, ← HX.out, ← HY.out]; exact HXY.out, rfl⟩
          case measure => simp [intOf]; omega
        · have t1 : (x != y) = true := by simp [hxy]
          have HR := Lib.hid (show gtL xs ys = decide (y < x) from by
            rw [gt_at (k := k) (by rw [← HN.out]; exact hlt) (HN.out.symm.trans HM.out) HA.out (by rw [← HX.out, ← HY.out]; exact hxy), ← HX.out, ← HY.out])
          clear hxy
          go_wp2_with fail
          go_quiet (fail)
          go_wp2_with fail
          go_quiet (fail)
          go_wp2_with fail
          go_ret
          exact ⟨ret_bool HR.out.symm, ⟨rfl, rfl, rfl, Nat.le_refl _, fun _ _ => rfl⟩⟩
      · have q3 : ¬ (k : Int) < n := by omega
        obtain rfl : k = n := by omega
        have HR := Lib.hid (show gtL xs ys = false from gt_end (HN.out.symm.trans HM.out) (fun j hj => HA.out j (by rw [HN.out]; exact hj)))
        go_wp2_with fail
        go_ret
        exact ⟨ret_bool HR.out.symm, ⟨rfl, rfl, rfl, Nat.le_refl _, fun _ _ => rfl⟩⟩
set_option maxRecDepth 100000 in
theorem sc_field (v : Value) (w : World) : Sem.run Try.prog (Instr.field 26 (cirV v) 0) w = .ok v w := by
  first | rfl | simp [go_sem]
/-- Two modes and a function of their rows, behind a world that is named. -/
def Cmp3 (f : FuncId) (u1 u2 : Value) (z : Bool) (W2 W : World) : Prop := ∀ X, Below W2.heap.size W2 X → Calls Try.prog f #[u1, u2] X fun e w' => e = .returned (.bool z) ∧ Below W.heap.size W w'
theorem cmp3_run {f : FuncId} {u1 u2 : Value} {z : Bool} {W2 W : World} (h : Cmp3 f u1 u2 z W2 W) (X : World) (hX : Below W2.heap.size W2 X) : Calls Try.prog f #[u1, u2] X fun e w' => e = .returned (.bool z) ∧ Below W.heap.size W w' := h X hX
def Mo2 (f : FuncId) (v u1 : Value) (k : Int) (z : Bool) (W1 W : World) : Prop := ∀ X, Below W1.heap.size W1 X → Calls Try.prog 21 #[cirV v, .int .i64 k] X fun e w' => ∃ u2, e = .returned (cirV u2) ∧ Cmp3 f u1 u2 z w' W ∧ Below W.heap.size W w'
theorem mo2_run {f : FuncId} {v u1 : Value} {k : Int} {z : Bool} {W1 W : World} (h : Mo2 f v u1 k z W1 W) (X : World) (hX : Below W1.heap.size W1 X) : Calls Try.prog 21 #[cirV v, .int .i64 k] X fun e w' => ∃ u2, e = .returned (cirV u2) ∧ Cmp3 f u1 u2 z w' W ∧ Below W.heap.size W w' := h X hX
def Mo1 (f : FuncId) (v : Value) (i k : Int) (z : Bool) (W : World) : Prop := ∀ X, Below W.heap.size W X → Calls Try.prog 21 #[cirV v, .int .i64 i] X fun e w' => ∃ u1, e = .returned (cirV u1) ∧ Mo2 f v u1 k z w' W ∧ Below W.heap.size W w'
theorem mo1_run {f : FuncId} {v : Value} {i k : Int} {z : Bool} {W : World} (h : Mo1 f v i k z W) (X : World) (hX : Below W.heap.size W X) : Calls Try.prog 21 #[cirV v, .int .i64 i] X fun e w' => ∃ u1, e = .returned (cirV u1) ∧ Mo2 f v u1 k z w' W ∧ Below W.heap.size W w' := h X hX
theorem mo1_mk {f : FuncId} {xs : List Int} {W : World} {b : Nat} {e : TypeId} {v : Value} {i k : Int} {z : Bool} (hl : xs.length ≤ 2000000) (h : W.ownsRow b e 1 v xs.length (intCs xs))
    (hf : ∀ (X : World) (b1 b2 : Nat) (e1 e2 : TypeId) (u1 u2 : Value), X.ownsRow b1 e1 1 u1 (modF xs i).length (intCs (modF xs i)) → X.ownsRow b2 e2 1 u2 (modF xs k).length (intCs (modF xs k)) → Calls Try.prog f #[u1, u2] X fun e w' => e = .returned (.bool z) ∧ Below X.heap.size X w') : Mo1 f v i k z W := fun X hX =>
  (mode_spec rfl X b e v hl (own_below h hX)).mono fun e1 w1 ⟨u1, he, o1, b1⟩ =>
    have h1 : Below W.heap.size W w1 := hX.trans (b1.mono hX.size)
    ⟨u1, he, fun Y hY => (mode_spec rfl Y b e v hl (own_below h (h1.trans (hY.mono h1.size)))).mono fun e2 w2 ⟨u2, he2, o2, b2⟩ =>
      have h12 : Below w1.heap.size w1 w2 := hY.trans (b2.mono hY.size)
      have h2 : Below W.heap.size W w2 := h1.trans (h12.mono h1.size)
      ⟨u2, he2, fun Z hZ => (hf Z _ _ _ _ u1 u2 (own_below o1 (h12.trans (hZ.mono h12.size))) (own_below o2 hZ)).mono fun _ _ ⟨he3, hb3⟩ => ⟨he3, h2.trans ((hZ.trans (hb3.mono hZ.size)).mono h2.size)⟩, h2⟩, h1⟩
theorem mo_same {xs : List Int} {W : World} {b : Nat} {e : TypeId} {v : Value} {i k : Nat} (hs : ScOk xs) (hi : i < xs.length) (hk : k < xs.length) (hl : xs.length ≤ 2000000) (h : W.ownsRow b e 1 v xs.length (intCs xs)) : Mo1 46 v i k (decide (modL xs i = modL xs k)) W :=
  mo1_mk hl h fun X b1 b2 e1 e2 u1 u2 h1 h2 => by
    rw [mod_yes hs hi] at h1
    rw [mod_yes hs hk] at h2
    exact same15_any X b1 b2 e1 e2 u1 u2 _ _ (by rw [modL_len]; exact hl) (by rw [modL_len]; exact hl) h1 h2
theorem mo_great {xs : List Int} {W : World} {b : Nat} {e : TypeId} {v : Value} {i k : Nat} (hs : ScOk xs) (hi : i < xs.length) (hk : k < xs.length) (hl : xs.length ≤ 2000000) (h : W.ownsRow b e 1 v xs.length (intCs xs)) : Mo1 47 v i k (gtL (modL xs i) (modL xs k)) W :=
  mo1_mk hl h fun X b1 b2 e1 e2 u1 u2 h1 h2 => by
    rw [mod_yes hs hi] at h1
    rw [mod_yes hs hk] at h2
    exact greater_any X b1 b2 e1 e2 u1 u2 _ _ (by rw [modL_len]; exact hl) (by rw [modL_len, modL_len]) h1 h2
set_option maxRecDepth 100000 in
set_option maxHeartbeats 8000000 in
theorem countModes_spec {xs : List Int} {y0 : Int} (hf : CntAt22 xs y0) (w : World) (b : Nat) (e : TypeId) (v : Value) (hl : xs.length ≤ 2000000) (h : w.ownsRow b e 1 v xs.length (intCs xs)) :
    Calls Try.prog 26 #[cirV v] w fun en w' => en = .returned (.int .i64 y0) ∧ Below w.heap.size w w' := by
  have CO := Lib.hid (fun X (hX : Below w.heap.size w X) => scOk_spec (y := scB xs) rfl X b e v hl (own_below h hX))
  have HR := Lib.hid (fun X (hX : Below w.heap.size w X) => own_below h hX)
  have HLL := Lib.hid hl
  have HF := Lib.hid hf
  obtain ⟨n, hn⟩ : ∃ n, n = xs.length := ⟨_, rfl⟩
  rw [← hn] at h
  have HN := Lib.hid hn
  obtain ⟨W0, hW0⟩ : ∃ W0, W0 = w.alloc (.cells #[v] 26) := ⟨_, rfl⟩
  have B0 : Hid (Below w.heap.size w W0) := Lib.hid (by rw [hW0]; exact below_alloc1 w _)
  clear hf
  by_cases hs : ScOk xs
  · rw [show scB xs = true from decide_eq_true hs] at CO
    have HS := Lib.hid hs
    have hn12 : 1 ≤ n ∧ n ≤ 12 := by rw [hn]; exact hs.1
    obtain ⟨q, c, rfl, hbox⟩ := scBox_new (by omega) h hW0
    have BX := Lib.hid hbox
    clear h hl hn hs hbox
    go_enter Try.func26, Try.ntmps26
    go_upto_region 1 with fail
    rw [← hW0]
    clear hW0
    obtain ⟨m, hm⟩ : ∃ m, m = w.heap.size := ⟨_, rfl⟩
    rw [← hm] at BX ⊢
    have HM := Lib.hid hm
    clear hm
    go_wp2_with fail
    go_loopw [3, 4] (fun s x wr => ∃ k : Nat, k ≤ n ∧ s = .int .i64 (cmTo xs k : Int) ∧ x = .int .i64 (k : Int) ∧ Hid (Below W0.heap.size W0 wr)) (fun _ x _ => 13 - (intOf x).toNat)
    case atStart => exact ⟨0, Nat.zero_le _, by rfl, by go_num, Lib.hid (Below.refl _ _)⟩
    case round =>
      obtain ⟨k, hk, rfl, rfl, HB⟩ := hrel
      have hcm := cmTo_le xs k
      obtain ⟨cm, hcmd⟩ : ∃ x, x = cmTo xs k := ⟨_, rfl⟩
      rw [← hcmd] at hcm ⊢
      have HCM := Lib.hid hcmd
      clear hcmd
      by_cases hlt : k < n
      · have q3 : (k : Int) < n := by omega
        have c1 := scBox_cell (scBox_keep BX.out HB.out)
        have CK := Lib.hid (CO.out wr (B0.out.trans (HB.out.mono B0.out.size)))
        have HLT := Lib.hid hlt
        clear hlt
        go_wp2_with fail
        refine CK.out.mono ?_
        rintro e1 w1 ⟨rfl, b1⟩
        have B2 := Lib.hid (HB.out.trans (b1.mono HB.out.size))
        clear c1 b1 CK HB
        go_wp2_with fail
        go_loopw [5, 6] (fun z x wr => ∃ (t : Nat) (u : Bool), t ≤ k ∧ z = .bool u ∧ x = .int .i64 (t : Int) ∧ Hid (u = true ↔ ∀ j, j < t → ¬ modL xs j = modL xs k) ∧ Hid (Below W0.heap.size W0 wr)) (fun _ x _ => 12 - (intOf x).toNat)
        case atStart => exact ⟨0, true, Nat.zero_le _, rfl, by go_num, Lib.hid ⟨fun _ j hj => by omega, fun _ => rfl⟩, B2⟩
        case round =>
          clear B2
          obtain ⟨t, u, ht, rfl, rfl, HU, HB⟩ := hrel
          by_cases hlt : t < k
          · have q4 : (t : Int) < k := by omega
            have CB := Lib.hid (scBox_keep BX.out HB.out)
            have HT := Lib.hid hlt
            have ht12 : t < 12 := by omega
            cases u
            · have HU2 : Hid (false = true ↔ ∀ j, j < t + 1 → ¬ modL xs j = modL xs k) := Lib.hid ⟨fun a => (by cases a), fun a => HU.out.2 (fun j hj => a j (by omega))⟩
              clear hlt
              go_upto_region 9 with fail
              refine wp_region_held_drew (S := (fun w' => w'.cell? ⟨m, 0, none⟩ = some (.slice (some ⟨q, 0, none⟩) n c))) (by kernel_rfl) ?_ (fun hHeld => ?_)
              · exact scBox_cell (scBox_keep CB.out (Below.refl _ _).drew)
              refine takeD (i := 0) (d := (some 23)) (v := (.bool false)) rfl rfl (by kernel_rfl) (by kernel_rfl) (by kernel_rfl) (fun _ _ _ h => h) (Or.inl ⟨by kernel_rfl, ?_⟩) (by assumption) ?_
              · intro wS hSw
                (try dsimp only at hSw)
                go_simp
              (try simp only [Act.put]); (try simp only [List.setIfInBounds_toArray]); (try simp only [List.set_cons_succ]); (try simp only [List.set_cons_zero])
              refine takeD (i := 1) (d := (some 24)) (v := (.bool false)) rfl rfl (by kernel_rfl) (by kernel_rfl) (by kernel_rfl) (fun _ _ _ h => h) (Or.inl ⟨by kernel_rfl, ?_⟩) (by assumption) ?_
              · intro wS hSw
                (try dsimp only at hSw)
                go_simp
              (try simp only [Act.put]); (try simp only [List.setIfInBounds_toArray]); (try simp only [List.set_cons_succ]); (try simp only [List.set_cons_zero])
              refine takeD (i := 2) (d := (some 25)) (v := undef) rfl rfl (by kernel_rfl) (by kernel_rfl) (by kernel_rfl) (fun _ _ _ h => h) (Or.inr ⟨by kernel_rfl, rfl⟩) (by assumption) ?_
              (try simp only [Act.put]); (try simp only [List.setIfInBounds_toArray]); (try simp only [List.set_cons_succ]); (try simp only [List.set_cons_zero])
              refine takeD (i := 3) (d := (some 26)) (v := undef) rfl rfl (by kernel_rfl) (by kernel_rfl) (by kernel_rfl) (fun _ _ _ h => h) (Or.inr ⟨by kernel_rfl, rfl⟩) (by assumption) ?_
              (try simp only [Act.put]); (try simp only [List.setIfInBounds_toArray]); (try simp only [List.set_cons_succ]); (try simp only [List.set_cons_zero])
              refine takeD (i := 4) (d := (some 27)) (v := undef) rfl rfl (by kernel_rfl) (by kernel_rfl) (by kernel_rfl) (fun _ _ _ h => h) (Or.inr ⟨by kernel_rfl, rfl⟩) (by assumption) ?_
              (try simp only [Act.put]); (try simp only [List.setIfInBounds_toArray]); (try simp only [List.set_cons_succ]); (try simp only [List.set_cons_zero])
              refine takeD (i := 5) (d := (some 28)) (v := undef) rfl rfl (by kernel_rfl) (by kernel_rfl) (by kernel_rfl) (fun _ _ _ h => h) (Or.inr ⟨by kernel_rfl, rfl⟩) (by assumption) ?_
              (try simp only [Act.put]); (try simp only [List.setIfInBounds_toArray]); (try simp only [List.set_cons_succ]); (try simp only [List.set_cons_zero])
              refine takeD (i := 6) (d := (some 29)) (v := undef) rfl rfl (by kernel_rfl) (by kernel_rfl) (by kernel_rfl) (fun _ _ _ h => h) (Or.inr ⟨by kernel_rfl, rfl⟩) (by assumption) ?_
              (try simp only [Act.put]); (try simp only [List.setIfInBounds_toArray]); (try simp only [List.set_cons_succ]); (try simp only [List.set_cons_zero])
              refine takeD (i := 7) (d := (some 30)) (v := undef) rfl rfl (by kernel_rfl) (by kernel_rfl) (by kernel_rfl) (fun _ _ _ h => h) (Or.inr ⟨by kernel_rfl, rfl⟩) (by assumption) ?_
              (try simp only [Act.put]); (try simp only [List.setIfInBounds_toArray]); (try simp only [List.set_cons_succ]); (try simp only [List.set_cons_zero])
              refine takeD (i := 8) (d := (some 31)) (v := undef) rfl rfl (by kernel_rfl) (by kernel_rfl) (by kernel_rfl) (fun _ _ _ h => h) (Or.inr ⟨by kernel_rfl, rfl⟩) (by assumption) ?_
              (try simp only [Act.put]); (try simp only [List.setIfInBounds_toArray]); (try simp only [List.set_cons_succ]); (try simp only [List.set_cons_zero])
              refine takeD (i := 9) (d := (some 32)) (v := undef) rfl rfl (by kernel_rfl) (by kernel_rfl) (by kernel_rfl) (fun _ _ _ h => h) (Or.inr ⟨by kernel_rfl, rfl⟩) (by assumption) ?_
              (try simp only [Act.put]); (try simp only [List.setIfInBounds_toArray]); (try simp only [List.set_cons_succ]); (try simp only [List.set_cons_zero])
              refine takeD (i := 10) (d := (some 33)) (v := undef) rfl rfl (by kernel_rfl) (by kernel_rfl) (by kernel_rfl) (fun _ _ _ h => h) (Or.inr ⟨by kernel_rfl, rfl⟩) (by assumption) ?_
              (try simp only [Act.put]); (try simp only [List.setIfInBounds_toArray]); (try simp only [List.set_cons_succ]); (try simp only [List.set_cons_zero])
              refine takeD (i := 11) (d := (some 34)) (v := undef) rfl rfl (by kernel_rfl) (by kernel_rfl) (by kernel_rfl) (fun _ _ _ h => h) (Or.inr ⟨by kernel_rfl, rfl⟩) (by assumption) ?_
              (try simp only [Act.put]); (try simp only [List.setIfInBounds_toArray]); (try simp only [List.set_cons_succ]); (try simp only [List.set_cons_zero])
              refine takeD (i := 12) (d := (some 35)) (v := (.bool false)) rfl rfl (by kernel_rfl) (by kernel_rfl) (by kernel_rfl) (fun _ _ _ h => h) (Or.inl ⟨by kernel_rfl, ?_⟩) (by assumption) ?_
              · intro wS hSw
                (try dsimp only at hSw)
                go_simp
              (try simp only [Act.put]); (try simp only [List.setIfInBounds_toArray]); (try simp only [List.set_cons_succ]); (try simp only [List.set_cons_zero])
              refine takeD (i := 13) (d := (some 5)) (v := (.bool false)) rfl rfl (by kernel_rfl) (by kernel_rfl) (by kernel_rfl) (fun _ _ _ h => h) (Or.inl ⟨by kernel_rfl, ?_⟩) (by assumption) ?_
              · intro wS hSw
                (try dsimp only at hSw)
                go_simp
              (try simp only [Act.put]); (try simp only [List.setIfInBounds_toArray]); (try simp only [List.set_cons_succ]); (try simp only [List.set_cons_zero])
              refine wpAnyH_done (by kernel_rfl) ?_ _
              go_wp2_with fail
              go_roundw
              case rel => exact ⟨t + 1, false, HT.out, by first | trivial | rfl, by go_num, HU2, Lib.hid HB.out.drew⟩
              case measure => simp [intOf]; omega
            · obtain ⟨y, hy⟩ : ∃ y, y = decide (modL xs t = modL xs k) := ⟨_, rfl⟩
              have MO : Mo1 46 (.slice (some ⟨q, 0, none⟩) n c) (t : Int) (k : Int) y wr := by rw [hy]; exact mo_same HS.out (by have := HN.out; have := HLT.out; omega) (by have := HN.out; have := HLT.out; omega) HLL.out (HR.out wr (B0.out.trans (HB.out.mono B0.out.size)))
              have HU2 : Hid ((!y) = true ↔ ∀ j, j < t + 1 → ¬ modL xs j = modL xs k) := Lib.hid (by
                rw [hy]
                constructor
                · intro a j hj
                  rcases (show j < t ∨ j = t from by omega) with h | h
                  · exact HU.out.1 rfl j h
                  · rw [h]; simpa using a
                · intro a
                  simpa using a t (by omega))
              clear hlt hy
              go_upto_region 9 with fail
              refine wp_region_held_drew (S := (fun w' => w'.cell? ⟨m, 0, none⟩ = some (.slice (some ⟨q, 0, none⟩) n c))) (by kernel_rfl) ?_ (fun hHeld => ?_)
              · exact scBox_cell (scBox_keep CB.out (Below.refl _ _).drew)
              refine takeD (i := 0) (d := (some 23)) (v := (.bool true)) rfl rfl (by kernel_rfl) (by kernel_rfl) (by kernel_rfl) (fun _ _ _ h => h) (Or.inl ⟨by kernel_rfl, ?_⟩) (by assumption) ?_
              · intro wS hSw
                (try dsimp only at hSw)
                go_simp
              (try simp only [Act.put]); (try simp only [List.setIfInBounds_toArray]); (try simp only [List.set_cons_succ]); (try simp only [List.set_cons_zero])
              refine takeD (i := 1) (d := (some 24)) (v := (.bool true)) rfl rfl (by kernel_rfl) (by kernel_rfl) (by kernel_rfl) (fun _ _ _ h => h) (Or.inl ⟨by kernel_rfl, ?_⟩) (by assumption) ?_
              · intro wS hSw
                (try dsimp only at hSw)
                go_simp
              (try simp only [Act.put]); (try simp only [List.setIfInBounds_toArray]); (try simp only [List.set_cons_succ]); (try simp only [List.set_cons_zero])
              refine takeD (i := 2) (d := (some 25)) (v := (cirV (.slice (some ⟨q, 0, none⟩) n c))) rfl rfl (by kernel_rfl) (by kernel_rfl) (by kernel_rfl) (fun _ _ _ h => h) (Or.inl ⟨by kernel_rfl, ?_⟩) (by assumption) ?_
              · intro wS hSw
                (try dsimp only at hSw)
                go_simp
              (try simp only [Act.put]); (try simp only [List.setIfInBounds_toArray]); (try simp only [List.set_cons_succ]); (try simp only [List.set_cons_zero])
              refine takeD (i := 3) (d := (some 26)) (v := (.int .i64 (t : Int))) rfl rfl (by kernel_rfl) (by kernel_rfl) (by kernel_rfl) (fun _ _ _ h => h) (Or.inl ⟨by kernel_rfl, ?_⟩) (by assumption) ?_
              · intro wS hSw
                (try dsimp only at hSw)
                go_simp
              (try simp only [Act.put]); (try simp only [List.setIfInBounds_toArray]); (try simp only [List.set_cons_succ]); (try simp only [List.set_cons_zero])
              refine takeD (i := 6) (d := (some 29)) (v := (cirV (.slice (some ⟨q, 0, none⟩) n c))) rfl rfl (by kernel_rfl) (by kernel_rfl) (by kernel_rfl) (fun _ _ _ h => h) (Or.inl ⟨by kernel_rfl, ?_⟩) (by assumption) ?_
              · intro wS hSw
                (try dsimp only at hSw)
                go_simp
              (try simp only [Act.put]); (try simp only [List.setIfInBounds_toArray]); (try simp only [List.set_cons_succ]); (try simp only [List.set_cons_zero])
              refine takeD (i := 7) (d := (some 30)) (v := (.int .i64 (k : Int))) rfl rfl (by kernel_rfl) (by kernel_rfl) (by kernel_rfl) (fun _ _ _ h => h) (Or.inl ⟨by kernel_rfl, ?_⟩) (by assumption) ?_
              · intro wS hSw
                (try dsimp only at hSw)
                go_simp
              (try simp only [Act.put]); (try simp only [List.setIfInBounds_toArray]); (try simp only [List.set_cons_succ]); (try simp only [List.set_cons_zero])
              refine wpAnyH_ready (rs := [4]) (by kernel_rfl) (by simp) ?_
              refine AllReadyH.cons rfl (fun K hK => ?_) AllReadyH.nil
              go_simp
              refine (mo1_run (f := 46) (W := wr) MO _ (by with_reducible first | assumption | exact (Below.refl _ _) | exact (Below.refl _ _).drew)).mono ?_
              rintro e1 w1 ⟨u1, rfl, hm2, hb⟩
              go_wp2_with fail
              refine hK.out _ _ ?_ (fun hHeld => ?_)
              · exact scBox_cell (scBox_keep CB.out hb)
              clear hK K
              (try simp only [Act.put]); (try simp only [List.setIfInBounds_toArray]); (try simp only [List.set_cons_succ]); (try simp only [List.set_cons_zero])
              refine takeD (i := 5) (d := (some 28)) (v := u1) rfl rfl (by kernel_rfl) (by kernel_rfl) (by kernel_rfl) (fun _ _ _ h => h) (Or.inl ⟨by kernel_rfl, ?_⟩) (by assumption) ?_
              · intro wS hSw
                (try dsimp only at hSw)
                go_simp
                first | done | (rw [sc_field]; done) | (simp [sc_field]; done)
              (try simp only [Act.put]); (try simp only [List.setIfInBounds_toArray]); (try simp only [List.set_cons_succ]); (try simp only [List.set_cons_zero])
              refine wpAnyH_ready (rs := [8]) (by kernel_rfl) (by simp) ?_
              refine AllReadyH.cons rfl (fun K hK => ?_) AllReadyH.nil
              go_simp
              refine (mo2_run (f := 46) hm2 _ (by with_reducible first | assumption | exact (Below.refl _ _) | exact (Below.refl _ _).drew)).mono ?_
              rintro e1 w1 ⟨u2, rfl, hm3, hb⟩
              go_wp2_with fail
              refine hK.out _ _ ?_ (fun hHeld => ?_)
              · exact scBox_cell (scBox_keep CB.out hb)
              clear hK K
              (try simp only [Act.put]); (try simp only [List.setIfInBounds_toArray]); (try simp only [List.set_cons_succ]); (try simp only [List.set_cons_zero])
              refine takeD (i := 9) (d := (some 32)) (v := u2) rfl rfl (by kernel_rfl) (by kernel_rfl) (by kernel_rfl) (fun _ _ _ h => h) (Or.inl ⟨by kernel_rfl, ?_⟩) (by assumption) ?_
              · intro wS hSw
                (try dsimp only at hSw)
                go_simp
                first | done | (rw [sc_field]; done) | (simp [sc_field]; done)
              (try simp only [Act.put]); (try simp only [List.setIfInBounds_toArray]); (try simp only [List.set_cons_succ]); (try simp only [List.set_cons_zero])
              refine wpAnyH_ready (rs := [10]) (by kernel_rfl) (by simp) ?_
              refine AllReadyH.cons rfl (fun K hK => ?_) AllReadyH.nil
              go_simp
              refine (cmp3_run (f := 46) hm3 _ (by with_reducible first | assumption | exact (Below.refl _ _) | exact (Below.refl _ _).drew)).mono ?_
              rintro e1 w1 ⟨rfl, hb⟩
              go_wp2_with fail
              refine hK.out _ _ ?_ (fun hHeld => ?_)
              · exact scBox_cell (scBox_keep CB.out hb)
              clear hK K
              (try simp only [Act.put]); (try simp only [List.setIfInBounds_toArray]); (try simp only [List.set_cons_succ]); (try simp only [List.set_cons_zero])
              refine takeD (i := 11) (d := (some 34)) (v := (.bool (!y))) rfl rfl (by kernel_rfl) (by kernel_rfl) (by kernel_rfl) (fun _ _ _ h => h) (Or.inl ⟨by kernel_rfl, ?_⟩) (by assumption) ?_
              · intro wS hSw
                (try dsimp only at hSw)
                go_simp
                first | done | assumption | (simp; done) | (simp; omega)
              (try simp only [Act.put]); (try simp only [List.setIfInBounds_toArray]); (try simp only [List.set_cons_succ]); (try simp only [List.set_cons_zero])
              refine takeD (i := 12) (d := (some 35)) (v := (.bool (!y))) rfl rfl (by kernel_rfl) (by kernel_rfl) (by kernel_rfl) (fun _ _ _ h => h) (Or.inl ⟨by kernel_rfl, ?_⟩) (by assumption) ?_
              · intro wS hSw
                (try dsimp only at hSw)
                go_simp
                first | done | assumption | (simp; done) | (simp; omega)
              (try simp only [Act.put]); (try simp only [List.setIfInBounds_toArray]); (try simp only [List.set_cons_succ]); (try simp only [List.set_cons_zero])
              refine takeD (i := 13) (d := (some 5)) (v := (.bool (!y))) rfl rfl (by kernel_rfl) (by kernel_rfl) (by kernel_rfl) (fun _ _ _ h => h) (Or.inl ⟨by kernel_rfl, ?_⟩) (by assumption) ?_
              · intro wS hSw
                (try dsimp only at hSw)
                go_simp
                first | done | assumption | (simp; done) | (simp; omega)
              (try simp only [Act.put]); (try simp only [List.setIfInBounds_toArray]); (try simp only [List.set_cons_succ]); (try simp only [List.set_cons_zero])
              refine wpAnyH_done (by kernel_rfl) ?_ _
              have B5 := Lib.hid (HB.out.trans (hb.mono HB.out.size))
              clear hb HB CB
              go_wp2_with fail
              go_roundw
              case rel => exact ⟨t + 1, !y, HT.out, by first | trivial | rfl, by go_num, HU2, B5⟩
              case measure => simp [intOf]; omega
          · have q4 : ¬ (t : Int) < k := by omega
            obtain rfl : t = k := by omega
            cases u
            · have HE := Lib.hid (show cmTo xs (t + 1) = cm from by
                show cmTo xs t + (if NewM xs t then 1 else 0) = cm
                rw [if_neg (fun a : NewM xs t => by have := HU.out.2 a; cases this), ← HCM.out]; rfl)
              clear hlt
              go_wp2_with fail
              go_roundw
              case rel => exact ⟨t + 1, HLT.out, by rw [HE.out], by go_num, HB⟩
              case measure => simp [intOf]; have := HLT.out; omega
            · have HE := Lib.hid (show cmTo xs (t + 1) = cm + 1 from by
                show cmTo xs t + (if NewM xs t then 1 else 0) = cm + 1
                rw [if_pos (show NewM xs t from HU.out.1 rfl), ← HCM.out])
              have wc : IntKind.i64.wrap ((cm : Int) + 1) = (cm : Int) + 1 := IntWalk.i64_in _ (by omega)
              clear hlt
              go_wp2_with fail
              go_roundw
              case rel => exact ⟨t + 1, HLT.out, by rw [HE.out]; go_num, by go_num, HB⟩
              case measure => simp [intOf]; have := HLT.out; omega
      · have q3 : ¬ (k : Int) < n := by omega
        obtain rfl : k = n := by omega
        have c1 := scBox_cell (scBox_keep BX.out HB.out)
        have R := Lib.hid (show y0 = (cm : Int) from by rw [HF.out, HCM.out]; unfold cntF; rw [if_pos HS.out, HN.out])
        have B3 := Lib.hid (B0.out.trans (HB.out.mono B0.out.size))
        go_wp2_with fail
        go_ret
        exact ⟨ret_int R.out.symm, B3.out⟩
  · rw [show scB xs = false from decide_eq_false hs] at CO
    have R := Lib.hid (show y0 = 0 from by rw [HF.out]; exact if_neg hs)
    obtain ⟨p, c, rfl⟩ := own_slice h
    obtain ⟨_, c0, _⟩ := one_alloc (w := w) (v := .slice p n c) (t := 26)
    rw [← hW0] at c0
    have CK := Lib.hid (CO.out W0 B0.out)
    clear h hl hn hs CO HR
    go_enter Try.func26, Try.ntmps26
    go_upto_region 1 with fail
    rw [← hW0]
    clear hW0
    go_wp2_with fail
    go_loopw [3, 4] (fun s k wr => s = .int .i64 (0) ∧ k = .int .i64 0 ∧ wr = W0) (fun _ _ _ => 0)
    case atStart => exact ⟨rfl, rfl, rfl⟩
    case round =>
      obtain ⟨rfl, rfl, hwr⟩ := hrel
      subst hwr
      by_cases hlt : 0 < n
      · have q3 : (0 : Int) < n := by omega
        go_wp2_with fail
        refine CK.out.mono ?_
        rintro e1 w1 ⟨rfl, b1⟩
        have B3 := Lib.hid (B0.out.trans (b1.mono B0.out.size))
        go_wp2_with fail
        go_ret
        exact ⟨ret_int R.out.symm, B3.out⟩
      · have q3 : ¬ (0 : Int) < n := by omega
        go_wp2_with fail
        go_ret
        exact ⟨ret_int R.out.symm, B0.out⟩
set_option maxRecDepth 100000 in
set_option maxHeartbeats 8000000 in
theorem bright_spec {xs : List Int} {y0 : Int} (hf : BrAt xs y0) (w : World) (b : Nat) (e : TypeId) (v : Value) (hl : xs.length ≤ 2000000) (h : w.ownsRow b e 1 v xs.length (intCs xs)) :
    Calls Try.prog 27 #[cirV v] w fun en w' => en = .returned (.int .i64 y0) ∧ Below w.heap.size w w' := by
  have CO := Lib.hid (fun X (hX : Below w.heap.size w X) => scOk_spec (y := scB xs) rfl X b e v hl (own_below h hX))
  have HR := Lib.hid (fun X (hX : Below w.heap.size w X) => own_below h hX)
  have HLL := Lib.hid hl
  have HF := Lib.hid hf
  obtain ⟨n, hn⟩ : ∃ n, n = xs.length := ⟨_, rfl⟩
  rw [← hn] at h
  have HN := Lib.hid hn
  obtain ⟨W0, hW0⟩ : ∃ W0, W0 = w.alloc (.cells #[v] 26) := ⟨_, rfl⟩
  have B0 : Hid (Below w.heap.size w W0) := Lib.hid (by rw [hW0]; exact below_alloc1 w _)
  clear hf
  by_cases hs : ScOk xs
  · rw [show scB xs = true from decide_eq_true hs] at CO
    have HS := Lib.hid hs
    have hn12 : 1 ≤ n ∧ n ≤ 12 := by rw [hn]; exact hs.1
    obtain ⟨q, c, rfl, hbox⟩ := scBox_new (by omega) h hW0
    have BX := Lib.hid hbox
    clear h hl hn hs hbox
    go_enter Try.func27, Try.ntmps27
    go_upto_region 1 with fail
    rw [← hW0]
    clear hW0
    obtain ⟨m, hm⟩ : ∃ m, m = w.heap.size := ⟨_, rfl⟩
    rw [← hm] at BX ⊢
    have HM := Lib.hid hm
    clear hm
    go_wp2_with fail
    go_loopw [3, 4] (fun s x wr => ∃ (k : Nat) (r : Int), k ≤ n ∧ s = .int .i64 r ∧ x = .int .i64 (k : Int) ∧ Hid ((k = 0 ∧ r = -1) ∨ (0 < k ∧ r = (brTo xs k : Int))) ∧ Hid (Below W0.heap.size W0 wr)) (fun _ x _ => 13 - (intOf x).toNat)
    case atStart => exact ⟨0, -1, Nat.zero_le _, by rfl, by go_num, Lib.hid (.inl ⟨rfl, rfl⟩), Lib.hid (Below.refl _ _)⟩
    case round =>
      obtain ⟨k, r0, hk, rfl, rfl, HO, HB⟩ := hrel
      by_cases hlt : k < n
      · have q3 : (k : Int) < n := by omega
        have c1 := scBox_cell (scBox_keep BX.out HB.out)
        have CK := Lib.hid (CO.out wr (B0.out.trans (HB.out.mono B0.out.size)))
        have HLT := Lib.hid hlt
        clear hlt
        go_wp2_with fail
        refine CK.out.mono ?_
        rintro e1 w1 ⟨rfl, b1⟩
        have B2 := Lib.hid (HB.out.trans (b1.mono HB.out.size))
        clear c1 b1 CK HB
        have CB := Lib.hid (scBox_keep BX.out B2.out)
        generalize w1 = wr at B2 CB ⊢
        rcases HO.out with ⟨hk0, hr0⟩ | ⟨hk0, hr0⟩
        · subst hk0
          subst hr0
          go_upto_region 5 with fail
          refine wp_region_held_drew (S := (fun w' => w'.cell? ⟨m, 0, none⟩ = some (.slice (some ⟨q, 0, none⟩) n c))) (by kernel_rfl) ?_ (fun hHeld => ?_)
          · exact scBox_cell (scBox_keep CB.out (Below.refl _ _).drew)
          refine takeD (i := 0) (d := (some 16)) (v := (.int .i64 (-1))) rfl rfl (by kernel_rfl) (by kernel_rfl) (by kernel_rfl) (fun _ _ _ h => h) (Or.inl ⟨by kernel_rfl, ?_⟩) (by assumption) ?_
          · intro wS hSw
            (try dsimp only at hSw)
            go_simp
          (try simp only [Act.put]); (try simp only [List.setIfInBounds_toArray]); (try simp only [List.set_cons_succ]); (try simp only [List.set_cons_zero])
          refine takeD (i := 1) (d := (some 17)) (v := (.bool true)) rfl rfl (by kernel_rfl) (by kernel_rfl) (by kernel_rfl) (fun _ _ _ h => h) (Or.inl ⟨by kernel_rfl, ?_⟩) (by assumption) ?_
          · intro wS hSw
            (try dsimp only at hSw)
            go_simp
            first | done | assumption | (simp; done) | (simp; omega)
          (try simp only [Act.put]); (try simp only [List.setIfInBounds_toArray]); (try simp only [List.set_cons_succ]); (try simp only [List.set_cons_zero])
          refine takeD (i := 2) (d := (some 18)) (v := (.bool true)) rfl rfl (by kernel_rfl) (by kernel_rfl) (by kernel_rfl) (fun _ _ _ h => h) (Or.inl ⟨by kernel_rfl, ?_⟩) (by assumption) ?_
          · intro wS hSw
            (try dsimp only at hSw)
            go_simp
          (try simp only [Act.put]); (try simp only [List.setIfInBounds_toArray]); (try simp only [List.set_cons_succ]); (try simp only [List.set_cons_zero])
          refine takeD (i := 3) (d := (some 19)) (v := undef) rfl rfl (by kernel_rfl) (by kernel_rfl) (by kernel_rfl) (fun _ _ _ h => h) (Or.inr ⟨by kernel_rfl, rfl⟩) (by assumption) ?_
          (try simp only [Act.put]); (try simp only [List.setIfInBounds_toArray]); (try simp only [List.set_cons_succ]); (try simp only [List.set_cons_zero])
          refine takeD (i := 4) (d := (some 20)) (v := undef) rfl rfl (by kernel_rfl) (by kernel_rfl) (by kernel_rfl) (fun _ _ _ h => h) (Or.inr ⟨by kernel_rfl, rfl⟩) (by assumption) ?_
          (try simp only [Act.put]); (try simp only [List.setIfInBounds_toArray]); (try simp only [List.set_cons_succ]); (try simp only [List.set_cons_zero])
          refine takeD (i := 5) (d := (some 21)) (v := undef) rfl rfl (by kernel_rfl) (by kernel_rfl) (by kernel_rfl) (fun _ _ _ h => h) (Or.inr ⟨by kernel_rfl, rfl⟩) (by assumption) ?_
          (try simp only [Act.put]); (try simp only [List.setIfInBounds_toArray]); (try simp only [List.set_cons_succ]); (try simp only [List.set_cons_zero])
          refine takeD (i := 6) (d := (some 22)) (v := undef) rfl rfl (by kernel_rfl) (by kernel_rfl) (by kernel_rfl) (fun _ _ _ h => h) (Or.inr ⟨by kernel_rfl, rfl⟩) (by assumption) ?_
          (try simp only [Act.put]); (try simp only [List.setIfInBounds_toArray]); (try simp only [List.set_cons_succ]); (try simp only [List.set_cons_zero])
          refine takeD (i := 7) (d := (some 23)) (v := undef) rfl rfl (by kernel_rfl) (by kernel_rfl) (by kernel_rfl) (fun _ _ _ h => h) (Or.inr ⟨by kernel_rfl, rfl⟩) (by assumption) ?_
          (try simp only [Act.put]); (try simp only [List.setIfInBounds_toArray]); (try simp only [List.set_cons_succ]); (try simp only [List.set_cons_zero])
          refine takeD (i := 8) (d := (some 24)) (v := undef) rfl rfl (by kernel_rfl) (by kernel_rfl) (by kernel_rfl) (fun _ _ _ h => h) (Or.inr ⟨by kernel_rfl, rfl⟩) (by assumption) ?_
          (try simp only [Act.put]); (try simp only [List.setIfInBounds_toArray]); (try simp only [List.set_cons_succ]); (try simp only [List.set_cons_zero])
          refine takeD (i := 9) (d := (some 25)) (v := undef) rfl rfl (by kernel_rfl) (by kernel_rfl) (by kernel_rfl) (fun _ _ _ h => h) (Or.inr ⟨by kernel_rfl, rfl⟩) (by assumption) ?_
          (try simp only [Act.put]); (try simp only [List.setIfInBounds_toArray]); (try simp only [List.set_cons_succ]); (try simp only [List.set_cons_zero])
          refine takeD (i := 10) (d := (some 26)) (v := undef) rfl rfl (by kernel_rfl) (by kernel_rfl) (by kernel_rfl) (fun _ _ _ h => h) (Or.inr ⟨by kernel_rfl, rfl⟩) (by assumption) ?_
          (try simp only [Act.put]); (try simp only [List.setIfInBounds_toArray]); (try simp only [List.set_cons_succ]); (try simp only [List.set_cons_zero])
          refine takeD (i := 11) (d := (some 27)) (v := undef) rfl rfl (by kernel_rfl) (by kernel_rfl) (by kernel_rfl) (fun _ _ _ h => h) (Or.inr ⟨by kernel_rfl, rfl⟩) (by assumption) ?_
          (try simp only [Act.put]); (try simp only [List.setIfInBounds_toArray]); (try simp only [List.set_cons_succ]); (try simp only [List.set_cons_zero])
          refine takeD (i := 12) (d := (some 28)) (v := (.bool true)) rfl rfl (by kernel_rfl) (by kernel_rfl) (by kernel_rfl) (fun _ _ _ h => h) (Or.inl ⟨by kernel_rfl, ?_⟩) (by assumption) ?_
          · intro wS hSw
            (try dsimp only at hSw)
            go_simp
          (try simp only [Act.put]); (try simp only [List.setIfInBounds_toArray]); (try simp only [List.set_cons_succ]); (try simp only [List.set_cons_zero])
          refine wpAnyH_done (by kernel_rfl) ?_ _
          go_wp2_with fail
          go_roundw
          case rel => exact ⟨1, 0, HLT.out, by go_num, by go_num, Lib.hid (.inr ⟨by omega, by rfl⟩), Lib.hid B2.out.drew⟩
          case measure => simp [intOf]
        · obtain ⟨k', rfl⟩ : ∃ k', k = k' + 1 := ⟨k - 1, by omega⟩
          have hrl := brTo_lt xs k'
          obtain ⟨r, hr⟩ : ∃ r, r = brTo xs (k' + 1) := ⟨_, rfl⟩
          rw [← hr] at hr0 hrl
          subst hr0
          obtain ⟨k, hkk⟩ : ∃ k, k = k' + 1 := ⟨_, rfl⟩
          rw [← hkk] at hr hk HLT q3 ⊢
          obtain ⟨y, hy⟩ : ∃ y, y = gtL (modL xs k) (modL xs r) := ⟨_, rfl⟩
          have MO : Mo1 47 (.slice (some ⟨q, 0, none⟩) n c) (k : Int) (r : Int) y wr := by rw [hy]; exact mo_great HS.out (by have := HN.out; have := HLT.out; omega) (by have := HN.out; have := HLT.out; omega) HLL.out (HR.out wr (B0.out.trans (B2.out.mono B0.out.size)))
          have HE := Lib.hid (show brTo xs (k + 1) = if y = true then k else r from by
            show (if k = 0 then 0 else if gtL (modL xs k) (modL xs (brTo xs k)) = true then k else brTo xs k) = _
            rw [if_neg (by omega), ← hr, ← hy])
          have r0 : ¬ (r : Int) < 0 := by omega
          have HK := Lib.hid hkk
          clear hy hr hkk hk0 HO hrl
          go_upto_region 5 with fail
          refine wp_region_held_drew (S := (fun w' => w'.cell? ⟨m, 0, none⟩ = some (.slice (some ⟨q, 0, none⟩) n c))) (by kernel_rfl) ?_ (fun hHeld => ?_)
          · exact scBox_cell (scBox_keep CB.out (Below.refl _ _).drew)
          refine takeD (i := 0) (d := (some 16)) (v := (.int .i64 (r : Int))) rfl rfl (by kernel_rfl) (by kernel_rfl) (by kernel_rfl) (fun _ _ _ h => h) (Or.inl ⟨by kernel_rfl, ?_⟩) (by assumption) ?_
          · intro wS hSw
            (try dsimp only at hSw)
            go_simp
          (try simp only [Act.put]); (try simp only [List.setIfInBounds_toArray]); (try simp only [List.set_cons_succ]); (try simp only [List.set_cons_zero])
          refine takeD (i := 1) (d := (some 17)) (v := (.bool false)) rfl rfl (by kernel_rfl) (by kernel_rfl) (by kernel_rfl) (fun _ _ _ h => h) (Or.inl ⟨by kernel_rfl, ?_⟩) (by assumption) ?_
          · intro wS hSw
            (try dsimp only at hSw)
            go_simp
            first | done | assumption | (simp; done) | (simp; omega)
          (try simp only [Act.put]); (try simp only [List.setIfInBounds_toArray]); (try simp only [List.set_cons_succ]); (try simp only [List.set_cons_zero])
          refine takeD (i := 2) (d := (some 18)) (v := (.bool false)) rfl rfl (by kernel_rfl) (by kernel_rfl) (by kernel_rfl) (fun _ _ _ h => h) (Or.inl ⟨by kernel_rfl, ?_⟩) (by assumption) ?_
          · intro wS hSw
            (try dsimp only at hSw)
            go_simp
          (try simp only [Act.put]); (try simp only [List.setIfInBounds_toArray]); (try simp only [List.set_cons_succ]); (try simp only [List.set_cons_zero])
          refine takeD (i := 3) (d := (some 19)) (v := (cirV (.slice (some ⟨q, 0, none⟩) n c))) rfl rfl (by kernel_rfl) (by kernel_rfl) (by kernel_rfl) (fun _ _ _ h => h) (Or.inl ⟨by kernel_rfl, ?_⟩) (by assumption) ?_
          · intro wS hSw
            (try dsimp only at hSw)
            go_simp
          (try simp only [Act.put]); (try simp only [List.setIfInBounds_toArray]); (try simp only [List.set_cons_succ]); (try simp only [List.set_cons_zero])
          refine takeD (i := 4) (d := (some 20)) (v := (.int .i64 (k : Int))) rfl rfl (by kernel_rfl) (by kernel_rfl) (by kernel_rfl) (fun _ _ _ h => h) (Or.inl ⟨by kernel_rfl, ?_⟩) (by assumption) ?_
          · intro wS hSw
            (try dsimp only at hSw)
            go_simp
          (try simp only [Act.put]); (try simp only [List.setIfInBounds_toArray]); (try simp only [List.set_cons_succ]); (try simp only [List.set_cons_zero])
          refine takeD (i := 7) (d := (some 23)) (v := (cirV (.slice (some ⟨q, 0, none⟩) n c))) rfl rfl (by kernel_rfl) (by kernel_rfl) (by kernel_rfl) (fun _ _ _ h => h) (Or.inl ⟨by kernel_rfl, ?_⟩) (by assumption) ?_
          · intro wS hSw
            (try dsimp only at hSw)
            go_simp
          (try simp only [Act.put]); (try simp only [List.setIfInBounds_toArray]); (try simp only [List.set_cons_succ]); (try simp only [List.set_cons_zero])
          refine takeD (i := 8) (d := (some 24)) (v := (.int .i64 (r : Int))) rfl rfl (by kernel_rfl) (by kernel_rfl) (by kernel_rfl) (fun _ _ _ h => h) (Or.inl ⟨by kernel_rfl, ?_⟩) (by assumption) ?_
          · intro wS hSw
            (try dsimp only at hSw)
            go_simp
          (try simp only [Act.put]); (try simp only [List.setIfInBounds_toArray]); (try simp only [List.set_cons_succ]); (try simp only [List.set_cons_zero])
          refine wpAnyH_ready (rs := [5]) (by kernel_rfl) (by simp) ?_
          refine AllReadyH.cons rfl (fun K hK => ?_) AllReadyH.nil
          go_simp
          refine (mo1_run (f := 47) (W := wr) MO _ (by with_reducible first | assumption | exact (Below.refl _ _) | exact (Below.refl _ _).drew)).mono ?_
          rintro e1 w1 ⟨u1, rfl, hm2, hb⟩
          go_wp2_with fail
          refine hK.out _ _ ?_ (fun hHeld => ?_)
          · exact scBox_cell (scBox_keep CB.out hb)
          clear hK K
          (try simp only [Act.put]); (try simp only [List.setIfInBounds_toArray]); (try simp only [List.set_cons_succ]); (try simp only [List.set_cons_zero])
          refine takeD (i := 6) (d := (some 22)) (v := u1) rfl rfl (by kernel_rfl) (by kernel_rfl) (by kernel_rfl) (fun _ _ _ h => h) (Or.inl ⟨by kernel_rfl, ?_⟩) (by assumption) ?_
          · intro wS hSw
            (try dsimp only at hSw)
            go_simp
            first | done | (rw [sc_field]; done) | (simp [sc_field]; done)
          (try simp only [Act.put]); (try simp only [List.setIfInBounds_toArray]); (try simp only [List.set_cons_succ]); (try simp only [List.set_cons_zero])
          refine wpAnyH_ready (rs := [9]) (by kernel_rfl) (by simp) ?_
          refine AllReadyH.cons rfl (fun K hK => ?_) AllReadyH.nil
          go_simp
          refine (mo2_run (f := 47) hm2 _ (by with_reducible first | assumption | exact (Below.refl _ _) | exact (Below.refl _ _).drew)).mono ?_
          rintro e1 w1 ⟨u2, rfl, hm3, hb⟩
          go_wp2_with fail
          refine hK.out _ _ ?_ (fun hHeld => ?_)
          · exact scBox_cell (scBox_keep CB.out hb)
          clear hK K
          (try simp only [Act.put]); (try simp only [List.setIfInBounds_toArray]); (try simp only [List.set_cons_succ]); (try simp only [List.set_cons_zero])
          refine takeD (i := 10) (d := (some 26)) (v := u2) rfl rfl (by kernel_rfl) (by kernel_rfl) (by kernel_rfl) (fun _ _ _ h => h) (Or.inl ⟨by kernel_rfl, ?_⟩) (by assumption) ?_
          · intro wS hSw
            (try dsimp only at hSw)
            go_simp
            first | done | (rw [sc_field]; done) | (simp [sc_field]; done)
          (try simp only [Act.put]); (try simp only [List.setIfInBounds_toArray]); (try simp only [List.set_cons_succ]); (try simp only [List.set_cons_zero])
          refine wpAnyH_ready (rs := [11]) (by kernel_rfl) (by simp) ?_
          refine AllReadyH.cons rfl (fun K hK => ?_) AllReadyH.nil
          go_simp
          refine (cmp3_run (f := 47) hm3 _ (by with_reducible first | assumption | exact (Below.refl _ _) | exact (Below.refl _ _).drew)).mono ?_
          rintro e1 w1 ⟨rfl, hb⟩
          go_wp2_with fail
          refine hK.out _ _ ?_ (fun hHeld => ?_)
          · exact scBox_cell (scBox_keep CB.out hb)
          clear hK K
          (try simp only [Act.put]); (try simp only [List.setIfInBounds_toArray]); (try simp only [List.set_cons_succ]); (try simp only [List.set_cons_zero])
          refine takeD (i := 12) (d := (some 28)) (v := (.bool y)) rfl rfl (by kernel_rfl) (by kernel_rfl) (by kernel_rfl) (fun _ _ _ h => h) (Or.inl ⟨by kernel_rfl, ?_⟩) (by assumption) ?_
          · intro wS hSw
            (try dsimp only at hSw)
            go_simp
            first | done | assumption | (simp; done) | (simp; omega)
          (try simp only [Act.put]); (try simp only [List.setIfInBounds_toArray]); (try simp only [List.set_cons_succ]); (try simp only [List.set_cons_zero])
          refine wpAnyH_done (by kernel_rfl) ?_ _
          have B5 := Lib.hid (B2.out.trans (hb.mono B2.out.size))
          clear hb B2 CB MO
          cases y
          · go_wp2_with fail
            go_roundw
            case rel => exact ⟨k + 1, r, HLT.out, by first | trivial | rfl, by go_num, Lib.hid (.inr ⟨by omega, by rw [HE.out]; rfl⟩), B5⟩
            case measure => simp [intOf]; have := HLT.out; have := HK.out; omega
          · go_wp2_with fail
            go_roundw
            case rel => exact ⟨k + 1, k, HLT.out, by first | trivial | rfl, by go_num, Lib.hid (.inr ⟨by omega, by rw [HE.out]; rfl⟩), B5⟩
            case measure => simp [intOf]; have := HLT.out; have := HK.out; omega
      · have q3 : ¬ (k : Int) < n := by omega
        obtain rfl : k = n := by omega
        have c1 := scBox_cell (scBox_keep BX.out HB.out)
        have hr0 : r0 = (brTo xs k : Int) := HO.out.elim (fun u => by omega) (fun u => u.2)
        have R := Lib.hid (show y0 = r0 from by rw [HF.out, hr0]; unfold brF; rw [if_pos HS.out, HN.out])
        have B3 := Lib.hid (B0.out.trans (HB.out.mono B0.out.size))
        clear hr0 HO
        go_wp2_with fail
        go_ret
        exact ⟨ret_int R.out.symm, B3.out⟩
  · rw [show scB xs = false from decide_eq_false hs] at CO
    have R := Lib.hid (show y0 = -1 from by rw [HF.out]; exact if_neg hs)
    obtain ⟨p, c, rfl⟩ := own_slice h
    obtain ⟨_, c0, _⟩ := one_alloc (w := w) (v := .slice p n c) (t := 26)
    rw [← hW0] at c0
    have CK := Lib.hid (CO.out W0 B0.out)
    clear h hl hn hs CO HR
    go_enter Try.func27, Try.ntmps27
    go_upto_region 1 with fail
    rw [← hW0]
    clear hW0
    go_wp2_with fail
    go_loopw [3, 4] (fun s k wr => s = .int .i64 (-1) ∧ k = .int .i64 0 ∧ wr = W0) (fun _ _ _ => 0)
    case atStart => exact ⟨rfl, rfl, rfl⟩
    case round =>
      obtain ⟨rfl, rfl, hwr⟩ := hrel
      subst hwr
      by_cases hlt : 0 < n
      · have q3 : (0 : Int) < n := by omega
        go_wp2_with fail
        refine CK.out.mono ?_
        rintro e1 w1 ⟨rfl, b1⟩
        have B3 := Lib.hid (B0.out.trans (b1.mono B0.out.size))
        go_wp2_with fail
        go_ret
        exact ⟨ret_int R.out.symm, B3.out⟩
      · have q3 : ¬ (0 : Int) < n := by omega
        go_wp2_with fail
        go_ret
        exact ⟨ret_int R.out.symm, B0.out⟩
end Go.Proofs.Ytneblpplkidkfaa
