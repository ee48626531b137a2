/- The walk of laws.FnSpans over the program's contracts. Written by join.py. -/
import Derived.Test.YtelaihfjlkppiaaScImpl
import Derived.Test.YtelaihfjlkppiaaDrawSc
import Derived.Test.YtelaihfjlkppiaaAtWalks
import Derived.Test.YtelaihfjlkppiaaHasInts
import Derived.Test.YtelaihfjlkppiaaTakeD
import Derived.Deep.RegionHeld3
import Derived.Deep.DeepCutAuto
namespace Go.Proofs.Ytelaihfjlkppiaa
open Go.RowKit Go.Joins
set_option linter.unusedVariables false
/-- What is called, behind a world that is named. -/
def SpF (v : Value) (i k y : Int) (W : World) : Prop := ∀ X, Below W.heap.size W X → Calls Try.prog 14 #[cirV v, .int .i64 i, .int .i64 k] X fun e w' => e = .returned (.int .i64 y) ∧ Below W.heap.size W w'
theorem spF_run {v : Value} {i k y : Int} {W : World} (h : SpF v i k y W) (X : World) (hX : Below W.heap.size W X) : Calls Try.prog 14 #[cirV v, .int .i64 i, .int .i64 k] X fun e w' => e = .returned (.int .i64 y) ∧ Below W.heap.size W w' := h X hX
theorem spF_mk (SI : SpanImpl) {xs : List Int} {W : World} {b : Nat} {e : TypeId} {v : Value} {i k y : Int} (hl : xs.length ≤ 2000000) (h : W.ownsRow b e 1 v xs.length (intCs xs)) (hy : y = spanF xs i k) : SpF v i k y W :=
  fun X hX => (SI xs i k y hy X b e v hl (own_below h hX)).mono fun _ _ ⟨he, hb⟩ => ⟨he, hX.trans (hb.mono hX.size)⟩
def SuF (v : Value) (y : Int) (W : World) : Prop := ∀ X, Below W.heap.size W X → Calls Try.prog 15 #[cirV v] X fun e w' => e = .returned (.int .i64 y) ∧ Below W.heap.size W w'
theorem suF_run {v : Value} {y : Int} {W : World} (h : SuF v y W) (X : World) (hX : Below W.heap.size W X) : Calls Try.prog 15 #[cirV v] X fun e w' => e = .returned (.int .i64 y) ∧ Below W.heap.size W w' := h X hX
def HsF (v : Value) (y : Int) (W : World) : Prop := ∀ X, Below W.heap.size W X → Calls Try.prog 16 #[v, .int .i64 y] X fun e w' => e = .returned (.bool true) ∧ Below W.heap.size W w'
theorem hsF_run {v : Value} {y : Int} {W : World} (h : HsF v y W) (X : World) (hX : Below W.heap.size W X) : Calls Try.prog 16 #[v, .int .i64 y] X fun e w' => e = .returned (.bool true) ∧ Below W.heap.size W w' := h X hX
def TwF (v : Value) (W' W : World) : Prop := ∀ X, Below W'.heap.size W' X → Calls Try.prog 17 #[cirV v] X fun e w'' => e = .returned (.bool true) ∧ Below W.heap.size W w''
theorem twF_run {v : Value} {W' W : World} (h : TwF v W' W) (X : World) (hX : Below W'.heap.size W' X) : Calls Try.prog 17 #[cirV v] X fun e w'' => e = .returned (.bool true) ∧ Below W.heap.size W w'' := h X hX
def MjF (W : World) : Prop := ∀ X, Below W.heap.size W X → Calls Try.prog 18 #[] X fun e w' => ∃ v, e = .returned (cirV v) ∧ TwF v w' W ∧ Below W.heap.size W w'
theorem mjF_run {W : World} (h : MjF W) (X : World) (hX : Below W.heap.size W X) : Calls Try.prog 18 #[] X fun e w' => ∃ v, e = .returned (cirV v) ∧ TwF v w' W ∧ Below W.heap.size W w' := h X hX
theorem mjF_mk (MI : MajImpl) (TI : TwoImpl) (W : World) : MjF W := fun X hX => (MI X).mono fun e w' ⟨v, he, ho, hb⟩ =>
  have h2 : Below W.heap.size W w' := hX.trans (hb.mono hX.size)
  ⟨v, he, fun Y hY => (TI majL true maj_two.symm Y _ _ v (by decide) (own_below ho hY)).mono fun _ _ ⟨h3, h4⟩ => ⟨h3, h2.trans ((hY.trans (h4.mono hY.size)).mono h2.size)⟩, h2⟩
/-- SpansOf with one number. -/
def OnF (v : Value) (i : Int) (W : World) : Prop := ∀ X, Below W.heap.size W X → Calls Try.prog 13 #[cirV v, .int .i64 i] X fun e w' => ∃ p c, e = .returned (.slice p 1 c) ∧ Below W.heap.size W w'
theorem onF_run {v : Value} {i : Int} {W : World} (h : OnF v i W) (X : World) (hX : Below W.heap.size W X) : Calls Try.prog 13 #[cirV v, .int .i64 i] X fun e w' => ∃ p c, e = .returned (.slice p 1 c) ∧ Below W.heap.size W w' := h X hX
theorem onF_mk (PI : SpansImpl) {xs : List Int} {W : World} {b : Nat} {e : TypeId} {v : Value} (hs : ScOk xs) (hl : xs.length ≤ 2000000) (h : W.ownsRow b e 1 v xs.length (intCs xs)) : OnF v (xs.length : Int) W := fun X hX =>
  (PI xs (xs.length : Int) _ rfl X b e v hl (own_below h hX)).mono fun e' w' ⟨v', he, ho, hb⟩ => by
    rw [sps_yes hs (Nat.le_refl _), sps_whole hs] at ho
    obtain ⟨p, c, rfl⟩ := own_slice (n := 1) ho
    exact ⟨p, c, he, hX.trans (hb.mono hX.size)⟩
theorem one_j {w : World} {m : Nat} {v : Value} (h : One m v w) : w.cell? ⟨m, 0, none⟩ = some v := h.2.1
set_option maxRecDepth 100000 in
set_option maxHeartbeats 16000000 in
theorem walk_FnSpansBy (SI : SpanImpl) (PI : SpansImpl) (SU : ScSumImpl) (TI : TwoImpl) (MI : MajImpl) (a0 : Option Addr) (len0 cap0 : Nat) (z0 : List Int) (w : World) (hr : IsRow .u8 w a0 len0 cap0 z0) :
    Calls Try.prog 3 #[.slice a0 len0 cap0] w fun e w' => e = .returned (.bool true) ∧ Below w.heap.size w w' := by
  have hlen := (row_len hr).2
  by_cases hbig : 1048576 < len0
  · have t0 : decide (1048576 < (len0 : Int)) = true := by simp; omega
    go_enter Try.func3, Try.ntmps3
    go_wp2_with fail
    refine (bigW_any _ _ _ _ hlen).mono ?_
    rintro e w' ⟨rfl, rfl⟩
    go_wp2_with fail
    go_ret
    exact ⟨rfl, Below.refl _ _⟩
  · have t0 : decide (1048576 < (len0 : Int)) = false := by simp; omega
    have HR := Lib.hid hr
    obtain ⟨u0, hu0, hat0⟩ := at_fix hr (by omega) 0 (by omega)
    obtain ⟨u1, hu1, hat1⟩ := at_fix hr (by omega) 1 (by omega)
    obtain ⟨u2, hu2, hat2⟩ := at_fix hr (by omega) 2 (by omega)
    have AT0 := Lib.hid hat0
    have AT1 := Lib.hid hat1
    have AT2 := Lib.hid hat2
    have HU := Lib.hid (And.intro hu0 (And.intro hu1 hu2))
    have HLEN := Lib.hid hlen
    clear hr hbig hlen hat0 hat1 hat2 hu0 hu1 hu2
    go_enter Try.func3, Try.ntmps3
    go_wp2_with fail
    refine (bigW_any _ _ _ _ HLEN.out).mono ?_
    rintro e w' ⟨rfl, rfl⟩
    rw [t0]
    go_wp2_with fail
    clear t0
    refine (drawScale_any HR.out).mono ?_
    rintro e w1 ⟨xs, p, c, hsm, rfl, o1, b1⟩
    have OK := Lib.hid (smallSc_ok hsm)
    obtain ⟨n, hn⟩ : ∃ n, n = xs.length := ⟨_, rfl⟩
    rw [← hn] at o1 ⊢
    have HN := Lib.hid hn
    have hn8 : 1 ≤ n ∧ n ≤ 8 := by rw [hn]; exact hsm.1
    have X1 := Lib.hid (one_alloc (w := w1) (v := .slice p n c) (t := 26))
    have O1 := Lib.hid (own_below o1 (below_alloc1 w1 (.cells #[.slice p n c] 26)))
    have B1 := Lib.hid (b1.alloc b1.size (.cells #[.slice p n c] 26))
    clear hsm o1 b1 HR HLEN hn
    go_upto_region 4 with fail
    obtain ⟨W1, hW⟩ : ∃ W, W = w1.alloc (.cells #[.slice p n c] 26) := ⟨_, rfl⟩
    obtain ⟨m, hm⟩ : ∃ m, m = w1.heap.size := ⟨_, rfl⟩
    rw [← hW] at X1 O1 B1 ⊢
    rw [← hm] at X1 ⊢
    clear hW hm
    obtain ⟨i, hi⟩ : ∃ i, i = u0 % n := ⟨_, rfl⟩
    obtain ⟨a, ha⟩ : ∃ a, a = u1 % (n + 1) := ⟨_, rfl⟩
    have hin : i < n := by rw [hi]; exact Nat.mod_lt _ (by omega)
    have han : a ≤ n := by have : a < n + 1 := by { rw [ha]; exact Nat.mod_lt _ (by omega) }; omega
    obtain ⟨d, hd⟩ : ∃ d, d = n + 1 - a := ⟨_, rfl⟩
    obtain ⟨b, hb⟩ : ∃ b, b = u2 % d := ⟨_, rfl⟩
    have hbd : b < d := by rw [hb]; exact Nat.mod_lt _ (by omega)
    have e1 : (u0 : Int).tmod (n : Int) = (i : Int) := by rw [Int.tmod_eq_emod_of_nonneg (by omega), hi]; rfl
    have e1e : (u0 : Int) % (n : Int) = (i : Int) := by rw [hi]; rfl
    have e2 : (u1 : Int).tmod ((n : Int) + 1) = (a : Int) := by rw [Int.tmod_eq_emod_of_nonneg (by omega), ha]; rfl
    have e2e : (u1 : Int) % ((n : Int) + 1) = (a : Int) := by rw [ha]; rfl
    have ed : (n : Int) + 1 - (a : Int) = (d : Int) := by omega
    have e3 : (u2 : Int).tmod (d : Int) = (b : Int) := by rw [Int.tmod_eq_emod_of_nonneg (by omega), hb]; rfl
    have e3e : (u2 : Int) % (d : Int) = (b : Int) := by rw [hb]; rfl
    have z1 : ¬ (n : Int) = 0 := by omega
    have z1n : ¬ n = 0 := by omega
    have z2 : ¬ (n : Int) + 1 = 0 := by omega
    have z3 : ¬ (d : Int) = 0 := by omega
    have z3n : ¬ d = 0 := by omega
    have HAB := Lib.hid (show a + b ≤ n from by omega)
    have HIA := Lib.hid (And.intro hin han)
    clear hi ha hb hd hbd
    obtain ⟨_, c1, _⟩ := X1.out
    go_wp2_with fail
    refine (AT0.out _ B1.out).mono ?_
    rintro e w2 ⟨rfl, rfl⟩
    go_wp2_with fail
    refine (AT1.out _ B1.out).mono ?_
    rintro e w2 ⟨rfl, rfl⟩
    go_wp2_with fail
    refine (AT2.out _ B1.out).mono ?_
    rintro e w2 ⟨rfl, rfl⟩
    clear e1 e1e AT0 AT1 AT2
    go_wp2_with fail
    clear e2 e2e ed e3 e3e z2 z3 z3n
    have HL := Lib.hid (show xs.length ≤ 2000000 from by have := HN.out; omega)
    have OX := Lib.hid (own_eq O1.out (rfl : xs = xs) HN.out)
    refine (PI xs (a : Int) _ rfl _ _ _ _ HL.out OX.out).mono ?_
    rintro e W5 ⟨v8, rfl, o5, b5⟩
    have X5 := Lib.hid (one_keep b5 X1.out)
    have B5 := Lib.hid (B1.out.trans (b5.mono B1.out.size))
    have O5 := Lib.hid (own_below OX.out b5)
    have HA := Lib.hid HIA.out.2
    rw [sps_yes OK.out (show a ≤ xs.length from by rw [← HN.out]; exact HA.out)] at o5
    obtain ⟨y1, hy1⟩ : ∃ y, y = spTo xs i a := ⟨_, rfl⟩
    obtain ⟨y2, hy2⟩ : ∃ y, y = spTo xs (i + a) b := ⟨_, rfl⟩
    obtain ⟨y4, hy4⟩ : ∃ y, y = sumTo xs xs.length := ⟨_, rfl⟩
    have bd1 := sp_bd OK.out i a
    have bd2 := sp_bd OK.out (i + a) b
    rw [← hy1] at bd1
    rw [← hy2] at bd2
    have hb8 : b ≤ 8 := by have := HAB.out; omega
    have hin' : i < xs.length := by rw [← HN.out]; exact HIA.out.1
    have F1 : SpF (.slice p n c) (i : Int) (a : Int) y1 W5 := spF_mk SI HL.out O5.out (by rw [span_yes OK.out hin' (by rw [← HN.out]; exact HA.out)]; exact hy1)
    obtain ⟨ia, hia⟩ : ∃ x, x = i + a := ⟨_, rfl⟩
    obtain ⟨l, hl⟩ : ∃ x, x = ia % n := ⟨_, rfl⟩
    have hln : l < n := by rw [hl]; exact Nat.mod_lt _ (by omega)
    have F2 : SpF (.slice p n c) (l : Int) (b : Int) y2 W5 := spF_mk SI HL.out O5.out (by rw [span_yes OK.out (by rw [← HN.out]; exact hln) (by have := HAB.out; have := HN.out; omega), hl, HN.out, sp_mod, hia]; exact hy2)
    obtain ⟨s, hs⟩ : ∃ x, x = a + b := ⟨_, rfl⟩
    have hy3 : y1 + y2 = spTo xs i s := by rw [hs, sp_add, hy1, hy2]
    have F3 : SpF (.slice p n c) (i : Int) (s : Int) (y1 + y2) W5 := spF_mk SI HL.out O5.out (by rw [span_yes OK.out hin' (by have := HAB.out; have := HN.out; omega)]; exact hy3)
    have F4 : SpF (.slice p n c) (i : Int) (n : Int) y4 W5 := spF_mk SI HL.out O5.out (by rw [HN.out, span_yes OK.out hin' (Nat.le_refl _), sp_all]; exact hy4)
    have F5 : SuF (.slice p n c) y4 W5 := fun X hX => (SU xs y4 (by rw [hy4]; exact (if_pos OK.out).symm) X _ _ _ HL.out (own_below O5.out hX)).mono fun _ _ ⟨he, hb⟩ => ⟨he, hX.trans (hb.mono hX.size)⟩
    have F6 : HsF v8 y1 W5 := fun X hX => by
      have k := has_any X _ _ v8 (spsTo xs a xs.length) y1 (by have := sps_len xs a xs.length; have := HL.out; omega) (own_below o5 hX)
      rw [show decide (y1 ∈ spsTo xs a xs.length) = true from decide_eq_true ((sps_mem xs a y1 xs.length).2 ⟨i, hin', hy1⟩)] at k
      exact k.mono fun _ _ ⟨he, hb⟩ => ⟨he, hX.trans (hb.mono hX.size)⟩
    have F7 : MjF W5 := mjF_mk MI TI W5
    have F8 : OnF (.slice p n c) (n : Int) W5 := by
      have k := onF_mk PI OK.out HL.out O5.out
      rwa [← HN.out] at k
    obtain ⟨y3, h3⟩ : ∃ y, y = y1 + y2 := ⟨_, rfl⟩
    rw [← h3] at F3
    have wy : IntKind.i64.wrap (y1 + y2) = y3 := by rw [h3]; exact IntWalk.i64_in _ (by omega)
    have wa : IntKind.i64.wrap ((i : Int) + a) = (ia : Int) := by rw [hia]; exact IntWalk.i64_in _ (by omega)
    have ws : IntKind.i64.wrap ((a : Int) + b) = (s : Int) := by rw [hs]; exact IntWalk.i64_in _ (by omega)
    have vt : (ia : Int).tmod (n : Int) = (l : Int) := by rw [Int.tmod_eq_emod_of_nonneg (by omega), hl]; rfl
    have ve : (ia : Int) % (n : Int) = (l : Int) := by rw [hl]; rfl
    have q3 : (y3 == y3) = true := by simp
    have q4 : (y4 == y4) = true := by simp
    obtain ⟨_, c5, _⟩ := X5.out
    clear hy1 hy2 hy4 hy3 h3 hia hl hs hln hin' bd1 bd2 hb8 o5 b5 O1 OX O5 X1 B1 SI PI SU TI MI HU HIA HA HAB hin han c1
    go_upto_region 9 with fail
    refine wp_region_held_drew (S := (fun w' => w'.cell? ⟨m, 0, none⟩ = some (.slice p n c))) (by kernel_rfl) ?_ (fun hHeld => ?_)
    · exact one_j (one_keep (Below.refl _ _).drew X5.out)
    refine takeD (i := 0) (d := (some 35)) (v := (cirV (.slice p n c))) rfl rfl (by kernel_rfl) (by kernel_rfl) (by kernel_rfl) (fun _ _ _ h => h) (Or.inl ⟨by kernel_rfl, ?_⟩) (by assumption) ?_
    · intro wS hSw
      (try dsimp only at hSw)
      go_simp
      first | done | assumption | (simp only [wa]; done) | (simp only [vt]; done) | (simp only [ve]; done) | (simp only [ws]; done) | (simp only [wy]; done) | (simp; done) | (simp [vt, ve, z1, z1n]; done)
    (try simp only [Act.put]); (try simp only [List.setIfInBounds_toArray]); (try simp only [List.set_cons_succ]); (try simp only [List.set_cons_zero])
    refine takeD (i := 1) (d := (some 36)) (v := (.int .i64 (i : Int))) rfl rfl (by kernel_rfl) (by kernel_rfl) (by kernel_rfl) (fun _ _ _ h => h) (Or.inl ⟨by kernel_rfl, ?_⟩) (by assumption) ?_
    · intro wS hSw
      (try dsimp only at hSw)
      go_simp
      first | done | assumption | (simp only [wa]; done) | (simp only [vt]; done) | (simp only [ve]; done) | (simp only [ws]; done) | (simp only [wy]; done) | (simp; done) | (simp [vt, ve, z1, z1n]; done)
    (try simp only [Act.put]); (try simp only [List.setIfInBounds_toArray]); (try simp only [List.set_cons_succ]); (try simp only [List.set_cons_zero])
    refine takeD (i := 2) (d := (some 37)) (v := (.int .i64 (a : Int))) rfl rfl (by kernel_rfl) (by kernel_rfl) (by kernel_rfl) (fun _ _ _ h => h) (Or.inl ⟨by kernel_rfl, ?_⟩) (by assumption) ?_
    · intro wS hSw
      (try dsimp only at hSw)
      go_simp
      first | done | assumption | (simp only [wa]; done) | (simp only [vt]; done) | (simp only [ve]; done) | (simp only [ws]; done) | (simp only [wy]; done) | (simp; done) | (simp [vt, ve, z1, z1n]; done)
    (try simp only [Act.put]); (try simp only [List.setIfInBounds_toArray]); (try simp only [List.set_cons_succ]); (try simp only [List.set_cons_zero])
    refine takeD (i := 4) (d := (some 39)) (v := (cirV (.slice p n c))) rfl rfl (by kernel_rfl) (by kernel_rfl) (by kernel_rfl) (fun _ _ _ h => h) (Or.inl ⟨by kernel_rfl, ?_⟩) (by assumption) ?_
    · intro wS hSw
      (try dsimp only at hSw)
      go_simp
      first | done | assumption | (simp only [wa]; done) | (simp only [vt]; done) | (simp only [ve]; done) | (simp only [ws]; done) | (simp only [wy]; done) | (simp; done) | (simp [vt, ve, z1, z1n]; done)
    (try simp only [Act.put]); (try simp only [List.setIfInBounds_toArray]); (try simp only [List.set_cons_succ]); (try simp only [List.set_cons_zero])
    refine takeD (i := 5) (d := (some 40)) (v := (.int .i64 (i : Int))) rfl rfl (by kernel_rfl) (by kernel_rfl) (by kernel_rfl) (fun _ _ _ h => h) (Or.inl ⟨by kernel_rfl, ?_⟩) (by assumption) ?_
    · intro wS hSw
      (try dsimp only at hSw)
      go_simp
      first | done | assumption | (simp only [wa]; done) | (simp only [vt]; done) | (simp only [ve]; done) | (simp only [ws]; done) | (simp only [wy]; done) | (simp; done) | (simp [vt, ve, z1, z1n]; done)
    (try simp only [Act.put]); (try simp only [List.setIfInBounds_toArray]); (try simp only [List.set_cons_succ]); (try simp only [List.set_cons_zero])
    refine takeD (i := 6) (d := (some 41)) (v := (.int .i64 (a : Int))) rfl rfl (by kernel_rfl) (by kernel_rfl) (by kernel_rfl) (fun _ _ _ h => h) (Or.inl ⟨by kernel_rfl, ?_⟩) (by assumption) ?_
    · intro wS hSw
      (try dsimp only at hSw)
      go_simp
      first | done | assumption | (simp only [wa]; done) | (simp only [vt]; done) | (simp only [ve]; done) | (simp only [ws]; done) | (simp only [wy]; done) | (simp; done) | (simp [vt, ve, z1, z1n]; done)
    (try simp only [Act.put]); (try simp only [List.setIfInBounds_toArray]); (try simp only [List.set_cons_succ]); (try simp only [List.set_cons_zero])
    refine takeD (i := 7) (d := (some 42)) (v := (.int .i64 (ia : Int))) rfl rfl (by kernel_rfl) (by kernel_rfl) (by kernel_rfl) (fun _ _ _ h => h) (Or.inl ⟨by kernel_rfl, ?_⟩) (by assumption) ?_
    · intro wS hSw
      (try dsimp only at hSw)
      go_simp
      first | done | assumption | (simp only [wa]; done) | (simp only [vt]; done) | (simp only [ve]; done) | (simp only [ws]; done) | (simp only [wy]; done) | (simp; done) | (simp [vt, ve, z1, z1n]; done)
    (try simp only [Act.put]); (try simp only [List.setIfInBounds_toArray]); (try simp only [List.set_cons_succ]); (try simp only [List.set_cons_zero])
    refine takeD (i := 8) (d := (some 43)) (v := (.int .i64 (n : Int))) rfl rfl (by kernel_rfl) (by kernel_rfl) (by kernel_rfl) (fun _ _ _ h => h) (Or.inl ⟨by kernel_rfl, ?_⟩) (by assumption) ?_
    · intro wS hSw
      (try dsimp only at hSw)
      go_simp
      first | done | assumption | (simp only [wa]; done) | (simp only [vt]; done) | (simp only [ve]; done) | (simp only [ws]; done) | (simp only [wy]; done) | (simp; done) | (simp [vt, ve, z1, z1n]; done)
    (try simp only [Act.put]); (try simp only [List.setIfInBounds_toArray]); (try simp only [List.set_cons_succ]); (try simp only [List.set_cons_zero])
    refine takeD (i := 9) (d := (some 44)) (v := (.int .i64 (l : Int))) rfl rfl (by kernel_rfl) (by kernel_rfl) (by kernel_rfl) (fun _ _ _ h => h) (Or.inl ⟨by kernel_rfl, ?_⟩) (by assumption) ?_
    · intro wS hSw
      (try dsimp only at hSw)
      go_simp
      first | done | assumption | (simp only [wa]; done) | (simp only [vt]; done) | (simp only [ve]; done) | (simp only [ws]; done) | (simp only [wy]; done) | (simp; done) | (simp [vt, ve, z1, z1n]; done)
    (try simp only [Act.put]); (try simp only [List.setIfInBounds_toArray]); (try simp only [List.set_cons_succ]); (try simp only [List.set_cons_zero])
    refine takeD (i := 10) (d := (some 45)) (v := (.int .i64 (b : Int))) rfl rfl (by kernel_rfl) (by kernel_rfl) (by kernel_rfl) (fun _ _ _ h => h) (Or.inl ⟨by kernel_rfl, ?_⟩) (by assumption) ?_
    · intro wS hSw
      (try dsimp only at hSw)
      go_simp
      first | done | assumption | (simp only [wa]; done) | (simp only [vt]; done) | (simp only [ve]; done) | (simp only [ws]; done) | (simp only [wy]; done) | (simp; done) | (simp [vt, ve, z1, z1n]; done)
    (try simp only [Act.put]); (try simp only [List.setIfInBounds_toArray]); (try simp only [List.set_cons_succ]); (try simp only [List.set_cons_zero])
    refine takeD (i := 13) (d := (some 48)) (v := (cirV (.slice p n c))) rfl rfl (by kernel_rfl) (by kernel_rfl) (by kernel_rfl) (fun _ _ _ h => h) (Or.inl ⟨by kernel_rfl, ?_⟩) (by assumption) ?_
    · intro wS hSw
      (try dsimp only at hSw)
      go_simp
      first | done | assumption | (simp only [wa]; done) | (simp only [vt]; done) | (simp only [ve]; done) | (simp only [ws]; done) | (simp only [wy]; done) | (simp; done) | (simp [vt, ve, z1, z1n]; done)
    (try simp only [Act.put]); (try simp only [List.setIfInBounds_toArray]); (try simp only [List.set_cons_succ]); (try simp only [List.set_cons_zero])
    refine takeD (i := 14) (d := (some 49)) (v := (.int .i64 (i : Int))) rfl rfl (by kernel_rfl) (by kernel_rfl) (by kernel_rfl) (fun _ _ _ h => h) (Or.inl ⟨by kernel_rfl, ?_⟩) (by assumption) ?_
    · intro wS hSw
      (try dsimp only at hSw)
      go_simp
      first | done | assumption | (simp only [wa]; done) | (simp only [vt]; done) | (simp only [ve]; done) | (simp only [ws]; done) | (simp only [wy]; done) | (simp; done) | (simp [vt, ve, z1, z1n]; done)
    (try simp only [Act.put]); (try simp only [List.setIfInBounds_toArray]); (try simp only [List.set_cons_succ]); (try simp only [List.set_cons_zero])
    refine takeD (i := 15) (d := (some 50)) (v := (.int .i64 (a : Int))) rfl rfl (by kernel_rfl) (by kernel_rfl) (by kernel_rfl) (fun _ _ _ h => h) (Or.inl ⟨by kernel_rfl, ?_⟩) (by assumption) ?_
    · intro wS hSw
      (try dsimp only at hSw)
      go_simp
      first | done | assumption | (simp only [wa]; done) | (simp only [vt]; done) | (simp only [ve]; done) | (simp only [ws]; done) | (simp only [wy]; done) | (simp; done) | (simp [vt, ve, z1, z1n]; done)
    (try simp only [Act.put]); (try simp only [List.setIfInBounds_toArray]); (try simp only [List.set_cons_succ]); (try simp only [List.set_cons_zero])
    refine takeD (i := 16) (d := (some 51)) (v := (.int .i64 (b : Int))) rfl rfl (by kernel_rfl) (by kernel_rfl) (by kernel_rfl) (fun _ _ _ h => h) (Or.inl ⟨by kernel_rfl, ?_⟩) (by assumption) ?_
    · intro wS hSw
      (try dsimp only at hSw)
      go_simp
      first | done | assumption | (simp only [wa]; done) | (simp only [vt]; done) | (simp only [ve]; done) | (simp only [ws]; done) | (simp only [wy]; done) | (simp; done) | (simp [vt, ve, z1, z1n]; done)
    (try simp only [Act.put]); (try simp only [List.setIfInBounds_toArray]); (try simp only [List.set_cons_succ]); (try simp only [List.set_cons_zero])
    refine takeD (i := 17) (d := (some 52)) (v := (.int .i64 (s : Int))) rfl rfl (by kernel_rfl) (by kernel_rfl) (by kernel_rfl) (fun _ _ _ h => h) (Or.inl ⟨by kernel_rfl, ?_⟩) (by assumption) ?_
    · intro wS hSw
      (try dsimp only at hSw)
      go_simp
      first | done | assumption | (simp only [wa]; done) | (simp only [vt]; done) | (simp only [ve]; done) | (simp only [ws]; done) | (simp only [wy]; done) | (simp; done) | (simp [vt, ve, z1, z1n]; done)
    (try simp only [Act.put]); (try simp only [List.setIfInBounds_toArray]); (try simp only [List.set_cons_succ]); (try simp only [List.set_cons_zero])
    refine wpAnyH_ready (rs := [3]) (by kernel_rfl) (by simp) ?_
    refine AllReadyH.cons rfl (fun K hK => ?_) AllReadyH.nil
    go_simp
    refine (spF_run (W := W5) F1 _ (by with_reducible first | assumption | exact (Below.refl _ _) | exact (Below.refl _ _).drew)).mono ?_
    rintro e1 w1 ⟨rfl, hb⟩
    go_wp2_with fail
    refine hK.out _ _ ?_ (fun hHeld => ?_)
    · exact one_j (one_keep hb X5.out)
    clear hK K
    (try simp only [Act.put]); (try simp only [List.setIfInBounds_toArray]); (try simp only [List.set_cons_succ]); (try simp only [List.set_cons_zero])
    refine wpAnyH_ready (rs := [11]) (by kernel_rfl) (by simp) ?_
    refine AllReadyH.cons rfl (fun K hK => ?_) AllReadyH.nil
    go_simp
    refine (spF_run (W := W5) F2 _ (by with_reducible first | assumption | exact (Below.refl _ _) | exact (Below.refl _ _).drew)).mono ?_
    rintro e1 w1 ⟨rfl, hb⟩
    go_wp2_with fail
    refine hK.out _ _ ?_ (fun hHeld => ?_)
    · exact one_j (one_keep hb X5.out)
    clear hK K
    (try simp only [Act.put]); (try simp only [List.setIfInBounds_toArray]); (try simp only [List.set_cons_succ]); (try simp only [List.set_cons_zero])
    refine takeD (i := 12) (d := (some 47)) (v := (.int .i64 y3)) rfl rfl (by kernel_rfl) (by kernel_rfl) (by kernel_rfl) (fun _ _ _ h => h) (Or.inl ⟨by kernel_rfl, ?_⟩) (by assumption) ?_
    · intro wS hSw
      (try dsimp only at hSw)
      go_simp
      first | done | assumption | (simp only [wa]; done) | (simp only [vt]; done) | (simp only [ve]; done) | (simp only [ws]; done) | (simp only [wy]; done) | (simp; done) | (simp [vt, ve, z1, z1n]; done)
    (try simp only [Act.put]); (try simp only [List.setIfInBounds_toArray]); (try simp only [List.set_cons_succ]); (try simp only [List.set_cons_zero])
    refine wpAnyH_ready (rs := [18]) (by kernel_rfl) (by simp) ?_
    refine AllReadyH.cons rfl (fun K hK => ?_) AllReadyH.nil
    go_simp
    refine (spF_run (W := W5) F3 _ (by with_reducible first | assumption | exact (Below.refl _ _) | exact (Below.refl _ _).drew)).mono ?_
    rintro e1 w1 ⟨rfl, hb⟩
    go_wp2_with fail
    refine hK.out _ _ ?_ (fun hHeld => ?_)
    · exact one_j (one_keep hb X5.out)
    clear hK K
    (try simp only [Act.put]); (try simp only [List.setIfInBounds_toArray]); (try simp only [List.set_cons_succ]); (try simp only [List.set_cons_zero])
    refine takeD (i := 19) (d := (some 54)) (v := (.bool true)) rfl rfl (by kernel_rfl) (by kernel_rfl) (by kernel_rfl) (fun _ _ _ h => h) (Or.inl ⟨by kernel_rfl, ?_⟩) (by assumption) ?_
    · intro wS hSw
      (try dsimp only at hSw)
      go_simp
      first | done | assumption | (simp only [wa]; done) | (simp only [vt]; done) | (simp only [ve]; done) | (simp only [ws]; done) | (simp only [wy]; done) | (simp; done) | (simp [vt, ve, z1, z1n]; done)
    (try simp only [Act.put]); (try simp only [List.setIfInBounds_toArray]); (try simp only [List.set_cons_succ]); (try simp only [List.set_cons_zero])
    refine takeD (i := 20) (d := (some 55)) (v := (.bool true)) rfl rfl (by kernel_rfl) (by kernel_rfl) (by kernel_rfl) (fun _ _ _ h => h) (Or.inl ⟨by kernel_rfl, ?_⟩) (by assumption) ?_
    · intro wS hSw
      (try dsimp only at hSw)
      go_simp
      first | done | assumption | (simp only [wa]; done) | (simp only [vt]; done) | (simp only [ve]; done) | (simp only [ws]; done) | (simp only [wy]; done) | (simp; done) | (simp [vt, ve, z1, z1n]; done)
    (try simp only [Act.put]); (try simp only [List.setIfInBounds_toArray]); (try simp only [List.set_cons_succ]); (try simp only [List.set_cons_zero])
    refine takeD (i := 21) (d := (some 56)) (v := (cirV (.slice p n c))) rfl rfl (by kernel_rfl) (by kernel_rfl) (by kernel_rfl) (fun _ _ _ h => h) (Or.inl ⟨by kernel_rfl, ?_⟩) (by assumption) ?_
    · intro wS hSw
      (try dsimp only at hSw)
      go_simp
      first | done | assumption | (simp only [wa]; done) | (simp only [vt]; done) | (simp only [ve]; done) | (simp only [ws]; done) | (simp only [wy]; done) | (simp; done) | (simp [vt, ve, z1, z1n]; done)
    (try simp only [Act.put]); (try simp only [List.setIfInBounds_toArray]); (try simp only [List.set_cons_succ]); (try simp only [List.set_cons_zero])
    refine takeD (i := 22) (d := (some 57)) (v := (.int .i64 (i : Int))) rfl rfl (by kernel_rfl) (by kernel_rfl) (by kernel_rfl) (fun _ _ _ h => h) (Or.inl ⟨by kernel_rfl, ?_⟩) (by assumption) ?_
    · intro wS hSw
      (try dsimp only at hSw)
      go_simp
      first | done | assumption | (simp only [wa]; done) | (simp only [vt]; done) | (simp only [ve]; done) | (simp only [ws]; done) | (simp only [wy]; done) | (simp; done) | (simp [vt, ve, z1, z1n]; done)
    (try simp only [Act.put]); (try simp only [List.setIfInBounds_toArray]); (try simp only [List.set_cons_succ]); (try simp only [List.set_cons_zero])
    refine takeD (i := 23) (d := (some 58)) (v := (.int .i64 (n : Int))) rfl rfl (by kernel_rfl) (by kernel_rfl) (by kernel_rfl) (fun _ _ _ h => h) (Or.inl ⟨by kernel_rfl, ?_⟩) (by assumption) ?_
    · intro wS hSw
      (try dsimp only at hSw)
      go_simp
      first | done | assumption | (simp only [wa]; done) | (simp only [vt]; done) | (simp only [ve]; done) | (simp only [ws]; done) | (simp only [wy]; done) | (simp; done) | (simp [vt, ve, z1, z1n]; done)
    (try simp only [Act.put]); (try simp only [List.setIfInBounds_toArray]); (try simp only [List.set_cons_succ]); (try simp only [List.set_cons_zero])
    refine takeD (i := 25) (d := (some 60)) (v := (cirV (.slice p n c))) rfl rfl (by kernel_rfl) (by kernel_rfl) (by kernel_rfl) (fun _ _ _ h => h) (Or.inl ⟨by kernel_rfl, ?_⟩) (by assumption) ?_
    · intro wS hSw
      (try dsimp only at hSw)
      go_simp
      first | done | assumption | (simp only [wa]; done) | (simp only [vt]; done) | (simp only [ve]; done) | (simp only [ws]; done) | (simp only [wy]; done) | (simp; done) | (simp [vt, ve, z1, z1n]; done)
    (try simp only [Act.put]); (try simp only [List.setIfInBounds_toArray]); (try simp only [List.set_cons_succ]); (try simp only [List.set_cons_zero])
    refine wpAnyH_ready (rs := [24]) (by kernel_rfl) (by simp) ?_
    refine AllReadyH.cons rfl (fun K hK => ?_) AllReadyH.nil
    go_simp
    refine (spF_run (W := W5) F4 _ (by with_reducible first | assumption | exact (Below.refl _ _) | exact (Below.refl _ _).drew)).mono ?_
    rintro e1 w1 ⟨rfl, hb⟩
    go_wp2_with fail
    refine hK.out _ _ ?_ (fun hHeld => ?_)
    · exact one_j (one_keep hb X5.out)
    clear hK K
    (try simp only [Act.put]); (try simp only [List.setIfInBounds_toArray]); (try simp only [List.set_cons_succ]); (try simp only [List.set_cons_zero])
    refine wpAnyH_ready (rs := [26]) (by kernel_rfl) (by simp) ?_
    refine AllReadyH.cons rfl (fun K hK => ?_) AllReadyH.nil
    go_simp
    refine (suF_run (W := W5) F5 _ (by with_reducible first | assumption | exact (Below.refl _ _) | exact (Below.refl _ _).drew)).mono ?_
    rintro e1 w1 ⟨rfl, hb⟩
    go_wp2_with fail
    refine hK.out _ _ ?_ (fun hHeld => ?_)
    · exact one_j (one_keep hb X5.out)
    clear hK K
    (try simp only [Act.put]); (try simp only [List.setIfInBounds_toArray]); (try simp only [List.set_cons_succ]); (try simp only [List.set_cons_zero])
    refine takeD (i := 27) (d := (some 62)) (v := (.bool true)) rfl rfl (by kernel_rfl) (by kernel_rfl) (by kernel_rfl) (fun _ _ _ h => h) (Or.inl ⟨by kernel_rfl, ?_⟩) (by assumption) ?_
    · intro wS hSw
      (try dsimp only at hSw)
      go_simp
      first | done | assumption | (simp only [wa]; done) | (simp only [vt]; done) | (simp only [ve]; done) | (simp only [ws]; done) | (simp only [wy]; done) | (simp; done) | (simp [vt, ve, z1, z1n]; done)
    (try simp only [Act.put]); (try simp only [List.setIfInBounds_toArray]); (try simp only [List.set_cons_succ]); (try simp only [List.set_cons_zero])
    refine takeD (i := 28) (d := (some 63)) (v := (.bool true)) rfl rfl (by kernel_rfl) (by kernel_rfl) (by kernel_rfl) (fun _ _ _ h => h) (Or.inl ⟨by kernel_rfl, ?_⟩) (by assumption) ?_
    · intro wS hSw
      (try dsimp only at hSw)
      go_simp
      first | done | assumption | (simp only [wa]; done) | (simp only [vt]; done) | (simp only [ve]; done) | (simp only [ws]; done) | (simp only [wy]; done) | (simp; done) | (simp [vt, ve, z1, z1n]; done)
    (try simp only [Act.put]); (try simp only [List.setIfInBounds_toArray]); (try simp only [List.set_cons_succ]); (try simp only [List.set_cons_zero])
    refine takeD (i := 29) (d := (some 64)) (v := (.bool true)) rfl rfl (by kernel_rfl) (by kernel_rfl) (by kernel_rfl) (fun _ _ _ h => h) (Or.inl ⟨by kernel_rfl, ?_⟩) (by assumption) ?_
    · intro wS hSw
      (try dsimp only at hSw)
      go_simp
      first | done | assumption | (simp only [wa]; done) | (simp only [vt]; done) | (simp only [ve]; done) | (simp only [ws]; done) | (simp only [wy]; done) | (simp; done) | (simp [vt, ve, z1, z1n]; done)
    (try simp only [Act.put]); (try simp only [List.setIfInBounds_toArray]); (try simp only [List.set_cons_succ]); (try simp only [List.set_cons_zero])
    refine takeD (i := 30) (d := (some 65)) (v := v8) rfl rfl (by kernel_rfl) (by kernel_rfl) (by kernel_rfl) (fun _ _ _ h => h) (Or.inl ⟨by kernel_rfl, ?_⟩) (by assumption) ?_
    · intro wS hSw
      (try dsimp only at hSw)
      go_simp
      first | done | assumption | (simp only [wa]; done) | (simp only [vt]; done) | (simp only [ve]; done) | (simp only [ws]; done) | (simp only [wy]; done) | (simp; done) | (simp [vt, ve, z1, z1n]; done)
    (try simp only [Act.put]); (try simp only [List.setIfInBounds_toArray]); (try simp only [List.set_cons_succ]); (try simp only [List.set_cons_zero])
    refine takeD (i := 31) (d := (some 66)) (v := (cirV (.slice p n c))) rfl rfl (by kernel_rfl) (by kernel_rfl) (by kernel_rfl) (fun _ _ _ h => h) (Or.inl ⟨by kernel_rfl, ?_⟩) (by assumption) ?_
    · intro wS hSw
      (try dsimp only at hSw)
      go_simp
      first | done | assumption | (simp only [wa]; done) | (simp only [vt]; done) | (simp only [ve]; done) | (simp only [ws]; done) | (simp only [wy]; done) | (simp; done) | (simp [vt, ve, z1, z1n]; done)
    (try simp only [Act.put]); (try simp only [List.setIfInBounds_toArray]); (try simp only [List.set_cons_succ]); (try simp only [List.set_cons_zero])
    refine takeD (i := 32) (d := (some 67)) (v := (.int .i64 (i : Int))) rfl rfl (by kernel_rfl) (by kernel_rfl) (by kernel_rfl) (fun _ _ _ h => h) (Or.inl ⟨by kernel_rfl, ?_⟩) (by assumption) ?_
    · intro wS hSw
      (try dsimp only at hSw)
      go_simp
      first | done | assumption | (simp only [wa]; done) | (simp only [vt]; done) | (simp only [ve]; done) | (simp only [ws]; done) | (simp only [wy]; done) | (simp; done) | (simp [vt, ve, z1, z1n]; done)
    (try simp only [Act.put]); (try simp only [List.setIfInBounds_toArray]); (try simp only [List.set_cons_succ]); (try simp only [List.set_cons_zero])
    refine takeD (i := 33) (d := (some 68)) (v := (.int .i64 (a : Int))) rfl rfl (by kernel_rfl) (by kernel_rfl) (by kernel_rfl) (fun _ _ _ h => h) (Or.inl ⟨by kernel_rfl, ?_⟩) (by assumption) ?_
    · intro wS hSw
      (try dsimp only at hSw)
      go_simp
      first | done | assumption | (simp only [wa]; done) | (simp only [vt]; done) | (simp only [ve]; done) | (simp only [ws]; done) | (simp only [wy]; done) | (simp; done) | (simp [vt, ve, z1, z1n]; done)
    (try simp only [Act.put]); (try simp only [List.setIfInBounds_toArray]); (try simp only [List.set_cons_succ]); (try simp only [List.set_cons_zero])
    refine wpAnyH_ready (rs := [34]) (by kernel_rfl) (by simp) ?_
    refine AllReadyH.cons rfl (fun K hK => ?_) AllReadyH.nil
    go_simp
    refine (spF_run (W := W5) F1 _ (by with_reducible first | assumption | exact (Below.refl _ _) | exact (Below.refl _ _).drew)).mono ?_
    rintro e1 w1 ⟨rfl, hb⟩
    go_wp2_with fail
    refine hK.out _ _ ?_ (fun hHeld => ?_)
    · exact one_j (one_keep hb X5.out)
    clear hK K
    (try simp only [Act.put]); (try simp only [List.setIfInBounds_toArray]); (try simp only [List.set_cons_succ]); (try simp only [List.set_cons_zero])
    refine wpAnyH_ready (rs := [35]) (by kernel_rfl) (by simp) ?_
    refine AllReadyH.cons rfl (fun K hK => ?_) AllReadyH.nil
    go_simp
    refine (hsF_run (W := W5) F6 _ (by with_reducible first | assumption | exact (Below.refl _ _) | exact (Below.refl _ _).drew)).mono ?_
    rintro e1 w1 ⟨rfl, hb⟩
    go_wp2_with fail
    refine hK.out _ _ ?_ (fun hHeld => ?_)
    · exact one_j (one_keep hb X5.out)
    clear hK K
    (try simp only [Act.put]); (try simp only [List.setIfInBounds_toArray]); (try simp only [List.set_cons_succ]); (try simp only [List.set_cons_zero])
    refine takeD (i := 36) (d := (some 71)) (v := (.bool true)) rfl rfl (by kernel_rfl) (by kernel_rfl) (by kernel_rfl) (fun _ _ _ h => h) (Or.inl ⟨by kernel_rfl, ?_⟩) (by assumption) ?_
    · intro wS hSw
      (try dsimp only at hSw)
      go_simp
      first | done | assumption | (simp only [wa]; done) | (simp only [vt]; done) | (simp only [ve]; done) | (simp only [ws]; done) | (simp only [wy]; done) | (simp; done) | (simp [vt, ve, z1, z1n]; done)
    (try simp only [Act.put]); (try simp only [List.setIfInBounds_toArray]); (try simp only [List.set_cons_succ]); (try simp only [List.set_cons_zero])
    refine takeD (i := 37) (d := (some 72)) (v := (.bool true)) rfl rfl (by kernel_rfl) (by kernel_rfl) (by kernel_rfl) (fun _ _ _ h => h) (Or.inl ⟨by kernel_rfl, ?_⟩) (by assumption) ?_
    · intro wS hSw
      (try dsimp only at hSw)
      go_simp
      first | done | assumption | (simp only [wa]; done) | (simp only [vt]; done) | (simp only [ve]; done) | (simp only [ws]; done) | (simp only [wy]; done) | (simp; done) | (simp [vt, ve, z1, z1n]; done)
    (try simp only [Act.put]); (try simp only [List.setIfInBounds_toArray]); (try simp only [List.set_cons_succ]); (try simp only [List.set_cons_zero])
    refine wpAnyH_ready (rs := [38]) (by kernel_rfl) (by simp) ?_
    refine AllReadyH.cons rfl (fun K hK => ?_) AllReadyH.nil
    go_simp
    refine (mjF_run (W := W5) F7 _ (by with_reducible first | assumption | exact (Below.refl _ _) | exact (Below.refl _ _).drew)).mono ?_
    rintro e1 w1 ⟨vm, rfl, htw, hb⟩
    go_wp2_with fail
    refine hK.out _ _ ?_ (fun hHeld => ?_)
    · exact one_j (one_keep hb X5.out)
    clear hK K
    (try simp only [Act.put]); (try simp only [List.setIfInBounds_toArray]); (try simp only [List.set_cons_succ]); (try simp only [List.set_cons_zero])
    refine wpAnyH_ready (rs := [39]) (by kernel_rfl) (by simp) ?_
    refine AllReadyH.cons rfl (fun K hK => ?_) AllReadyH.nil
    go_simp
    refine (twF_run (W := W5) htw _ (by with_reducible first | assumption | exact (Below.refl _ _) | exact (Below.refl _ _).drew)).mono ?_
    rintro e1 w1 ⟨rfl, hb⟩
    go_wp2_with fail
    refine hK.out _ _ ?_ (fun hHeld => ?_)
    · exact one_j (one_keep hb X5.out)
    clear hK K
    (try simp only [Act.put]); (try simp only [List.setIfInBounds_toArray]); (try simp only [List.set_cons_succ]); (try simp only [List.set_cons_zero])
    refine takeD (i := 40) (d := (some 75)) (v := (.bool true)) rfl rfl (by kernel_rfl) (by kernel_rfl) (by kernel_rfl) (fun _ _ _ h => h) (Or.inl ⟨by kernel_rfl, ?_⟩) (by assumption) ?_
    · intro wS hSw
      (try dsimp only at hSw)
      go_simp
      first | done | assumption | (simp only [wa]; done) | (simp only [vt]; done) | (simp only [ve]; done) | (simp only [ws]; done) | (simp only [wy]; done) | (simp; done) | (simp [vt, ve, z1, z1n]; done)
    (try simp only [Act.put]); (try simp only [List.setIfInBounds_toArray]); (try simp only [List.set_cons_succ]); (try simp only [List.set_cons_zero])
    refine takeD (i := 41) (d := (some 76)) (v := (.bool true)) rfl rfl (by kernel_rfl) (by kernel_rfl) (by kernel_rfl) (fun _ _ _ h => h) (Or.inl ⟨by kernel_rfl, ?_⟩) (by assumption) ?_
    · intro wS hSw
      (try dsimp only at hSw)
      go_simp
      first | done | assumption | (simp only [wa]; done) | (simp only [vt]; done) | (simp only [ve]; done) | (simp only [ws]; done) | (simp only [wy]; done) | (simp; done) | (simp [vt, ve, z1, z1n]; done)
    (try simp only [Act.put]); (try simp only [List.setIfInBounds_toArray]); (try simp only [List.set_cons_succ]); (try simp only [List.set_cons_zero])
    refine takeD (i := 42) (d := (some 77)) (v := (cirV (.slice p n c))) rfl rfl (by kernel_rfl) (by kernel_rfl) (by kernel_rfl) (fun _ _ _ h => h) (Or.inl ⟨by kernel_rfl, ?_⟩) (by assumption) ?_
    · intro wS hSw
      (try dsimp only at hSw)
      go_simp
      first | done | assumption | (simp only [wa]; done) | (simp only [vt]; done) | (simp only [ve]; done) | (simp only [ws]; done) | (simp only [wy]; done) | (simp; done) | (simp [vt, ve, z1, z1n]; done)
    (try simp only [Act.put]); (try simp only [List.setIfInBounds_toArray]); (try simp only [List.set_cons_succ]); (try simp only [List.set_cons_zero])
    refine takeD (i := 43) (d := (some 78)) (v := (.int .i64 (n : Int))) rfl rfl (by kernel_rfl) (by kernel_rfl) (by kernel_rfl) (fun _ _ _ h => h) (Or.inl ⟨by kernel_rfl, ?_⟩) (by assumption) ?_
    · intro wS hSw
      (try dsimp only at hSw)
      go_simp
      first | done | assumption | (simp only [wa]; done) | (simp only [vt]; done) | (simp only [ve]; done) | (simp only [ws]; done) | (simp only [wy]; done) | (simp; done) | (simp [vt, ve, z1, z1n]; done)
    (try simp only [Act.put]); (try simp only [List.setIfInBounds_toArray]); (try simp only [List.set_cons_succ]); (try simp only [List.set_cons_zero])
    refine wpAnyH_ready (rs := [44]) (by kernel_rfl) (by simp) ?_
    refine AllReadyH.cons rfl (fun K hK => ?_) AllReadyH.nil
    go_simp
    refine (onF_run (W := W5) F8 _ (by with_reducible first | assumption | exact (Below.refl _ _) | exact (Below.refl _ _).drew)).mono ?_
    rintro e1 w1 ⟨p9, c9, rfl, hb⟩
    go_wp2_with fail
    refine hK.out _ _ ?_ (fun hHeld => ?_)
    · exact one_j (one_keep hb X5.out)
    clear hK K
    (try simp only [Act.put]); (try simp only [List.setIfInBounds_toArray]); (try simp only [List.set_cons_succ]); (try simp only [List.set_cons_zero])
    refine takeD (i := 45) (d := (some 80)) (v := (.int .i64 1)) rfl rfl (by kernel_rfl) (by kernel_rfl) (by kernel_rfl) (fun _ _ _ h => h) (Or.inl ⟨by kernel_rfl, ?_⟩) (by assumption) ?_
    · intro wS hSw
      (try dsimp only at hSw)
      go_simp
      first | done | assumption | (simp only [wa]; done) | (simp only [vt]; done) | (simp only [ve]; done) | (simp only [ws]; done) | (simp only [wy]; done) | (simp; done) | (simp [vt, ve, z1, z1n]; done)
    (try simp only [Act.put]); (try simp only [List.setIfInBounds_toArray]); (try simp only [List.set_cons_succ]); (try simp only [List.set_cons_zero])
    refine takeD (i := 46) (d := (some 81)) (v := (.bool true)) rfl rfl (by kernel_rfl) (by kernel_rfl) (by kernel_rfl) (fun _ _ _ h => h) (Or.inl ⟨by kernel_rfl, ?_⟩) (by assumption) ?_
    · intro wS hSw
      (try dsimp only at hSw)
      go_simp
      first | done | assumption | (simp only [wa]; done) | (simp only [vt]; done) | (simp only [ve]; done) | (simp only [ws]; done) | (simp only [wy]; done) | (simp; done) | (simp [vt, ve, z1, z1n]; done)
    (try simp only [Act.put]); (try simp only [List.setIfInBounds_toArray]); (try simp only [List.set_cons_succ]); (try simp only [List.set_cons_zero])
    refine takeD (i := 47) (d := (some 82)) (v := (.bool true)) rfl rfl (by kernel_rfl) (by kernel_rfl) (by kernel_rfl) (fun _ _ _ h => h) (Or.inl ⟨by kernel_rfl, ?_⟩) (by assumption) ?_
    · intro wS hSw
      (try dsimp only at hSw)
      go_simp
      first | done | assumption | (simp only [wa]; done) | (simp only [vt]; done) | (simp only [ve]; done) | (simp only [ws]; done) | (simp only [wy]; done) | (simp; done) | (simp [vt, ve, z1, z1n]; done)
    (try simp only [Act.put]); (try simp only [List.setIfInBounds_toArray]); (try simp only [List.set_cons_succ]); (try simp only [List.set_cons_zero])
    refine takeD (i := 48) (d := (some 2)) (v := (.bool true)) rfl rfl (by kernel_rfl) (by kernel_rfl) (by kernel_rfl) (fun _ _ _ h => h) (Or.inl ⟨by kernel_rfl, ?_⟩) (by assumption) ?_
    · intro wS hSw
      (try dsimp only at hSw)
      go_simp
      first | done | assumption | (simp only [wa]; done) | (simp only [vt]; done) | (simp only [ve]; done) | (simp only [ws]; done) | (simp only [wy]; done) | (simp; done) | (simp [vt, ve, z1, z1n]; done)
    (try simp only [Act.put]); (try simp only [List.setIfInBounds_toArray]); (try simp only [List.set_cons_succ]); (try simp only [List.set_cons_zero])
    refine wpAnyH_done (by kernel_rfl) ?_ _
    have B9 := Lib.hid (B5.out.trans (hb.mono B5.out.size))
    go_wp2_with fail
    go_ret
    exact ⟨rfl, B9.out⟩
end Go.Proofs.Ytelaihfjlkppiaa
