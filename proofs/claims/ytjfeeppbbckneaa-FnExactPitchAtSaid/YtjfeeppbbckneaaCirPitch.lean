/- Contract of impl.PitchAt. -/
import Derived.Test.YtjfeeppbbckneaaCirFifth
namespace Go.Proofs.Ytjfeeppbbckneaa
open Go.RowKit Go.Joins
set_option linter.unusedVariables false
/-- What PitchAt answers. -/
def PtAt (xs : List Int) (i p q r s : Int) : Prop :=
  ((CirOk xs ∧ 0 ≤ i ∧ i ≤ 11) ∧ p = (pitV i (sumTo xs i.toNat)).two ∧ q = (pitV i (sumTo xs i.toNat)).three ∧ r = (pitV i (sumTo xs i.toNat)).five ∧ s = (pitV i (sumTo xs i.toNat)).root) ∨
  ((cirB xs && decide (0 ≤ i ∧ i ≤ 11)) = false ∧ p = 0 ∧ q = 0 ∧ r = 0 ∧ s = 0)
theorem ptAt_ex (xs : List Int) (i : Int) : ∃ p q r s, PtAt xs i p q r s := by
  rcases key_cases xs i with h | h
  · exact ⟨_, _, _, _, .inl ⟨h, rfl, rfl, rfl, rfl⟩⟩
  · exact ⟨_, _, _, _, .inr ⟨h, rfl, rfl, rfl, rfl⟩⟩
theorem pt_chOk {xs : List Int} {j : Nat} (h : CirOk xs) (hj : j < 12) : ChOk (j : Int) (sumTo xs j) := by
  have := cirOk_sum h (k := j) (by omega)
  exact ⟨by omega, by omega, this.1, this.2⟩
theorem ch_chAt {f n : Int} (h : ChOk f n) : ChAt f n (chV f n).two (chV f n).three (chV f n).five (chV f n).root := ⟨h, rfl, rfl, rfl, rfl⟩
set_option maxRecDepth 100000 in
set_option maxHeartbeats 2000000 in
theorem pitch_impl {xs : List Int} {i p q r s : Int} (hf : PtAt xs i p q r s) (w : World) (b : Nat) (e : TypeId) (v : Value) (hl : xs.length ≤ 2000000) (h : w.ownsRow b e 1 v xs.length (intCs xs)) :
    Calls Try.prog 18 #[cirV v, .int .i64 i] w fun en w' => en = .returned (ivV p q r s) ∧ Below w.heap.size w w' := by
  have CO := Lib.hid (cirOk_impl _ b e v xs hl (own_below h (below_alloc2 w (.cells #[v] 26) (.cells #[.int .i64 0, .int .i64 0, .int .i64 0, .int .i64 0] 29))))
  have CK := Lib.hid (isKey_any i)
  rcases hf with ⟨⟨hc, hi⟩, hp, hq, hr, hs⟩ | ⟨hb, rfl, rfl, rfl, rfl⟩
  · rw [show cirB xs = true from decide_eq_true hc] at CO
    rw [decide_eq_true hi] at CK
    obtain ⟨j, hj⟩ : ∃ j, j = i.toNat := ⟨_, rfl⟩
    rw [← hj] at hp hq hr hs
    have hi' : i = (j : Int) := by omega
    have hj12 : j < 12 := by omega
    subst hi'
    clear hj hi hl
    obtain ⟨g, cap, rfl, hg, hcap, hcm, hcl⟩ := cir_row h hc
    have hk := pt_chOk hc hj12
    have hsum := fun (w : World) (hcl : ∀ t, t < j → w.cell? ⟨g, t, none⟩ = some (.int .i64 (xs.getD t 0))) => sumOf_any w g cap j xs (by omega) (fun t ht => hc.2.1 t (by omega)) hcl
    have hwi := ch_within hk
    rw [← hp, ← hq, ← hr, ← hs] at hwi
    have hna := ch_chAt hk
    obtain ⟨S, hS⟩ : ∃ S, S = sumTo xs j := ⟨_, rfl⟩
    rw [← hS] at hsum hwi hna
    generalize (chV (j : Int) S).two = a1 at hwi hna
    generalize (chV (j : Int) S).three = a2 at hwi hna
    generalize (chV (j : Int) S).five = a3 at hwi hna
    generalize (chV (j : Int) S).root = a4 at hwi hna
    have HC := Lib.hid (fun t (ht : t < j) => hcl t (by omega))
    have HS := Lib.hid hsum
    have HW := Lib.hid (fun w => within_impl hwi w)
    have HN := Lib.hid (fun w => narrowed_impl hna w)
    have hcj : j ≤ cap := by omega
    have hcj2 : ¬ cap = j := by omega
    clear hp hq hr hs hwi hna hS hsum hk hcl h hc hcap hcm
    go_enter Try.func18, Try.ntmps18
    go_wp2_with fail
    refine CO.out.mono ?_
    rintro e1 w1 ⟨rfl, b1⟩
    have Z1 : Hid (Zero4 (w.heap.size + 1) w1) := Lib.hid (by simpa using zero4_keep b1 (zero4_alloc (w := w.alloc (.cells #[.slice (some ⟨g, 0, none⟩) 12 cap] 26)) (t := 29)))
    obtain ⟨_, c0, _⟩ := one_keep b1 (one_al (o := .cells #[.int .i64 0, .int .i64 0, .int .i64 0, .int .i64 0] 29) (one_alloc (w := w) (v := .slice (some ⟨g, 0, none⟩) 12 cap) (t := 26)))
    have BB := (below_alloc2 w (.cells #[.slice (some ⟨g, 0, none⟩) 12 cap] 26) (.cells #[.int .i64 0, .int .i64 0, .int .i64 0, .int .i64 0] 29)).trans (b1.mono (by simp; omega))
    have HC1 := Lib.hid (fun t (ht : t < j) => (BB.cell (p := ⟨g, t, none⟩) hg).trans (HC.out t ht))
    have B1 := Lib.hid BB
    clear b1 BB HC
    go_wp2_with fail
    refine (CK.out _).mono ?_
    rintro e2 w2 ⟨rfl, rfl⟩
    go_wp2_with fail
    refine (HS.out _ HC1.out).mono ?_
    rintro e3 w3 ⟨rfl, rfl⟩
    go_wp2_with fail
    refine (calls_zero Z1.out (Below.refl _ _) (HN.out _)).mono ?_
    rintro e3 w3 ⟨rfl, b3, Z3⟩
    have B3 := Lib.hid (B1.out.trans (b3.mono B1.out.size))
    have Z3 := Lib.hid Z3
    clear c0 b3 B1 Z1 HC1
    go_wp2_with fail
    refine (calls_zero Z3.out (Below.refl _ _) (HW.out _)).mono ?_
    rintro e4 w4 ⟨rfl, b4, Z4⟩
    have B4 := Lib.hid ((B3.out.trans (b4.mono B3.out.size)).alloc (Nat.le_trans B3.out.size b4.size) (.cells #[.int .i64 p, .int .i64 q, .int .i64 r, .int .i64 s] 29))
    have G4 := Lib.hid (four_alloc (w := w4) (p := p) (q := q) (r := r) (s := s) (t := 29))
    have Z5 := Lib.hid (zero4_keep ((Below.refl _ _).alloc (Nat.le_refl _) (.cells #[.int .i64 p, .int .i64 q, .int .i64 r, .int .i64 s] 29)) Z4)
    clear b4 Z4 B3 Z3
    go_upto_region 4 with fail
    obtain ⟨W4, hW⟩ : ∃ W, W = w4.alloc (.cells #[.int .i64 p, .int .i64 q, .int .i64 r, .int .i64 s] 29) := ⟨_, rfl⟩
    obtain ⟨k, hk⟩ : ∃ k, k = w4.heap.size := ⟨_, rfl⟩
    rw [← hW] at Z5 G4 B4 ⊢
    rw [← hk] at G4 ⊢
    clear hW hk
    obtain ⟨_, x0, x1, x2, x3⟩ := G4.out
    obtain ⟨⟨zm, z0, z1, z2, z3⟩, zf⟩ := Z5.out
    go_wp2_with fail
    obtain ⟨X, hX, ⟨gm, g0, g1, g2, g3⟩, gb⟩ := zed4_store (w := w) (p := p) (q := q) (r := r) (s := s) (by omega) B4.out ⟨zm, z0, z1, z2, z3⟩
    rw [← hX]
    have GB := Lib.hid gb
    clear hX gb z0 z1 z2 z3 zm zf B4 x0 x1 x2 x3
    refine bodyPost_ret (v := ivV p q r s) (by simp [results, Try.results18, go_sem, g0, g1, g2, g3]) rfl ⟨rfl, GB.out⟩
  · generalize cirB xs = y at CO hb
    generalize decide (0 ≤ i ∧ i ≤ 11) = z at CK hb
    have HV := own_slice h
    obtain ⟨p0, c0, rfl⟩ := HV
    clear h hl
    generalize xs.length = n at CO ⊢
    cases y
    · go_enter Try.func18, Try.ntmps18
      go_wp2_with fail
      refine CO.out.mono ?_
      rintro e1 w1 ⟨rfl, b1⟩
      obtain ⟨⟨zm, z0, z1, z2, z3⟩, zf⟩ : Zero4 (w.heap.size + 1) w1 := by simpa using zero4_keep b1 (zero4_alloc (w := w.alloc (.cells #[.slice p0 n c0] 26)) (t := 29))
      have B1 := Lib.hid ((below_alloc2 w (.cells #[.slice p0 n c0] 26) (.cells #[.int .i64 0, .int .i64 0, .int .i64 0, .int .i64 0] 29)).trans (b1.mono (by simp; omega)))
      clear b1
      go_wp2_with fail
      refine bodyPost_ret (v := ivV 0 0 0 0) (by simp [results, Try.results18, go_sem, z0, z1, z2, z3]) rfl ⟨rfl, ?_⟩
      repeat' (first | exact B1.out | (refine Below.setCell ?_ (by simp) _))
    · simp only [Bool.true_and] at hb
      subst hb
      go_enter Try.func18, Try.ntmps18
      go_wp2_with fail
      refine CO.out.mono ?_
      rintro e1 w1 ⟨rfl, b1⟩
      obtain ⟨⟨zm, z0, z1, z2, z3⟩, zf⟩ : Zero4 (w.heap.size + 1) w1 := by simpa using zero4_keep b1 (zero4_alloc (w := w.alloc (.cells #[.slice p0 n c0] 26)) (t := 29))
      have B1 := Lib.hid ((below_alloc2 w (.cells #[.slice p0 n c0] 26) (.cells #[.int .i64 0, .int .i64 0, .int .i64 0, .int .i64 0] 29)).trans (b1.mono (by simp; omega)))
      clear b1
      go_wp2_with fail
      refine (CK.out _).mono ?_
      rintro e2 w2 ⟨rfl, rfl⟩
      go_wp2_with fail
      refine bodyPost_ret (v := ivV 0 0 0 0) (by simp [results, Try.results18, go_sem, z0, z1, z2, z3]) rfl ⟨rfl, ?_⟩
      repeat' (first | exact B1.out | (refine Below.setCell ?_ (by simp) _))
end Go.Proofs.Ytjfeeppbbckneaa
