/- Contracts of impl.commonDivisor up to 10^18, of impl.areWithin at two numbers, of impl.PitchOk, MakePitch and TimesPitch. -/
import Derived.Test.YtgoaofkbegfinaaPitchLaw
import Derived.Test.YtgoaofkbegfinaaCirOk
import Derived.Handy
namespace Go.Proofs.Ytgoaofkbegfinaa
open Go.RowKit Go.Joins
set_option linter.unusedVariables false
set_option maxHeartbeats 400000 in
theorem gcdW_impl (a b : Int) (w : World) (ha : 1 ≤ a) (ha' : a ≤ 1000000000000000000) (hb : 1 ≤ b) (hb' : b ≤ 1000000000000000000) :
    Calls Try.prog 28 #[.int .i64 a, .int .i64 b] w (QuietInt (gcdI a b) w) := by
  go_enter Try.func28, Try.ntmps28
  go_wp2_with fail
  go_loopw [0, 1] (fun s t wr => ∃ x y : Int, ∃ d : Nat, s = .int .i64 x ∧ t = .int .i64 y ∧ 0 ≤ x ∧ x ≤ 1000000000000000000 ∧ 0 ≤ y ∧ y ≤ 1000000000000000000 ∧ Hid (gcdI x y = gcdI a b) ∧ wr = w.drewN d) (fun _ t _ => (intOf t).natAbs)
  case atStart => exact ⟨a, b, 0, rfl, rfl, by omega, ha', by omega, hb', Lib.hid rfl, rfl⟩
  case round =>
    obtain ⟨x, y, d, rfl, rfl, hx, hx', hy, hy', HG, rfl⟩ := hrel
    by_cases h : y = 0
    · subst h
      have hg := HG.out
      rw [gcdI_zero] at hg
      have HH := Lib.hid hg
      clear hg
      go_wp2_with fail
      all_goals
        go_ret
        refine ⟨ret_int ?_, d, rfl⟩
        rw [← HH.out]
        clear HG HH
        omega
    · have hm := tmod_lt_abs x y h
      have hs := (gcdI_step x y).trans HG.out
      have hm0 : 0 ≤ x.tmod y := Int.tmod_nonneg _ hx
      rw [Int.tmod_eq_emod_of_nonneg hx] at hm hs hm0
      have HS := Lib.hid hs
      clear hs
      have hp : 0 < y := by omega
      go_wp2_with fail
      go_region
      go_wp2_with fail
      go_roundw
      case rel => exact ⟨y, x % y, d + 1, rfl, rfl, hy, hy', hm0, by omega, HS, rfl⟩
      case measure => simp only [intOf]; exact hm
/-- Two numbers lie in a range. -/
def In2 (lo hi a b : Int) : Prop := (lo ≤ a ∧ a ≤ hi) ∧ lo ≤ b ∧ b ≤ hi
instance (lo hi a b : Int) : Decidable (In2 lo hi a b) := by unfold In2; infer_instance
theorem within2_any (w : World) (g cap : Nat) (lo hi a b : Int) (h0 : w.cell? ⟨g, 0, none⟩ = some (.int .i64 a)) (h1 : w.cell? ⟨g, 1, none⟩ = some (.int .i64 b)) :
    Calls Try.prog 24 #[.slice (some ⟨g, 0, none⟩) 2 cap, .int .i64 lo, .int .i64 hi] w fun e w' => e = .returned (.bool (decide (In2 lo hi a b))) ∧ w = w' := by
  have h := areWithin_any w g cap 2 [a, b] lo hi (by omega) (fun j hj => by
    rcases (show j = 0 ∨ j = 1 from by omega) with rfl | rfl
    · exact h0
    · exact h1)
  have e : decide (InTo [a, b] lo hi 2) = decide (In2 lo hi a b) := decide_eq_decide.2 ⟨fun q => ⟨q 0 (by omega), q 1 (by omega)⟩, fun q j hj => by
    rcases (show j = 0 ∨ j = 1 from by omega) with rfl | rfl
    · exact q.1
    · exact q.2⟩
  rw [e] at h
  exact h
theorem pkB_in {n d g : Int} (h : In2 1 1000000000 n d) (hg : g = gcdI n d) : pkB n d = (g == 1) := pkB_gcd h.1 h.2 hg
theorem pkB_out {n d : Int} (h : ¬ In2 1 1000000000 n d) : pkB n d = false := decide_eq_false (fun q => h q.1)
set_option maxHeartbeats 400000 in
theorem pk_impl : PkImpl := by
  intro n d w
  have B0 := Lib.hid (below_alloc1 w (.cells #[.int .i64 n, .int .i64 d] 25))
  by_cases h : In2 1 1000000000 n d
  · obtain ⟨g, hg⟩ : ∃ g, g = gcdI n d := ⟨_, rfl⟩
    have GC := Lib.hid (fun w => gcdW_impl n d w (by have := h.1; omega) (by have := h.1; omega) (by have := h.2; omega) (by have := h.2; omega))
    rw [← hg] at GC
    have R := Lib.hid (pkB_in h hg)
    have W2 := Lib.hid (fun w g cap h0 h1 => within2_any w g cap 1 1000000000 n d h0 h1)
    rw [decide_eq_true h] at W2
    clear hg h
    go_enter Try.func14, Try.ntmps14
    go_wp2_with fail
    refine (W2.out _ _ _ (by simp [go_sem]) (by simp [go_sem])).mono ?_
    rintro e w1 ⟨rfl, rfl⟩
    go_wp2_with fail
    refine (GC.out _).mono ?_
    rintro e w1 ⟨rfl, k, rfl⟩
    go_wp2_with fail
    go_ret
    exact ⟨ret_boolT R.out.symm, below_drewN (below_growP B0.out _) _⟩
  · have R := Lib.hid (pkB_out h)
    have W2 := Lib.hid (fun w g cap h0 h1 => within2_any w g cap 1 1000000000 n d h0 h1)
    rw [decide_eq_false h] at W2
    clear h
    go_enter Try.func14, Try.ntmps14
    go_wp2_with fail
    refine (W2.out _ _ _ (by simp [go_sem]) (by simp [go_sem])).mono ?_
    rintro e w1 ⟨rfl, rfl⟩
    go_wp2_with fail
    go_ret
    exact ⟨ret_boolT R.out.symm, below_growP B0.out _⟩
set_option maxRecDepth 100000 in
set_option maxHeartbeats 2000000 in
theorem mk_impl : MkImpl := by
  intro n d x y z hf w
  have Z0 := Lib.hid (zed2_alloc (w := w) (t := 25))
  have B0 := Lib.hid (below_alloc1 w (.cells #[.int .i64 0, .int .i64 0] 25))
  obtain ⟨WA, hWA⟩ : ∃ W, W = w.alloc (.cells #[.int .i64 0, .int .i64 0] 25) := ⟨_, rfl⟩
  obtain ⟨m, hm⟩ : ∃ m, m = w.heap.size := ⟨_, rfl⟩
  by_cases h : In2 1 1000000000000000000 n d
  · obtain ⟨⟨g1, g2, g3⟩, s1, ⟨q1, q2⟩, s2⟩ := gcd_facts h.1.1 h.2.1
    have GC := Lib.hid (fun w => gcdW_impl n d w (by have := h.1; omega) (by have := h.1; omega) (by have := h.2; omega) (by have := h.2; omega))
    have W2 := Lib.hid (fun w g cap h0 h1 => within2_any w g cap 1 1000000000000000000 n d h0 h1)
    rw [decide_eq_true h] at W2
    have hfm : (MkOk n d ∧ x = n / gcdI n d ∧ y = d / gcdI n d ∧ z = true) ∨ (¬ MkOk n d ∧ x = 0 ∧ y = 0 ∧ z = false) := hf
    have hok : MkOk n d ↔ pkB (n / gcdI n d) (d / gcdI n d) = true := by
      unfold pkB
      rw [decide_eq_true_iff]
      exact ⟨fun q => q.2, fun q => ⟨h, q⟩⟩
    have u1 : n / gcdI n d ≤ n := Int.ediv_le_self _ (by omega)
    have u2 : d / gcdI n d ≤ d := Int.ediv_le_self _ (by omega)
    rw [hok] at hfm
    have e1 : n.tdiv (gcdI n d) = n / gcdI n d := Int.tdiv_eq_ediv_of_nonneg (by omega)
    have e2 : d.tdiv (gcdI n d) = d / gcdI n d := Int.tdiv_eq_ediv_of_nonneg (by omega)
    obtain ⟨a, ha⟩ : ∃ a, a = n / gcdI n d := ⟨_, rfl⟩
    obtain ⟨b, hb⟩ : ∃ b, b = d / gcdI n d := ⟨_, rfl⟩
    rw [← ha, ← hb] at hfm
    rw [← ha] at e1 u1 q1
    rw [← hb] at e2 u2 q2
    clear s1 s2
    have h1 := h.1
    have h2 := h.2
    obtain ⟨g, hg⟩ : ∃ g, g = gcdI n d := ⟨_, rfl⟩
    rw [← hg] at GC e1 e2 g1
    have w1 : IntKind.i64.wrap (n.tdiv g) = a := by rw [e1]; exact IntWalk.i64_in _ (by omega)
    have w2 : IntKind.i64.wrap (d.tdiv g) = b := by rw [e2]; exact IntWalk.i64_in _ (by omega)
    have hq : ¬ g = 0 := by omega
    have W12 := Lib.hid (And.intro w1 (And.intro w2 hq))
    clear w1 w2 hq
    have PK := Lib.hid (fun w => pk_impl a b w)
    obtain ⟨k, hk⟩ : ∃ k, k = pkB a b := ⟨_, rfl⟩
    rw [← hk] at PK hfm
    have HF := Lib.hid hfm
    rw [← hWA] at B0
    rw [← hWA, ← hm] at Z0
    have HWA := Lib.hid hWA
    have HM := Lib.hid hm
    clear hf hok ha hb hg h h1 h2 hk e1 e2 g1 g2 g3 u1 u2 q1 q2 hfm hWA hm
    go_enter Try.func18, Try.ntmps18
    go_upto_region 1 with fail
    rw [← HWA.out, ← HM.out]
    go_wp2_with fail
    refine (W2.out _ _ _ (by simp [go_sem]) (by simp [go_sem])).mono ?_
    rintro e w1 ⟨rfl, rfl⟩
    go_wp2_with fail
    refine (GC.out _).mono ?_
    rintro e w3 ⟨rfl, kk, rfl⟩
    go_upto_region 4 with fail
    obtain ⟨W0, hW0⟩ : ∃ W, W = (WA.alloc (.cells #[.int .i64 n, .int .i64 d] 3)).drewN kk := ⟨_, rfl⟩
    have Z1 : Hid (Zed2 m W0) := Lib.hid (by rw [hW0]; exact zed2_keep (below_drewN (below_alloc1 WA _) _) Z0.out)
    have B1 : Hid (Below w.heap.size w W0) := Lib.hid (by rw [hW0]; exact below_drewN (below_growP B0.out _) _)
    rw [← hW0]
    clear hW0 Z0 B0
    obtain ⟨v1, v2, v3⟩ := W12.out
    go_region
    all_goals
      obtain ⟨W1, hW1⟩ : ∃ X, X = (W0.alloc (.cells #[.int .i64 a, .int .i64 b] 25)).drew := ⟨_, rfl⟩
      have D1 : Hid (Duo W0.heap.size a b W1) := Lib.hid (by rw [hW1]; exact duo_alloc (w := W0))
      have Z2 : Hid (Zed2 m W1) := Lib.hid (by rw [hW1]; exact zed2_keep (below_alloc1 W0 _).drew Z1.out)
      have B2 : Hid (Below w.heap.size w W1) := Lib.hid (by rw [hW1]; exact B1.out.trans ((below_alloc1 W0 _).drew.mono B1.out.size))
      rw [← hW1]
      obtain ⟨_, c0, c1⟩ := D1.out
      generalize W0.heap.size = m1 at D1 c0 c1 ⊢
      clear hW1 Z1 B1 v1 v2 v3
      go_wp2_with fail
      refine (PK.out _).mono ?_
      rintro e w5 ⟨rfl, h5⟩
      have Z5 := Lib.hid (zed2_keep h5 Z2.out)
      have D5 := Lib.hid (duo_keep h5 D1.out)
      have B5 := Lib.hid (B2.out.trans (h5.mono B2.out.size))
      clear h5 c0 c1 Z2 D1 B2
      obtain ⟨⟨_, z0, z1⟩, f0, f1⟩ := Z5.out
      obtain ⟨_, d0, d1⟩ := D5.out
      cases k
      · obtain ⟨rfl, rfl, rfl⟩ := HF.out.elim (fun q => absurd q.1 (by decide)) (fun q => q.2)
        go_wp2_with fail
        obtain ⟨X, hX, ⟨_, x0, x1⟩, hB⟩ := zero_store HM.out Z5.out B5.out
        rw [hX]
        exact bodyPost_ret (v := .tuple #[pchV 0 0, .bool false]) (by simp [results, Try.results18, go_sem, x0, x1]) rfl ⟨rfl, hB⟩
      · obtain ⟨rfl, rfl, rfl⟩ := HF.out.elim (fun q => q.2) (fun q => absurd rfl q.1)
        go_wp2_with fail
        obtain ⟨X, hX, ⟨_, x0, x1⟩, hB⟩ := duo_store (p := x) (q := y) (by have := HM.out; omega) B5.out Z5.out.1
        rw [hX]
        exact bodyPost_ret (v := .tuple #[pchV x y, .bool true]) (by simp [results, Try.results18, go_sem, x0, x1]) rfl ⟨rfl, hB⟩
  · have W2 := Lib.hid (fun w g cap h0 h1 => within2_any w g cap 1 1000000000000000000 n d h0 h1)
    rw [decide_eq_false h] at W2
    obtain ⟨rfl, rfl, rfl⟩ := make_noB hf (fun q => h q.1)
    rw [← hWA] at B0
    rw [← hWA, ← hm] at Z0
    have HWA := Lib.hid hWA
    have HM := Lib.hid hm
    clear h hf hWA hm
    go_enter Try.func18, Try.ntmps18
    go_upto_region 1 with fail
    rw [← HWA.out, ← HM.out]
    go_wp2_with fail
    refine (W2.out _ _ _ (by simp [go_sem]) (by simp [go_sem])).mono ?_
    rintro e w1 ⟨rfl, rfl⟩
    obtain ⟨W0, hW0⟩ : ∃ W, W = WA.alloc (.cells #[.int .i64 n, .int .i64 d] 3) := ⟨_, rfl⟩
    have Z1 : Hid (Zed2 m W0) := Lib.hid (by rw [hW0]; exact zed2_keep (below_alloc1 WA _) Z0.out)
    have B1 : Hid (Below w.heap.size w W0) := Lib.hid (by rw [hW0]; exact below_growP B0.out _)
    rw [← hW0]
    clear hW0 Z0 B0
    obtain ⟨⟨_, z0, z1⟩, f0, f1⟩ := Z1.out
    go_wp2_with fail
    obtain ⟨X, hX, ⟨_, x0, x1⟩, hB⟩ := zero_store HM.out Z1.out B1.out
    rw [hX]
    exact bodyPost_ret (v := .tuple #[pchV 0 0, .bool false]) (by simp [results, Try.results18, go_sem, x0, x1]) rfl ⟨rfl, hB⟩
theorem mul_bd17 {n u : Int} (h : 1 ≤ n ∧ n ≤ 1000000000) (k : 1 ≤ u ∧ u ≤ 1000) : 0 ≤ n * u ∧ n * u ≤ 1000000000000 := by
  refine ⟨Int.mul_nonneg (by omega) (by omega), ?_⟩
  have h1 : n * u ≤ 1000000000 * u := Int.mul_le_mul_of_nonneg_right h.2 (by omega)
  omega
theorem pkB_of {n d : Int} (h : pkB n d = true) : PkOk n d := of_decide_eq_true h
theorem pkB_not {n d : Int} (h : pkB n d = false) : ¬ PkOk n d := of_decide_eq_false h
theorem times_no17 {n d u v x y : Int} {z : Bool} (h : TimesAt17 n d u v x y z) (hn : ¬ TpOk n d u v) : x = 0 ∧ y = 0 ∧ z = false := h.elim (fun q => absurd q.1 hn) (fun q => q.2)
set_option maxRecDepth 100000 in
set_option maxHeartbeats 2000000 in
theorem tp_impl17 : TpImpl17 := by
  intro n d u v x y z hf w
  obtain ⟨WA, hWA⟩ : ∃ W, W = (w.alloc (.cells #[.int .i64 n, .int .i64 d] 25)).alloc (.cells #[.int .i64 0, .int .i64 0] 25) := ⟨_, rfl⟩
  obtain ⟨m, hm⟩ : ∃ m, m = w.heap.size := ⟨_, rfl⟩
  have D0 : Hid (Duo m n d WA) := Lib.hid (by rw [hWA, hm]; exact duo_al duo_alloc)
  have Z0 : Hid (Zed2 (m + 1) WA) := Lib.hid (by rw [hWA, hm]; have h := zed2_alloc (w := w.alloc (.cells #[.int .i64 n, .int .i64 d] 25)) (t := 25); rwa [World.size_alloc] at h)
  have B0 : Hid (Below w.heap.size w WA) := Lib.hid (by rw [hWA]; exact below_alloc2 w _ _)
  have HWA := Lib.hid hWA
  have HM := Lib.hid hm
  have PK := Lib.hid (fun w => pk_impl n d w)
  obtain ⟨k, hk⟩ : ∃ k, k = pkB n d := ⟨_, rfl⟩
  rw [← hk] at PK
  have HK := Lib.hid hk
  have HF := Lib.hid hf
  clear hWA hm hk hf
  go_enter Try.func12, Try.ntmps12
  go_upto_region 1 with fail
  rw [← HWA.out]
  (try simp only [World.size_alloc])
  rw [← HM.out]
  obtain ⟨_, c0, c1⟩ := D0.out
  go_wp2_with fail
  refine (PK.out _).mono ?_
  rintro e w1 ⟨rfl, h1⟩
  have D1 := Lib.hid (duo_keep h1 D0.out)
  have Z1 := Lib.hid (zed2_keep h1 Z0.out)
  have B1 := Lib.hid (B0.out.trans (h1.mono B0.out.size))
  clear h1 c0 c1 D0 Z0 B0
  cases k
  · obtain ⟨rfl, rfl, rfl⟩ := times_no17 HF.out (fun q => pkB_not HK.out.symm q.1)
    obtain ⟨⟨_, z0, z1⟩, f0, f1⟩ := Z1.out
    go_wp2_with fail
    obtain ⟨X, hX, ⟨_, x0, x1⟩, hB⟩ := duo_store (m := m + 1) (p := 0) (q := 0) (by have := HM.out; omega) B1.out Z1.out.1
    rw [hX]
    exact bodyPost_ret (v := .tuple #[pchV 0 0, .bool false]) (by simp [results, Try.results12, go_sem, x0, x1]) rfl ⟨rfl, hB⟩
  · by_cases h : In2 1 1000 u v
    · have W2 := Lib.hid (fun w g cap h0 h1 => within2_any w g cap 1 1000 u v h0 h1)
      rw [decide_eq_true h] at W2
      have hp := pkB_of HK.out.symm
      have MK := Lib.hid (fun w => mk_impl (n * u) (d * v) x y z (HF.out.elim (fun q => q.2) (fun q => absurd ⟨hp, h⟩ q.1)) w)
      have l1 : 0 ≤ n * u ∧ n * u ≤ 1000000000000 := mul_bd17 hp.1.1 h.1
      have l2 : 0 ≤ d * v ∧ d * v ≤ 1000000000000 := mul_bd17 hp.1.2 h.2
      have v1 : IntKind.i64.wrap (n * u) = n * u := IntWalk.i64_in _ (by omega)
      have v2 : IntKind.i64.wrap (d * v) = d * v := IntWalk.i64_in _ (by omega)
      clear hp h l1 l2
      go_wp2_with fail
      refine (W2.out _ _ _ (by simp [go_sem]) (by simp [go_sem])).mono ?_
      rintro e w2 ⟨rfl, rfl⟩
      obtain ⟨W2', hW2⟩ : ∃ W, W = w1.alloc (.cells #[.int .i64 u, .int .i64 v] 3) := ⟨_, rfl⟩
      have D2 : Hid (Duo m n d W2') := Lib.hid (by rw [hW2]; exact duo_al D1.out)
      have Z2 : Hid (Zed2 (m + 1) W2') := Lib.hid (by rw [hW2]; exact zed2_keep (below_alloc1 w1 _) Z1.out)
      have B2 : Hid (Below w.heap.size w W2') := Lib.hid (by rw [hW2]; exact below_growP B1.out _)
      rw [← hW2]
      clear hW2 D1 Z1 B1 W2
      obtain ⟨_, c0, c1⟩ := D2.out
      go_wp2_with fail
      refine (MK.out _).mono ?_
      rintro e w3 ⟨rfl, h3⟩
      have Z3 := Lib.hid (zed2_keep h3 Z2.out)
      have B3 := Lib.hid (B2.out.trans (h3.mono B2.out.size))
      clear h3 c0 c1 D2 Z2 B2
      obtain ⟨⟨_, z0, z1⟩, f0, f1⟩ := Z3.out
      go_wp2_with fail
      obtain ⟨X, hX, ⟨_, x0, x1⟩, hB⟩ := duo_store (m := m + 1) (p := x) (q := y) (by have := HM.out; omega) B3.out Z3.out.1
      rw [hX]
      exact bodyPost_ret (v := .tuple #[pchV x y, .bool z]) (by simp [results, Try.results12, go_sem, x0, x1]) rfl ⟨rfl, hB⟩
    · have W2 := Lib.hid (fun w g cap h0 h1 => within2_any w g cap 1 1000 u v h0 h1)
      rw [decide_eq_false h] at W2
      obtain ⟨rfl, rfl, rfl⟩ := times_no17 HF.out (fun q => h q.2)
      clear h
      go_wp2_with fail
      refine (W2.out _ _ _ (by simp [go_sem]) (by simp [go_sem])).mono ?_
      rintro e w2 ⟨rfl, rfl⟩
      obtain ⟨W2', hW2⟩ : ∃ W, W = w1.alloc (.cells #[.int .i64 u, .int .i64 v] 3) := ⟨_, rfl⟩
      have Z2 : Hid (Zed2 (m + 1) W2') := Lib.hid (by rw [hW2]; exact zed2_keep (below_alloc1 w1 _) Z1.out)
      have B2 : Hid (Below w.heap.size w W2') := Lib.hid (by rw [hW2]; exact below_growP B1.out _)
      rw [← hW2]
      clear hW2 D1 Z1 B1 W2
      obtain ⟨⟨_, z0, z1⟩, f0, f1⟩ := Z2.out
      go_wp2_with fail
      obtain ⟨X, hX, ⟨_, x0, x1⟩, hB⟩ := duo_store (m := m + 1) (p := 0) (q := 0) (by have := HM.out; omega) B2.out Z2.out.1
      rw [hX]
      exact bodyPost_ret (v := .tuple #[pchV 0 0, .bool false]) (by simp [results, Try.results12, go_sem, x0, x1]) rfl ⟨rfl, hB⟩
end Go.Proofs.Ytgoaofkbegfinaa
