/- Contracts of impl.divided and spec.l03Simple: all four numbers divided by their greatest common divisor. -/
import Derived.Test.YtjfeeppbbckneabToneWalks
namespace Go.Proofs.Ytjfeeppbbckneab
open Go.RowKit Go.Joins
set_option linter.unusedVariables false
/-- The greatest number that divides all four. -/
def gcd4 (a b c d : Int) : Int := gcdI (gcdI d a) (gcdI b c)
theorem gcd4_pos (a b c d : Int) (h : 1 ≤ d) : 1 ≤ gcd4 a b c d := by
  have h0 : (gcdI d a) ≠ 0 := by
    unfold gcdI
    intro h1
    have h2 : Int.gcd d a = 0 := by exact_mod_cast h1
    rw [Int.gcd_eq_zero_iff] at h2
    omega
  have h3 := gcdI_nonneg (gcdI d a) (gcdI b c)
  have h4 : gcdI (gcdI d a) (gcdI b c) ≠ 0 := by
    intro h1
    have h2 : Int.gcd (gcdI d a) (gcdI b c) = 0 := by unfold gcdI at h1 ⊢; exact_mod_cast h1
    rw [Int.gcd_eq_zero_iff] at h2
    exact h0 h2.1
  unfold gcd4
  omega
theorem gcd4_spec (a b c d : Int) : gcdI (gcdI a b) (gcdI c d) = gcd4 a b c d := by
  unfold gcd4 gcdI
  congr 1
  simp only [Int.gcd, Int.natAbs_natCast]
  rw [Nat.gcd_comm d.natAbs a.natAbs, Nat.gcd_assoc, Nat.gcd_assoc]
  congr 1
  rw [← Nat.gcd_assoc, Nat.gcd_comm d.natAbs]
theorem gcd4_root (a b c d : Int) : gcdI d (gcdI (gcdI a b) c) = gcd4 a b c d := by
  unfold gcd4 gcdI
  congr 1
  simp only [Int.gcd, Int.natAbs_natCast]
  rw [Nat.gcd_assoc, Nat.gcd_assoc]
theorem gcd4_le (a b c d M : Int) (ha : -M ≤ a) (ha' : a ≤ M) (hb : -M ≤ b) (hb' : b ≤ M) (hc : -M ≤ c) (hc' : c ≤ M) (hd : -M ≤ d) (hd' : d ≤ M) : gcd4 a b c d ≤ M := by
  unfold gcd4
  have h1 := gcdI_le d a M hd hd' ha ha'
  have h2 := gcdI_le b c M hb hb' hc hc'
  have h3 := gcdI_nonneg d a
  have h4 := gcdI_nonneg b c
  exact gcdI_le _ _ M (by omega) h1 (by omega) h2
theorem quot_bd (x g M : Int) (hg : 1 ≤ g) (h : -M ≤ x) (h' : x ≤ M) : -M ≤ x.tdiv g ∧ x.tdiv g ≤ M := by
  have h1 : (x.tdiv g).natAbs ≤ x.natAbs := by rw [Int.natAbs_tdiv]; exact Nat.div_le_self _ _
  omega
set_option maxHeartbeats 1000000 in
theorem divided_any (a b c d g : Int) (w : World) (hg : g = gcd4 a b c d) (ha : -1000000 ≤ a) (ha' : a ≤ 1000000) (hb : -1000000 ≤ b) (hb' : b ≤ 1000000) (hc : -1000000 ≤ c) (hc' : c ≤ 1000000) (hd : 1 ≤ d) (hd' : d ≤ 1000000) :
    Calls Try.prog 90 #[ivV a b c d] w fun e w' => e = .returned (ivV (a.tdiv g) (b.tdiv g) (c.tdiv g) (d.tdiv g)) ∧ Below w.heap.size w w' := by
  have hp := gcd4_pos a b c d hd
  have hl := gcd4_le a b c d 1000000 ha ha' hb hb' hc hc' (by omega) hd'
  rw [← hg] at hp hl
  have HG := Lib.hid hg
  clear hg
  have m1 := gcdI_nonneg a b
  have m2 := gcdI_nonneg (gcdI a b) c
  have m3 := gcdI_le a b 1000000 (by omega) (by omega) (by omega) (by omega)
  have m4 := gcdI_le (gcdI a b) c 1000000 (by omega) (by omega) (by omega) (by omega)
  have hgg : gcdI d (gcdI (gcdI a b) c) = g := (gcd4_root a b c d).trans HG.out.symm
  have HGG := Lib.hid hgg
  clear hgg
  go_enter Try.func90, Try.ntmps90
  go_wp2_with fail
  go_quiet (first | (go_at_call 94; exact Calls.quiet_of (powers_impl _ _ _ _ (by omega) (by omega) (by omega) (by omega) (by omega) (by omega))) | (go_at_call 93; exact Calls.quiet_of (gcd_impl _ _ _ (by omega) (by omega) (by omega) (by omega))))
  rw [HGG.out]
  have hne : ¬ g = 0 := by omega
  have hq : (g == 0) = false := by simpa using hne
  obtain ⟨qa1, qa2⟩ := quot_bd a g 1000000 hp ha ha'
  obtain ⟨qb1, qb2⟩ := quot_bd b g 1000000 hp hb hb'
  obtain ⟨qc1, qc2⟩ := quot_bd c g 1000000 hp hc hc'
  obtain ⟨qd1, qd2⟩ := quot_bd d g 1000000 hp (by omega) hd'
  have wa : IntKind.i64.wrap (a.tdiv g) = a.tdiv g := IntWalk.i64_in _ (by omega)
  have wb : IntKind.i64.wrap (b.tdiv g) = b.tdiv g := IntWalk.i64_in _ (by omega)
  have wc : IntKind.i64.wrap (c.tdiv g) = c.tdiv g := IntWalk.i64_in _ (by omega)
  have wd : IntKind.i64.wrap (d.tdiv g) = d.tdiv g := IntWalk.i64_in _ (by omega)
  go_wp2_with fail
  go_region_held3 (fun w' => w'.cell? ⟨w.heap.size, 0, none⟩ = some (.int .i64 a) ∧ w'.cell? ⟨w.heap.size, 1, none⟩ = some (.int .i64 b) ∧ w'.cell? ⟨w.heap.size, 2, none⟩ = some (.int .i64 c) ∧ w'.cell? ⟨w.heap.size, 3, none⟩ = some (.int .i64 d)) (go_keep) (first | fail)
  go_wp2_with fail
  refine bodyPost_ret (v := ivV (a.tdiv g) (b.tdiv g) (c.tdiv g) (d.tdiv g)) (by simp [results, Try.results90, go_sem]) rfl ⟨rfl, ?_⟩
  repeat' (first | exact Below.trans (below_alloc2 _ _ _) (below_draws _ _ _) | (refine Below.setCell ?_ (by simp) _))
set_option maxHeartbeats 1000000 in
theorem simple_any (a b c d g : Int) (w : World) (hg : g = gcd4 a b c d) (ha : -1000000 ≤ a) (ha' : a ≤ 1000000) (hb : -1000000 ≤ b) (hb' : b ≤ 1000000) (hc : -1000000 ≤ c) (hc' : c ≤ 1000000) (hd : 1 ≤ d) (hd' : d ≤ 1000000) :
    Calls Try.prog 76 #[ivV a b c d] w fun e w' => e = .returned (ivV (a.tdiv g) (b.tdiv g) (c.tdiv g) (d.tdiv g)) ∧ Below w.heap.size w w' := by
  have hp := gcd4_pos a b c d hd
  have hl := gcd4_le a b c d 1000000 ha ha' hb hb' hc hc' (by omega) hd'
  rw [← hg] at hp hl
  have HG := Lib.hid hg
  clear hg
  have m1 := gcdI_nonneg a b
  have m2 := gcdI_nonneg c d
  have m3 := gcdI_le a b 1000000 (by omega) (by omega) (by omega) (by omega)
  have m4 := gcdI_le c d 1000000 (by omega) (by omega) (by omega) (by omega)
  have hgg : gcdI (gcdI a b) (gcdI c d) = g := (gcd4_spec a b c d).trans HG.out.symm
  have HGG := Lib.hid hgg
  clear hgg
  go_enter Try.func76, Try.ntmps76
  go_wp2_with fail
  go_quiet ((go_at_call 87; exact Calls.quiet_of (gcd_spec _ _ _ (by omega) (by omega) (by omega) (by omega))))
  rw [HGG.out]
  have hne : ¬ g = 0 := by omega
  have hq : (g == 0) = false := by simpa using hne
  obtain ⟨qa1, qa2⟩ := quot_bd a g 1000000 hp ha ha'
  obtain ⟨qb1, qb2⟩ := quot_bd b g 1000000 hp hb hb'
  obtain ⟨qc1, qc2⟩ := quot_bd c g 1000000 hp hc hc'
  obtain ⟨qd1, qd2⟩ := quot_bd d g 1000000 hp (by omega) hd'
  have wa : IntKind.i64.wrap (a.tdiv g) = a.tdiv g := IntWalk.i64_in _ (by omega)
  have wb : IntKind.i64.wrap (b.tdiv g) = b.tdiv g := IntWalk.i64_in _ (by omega)
  have wc : IntKind.i64.wrap (c.tdiv g) = c.tdiv g := IntWalk.i64_in _ (by omega)
  have wd : IntKind.i64.wrap (d.tdiv g) = d.tdiv g := IntWalk.i64_in _ (by omega)
  go_wp2_with fail
  go_region_held3 (fun w' => w'.cell? ⟨w.heap.size, 0, none⟩ = some (.int .i64 a) ∧ w'.cell? ⟨w.heap.size, 1, none⟩ = some (.int .i64 b) ∧ w'.cell? ⟨w.heap.size, 2, none⟩ = some (.int .i64 c) ∧ w'.cell? ⟨w.heap.size, 3, none⟩ = some (.int .i64 d)) (go_keep) (first | fail)
  go_wp2_with fail
  refine bodyPost_ret (v := ivV (a.tdiv g) (b.tdiv g) (c.tdiv g) (d.tdiv g)) (by simp [results, Try.results76, go_sem]) rfl ⟨rfl, ?_⟩
  repeat' (first | exact Below.trans (below_alloc2 _ _ _) (below_draws _ _ _) | (refine Below.setCell ?_ (by simp) _))
end Go.Proofs.Ytjfeeppbbckneab
