/- The walk of laws.FnExactChainOf. -/
import Derived.Test.YtdnlebijmiaclabDoorSChain
import Derived.Test.YtdnlebijmiaclabDoorMarkIv
namespace Go.Proofs.YtdnlebijmiaclabDoor
open Go.RowKit Go.Joins
set_option linter.unusedVariables false
/-- A row is kept where another block is written. -/
theorem own4_apart {w w' : World} {base : Nat} {e : TypeId} {v : Value} {n : Nat} {xs : List Value} {r : Option Nat} (h : w.ownsRow base e 4 v n xs) (hg : w.grownBy w' r) (hr : ∀ g, v.ownBlock = some g → r ≠ some g) : w'.ownsRow base e 4 v n xs := by
  refine h.kept hg ?_
  cases hv : v.ownBlock
  · exact .inl rfl
  · exact .inr (fun e => hr _ hv e.symm)
/-- All answers have the same row. -/
theorem chain_all {low high : Int} {W1 W1' : World} {v1 : Value} :
    ChainAt low high W1 (.returned v1) W1' → ∃ (n : Nat) (f : Nat → Iv), n ≤ 61 ∧ ∀ (W W' : World) (v : Value), ChainAt low high W (.returned v) W' → W'.ownsRow W.heap.size 25 4 v n (ivCs (rowL n f)) := by
  rintro ⟨⟨x1, e1, h1⟩, _⟩
  injection e1 with e1
  subst e1
  rcases h1 with ⟨n1, o1⟩ | ⟨g1, m1, f1, q1, mv1, a1, o1⟩
  · refine ⟨0, fun _ => ⟨0, 0, 0, 0⟩, by omega, ?_⟩
    rintro W W' v ⟨⟨x2, e2, h2⟩, _⟩
    injection e2 with e2
    subst e2
    rcases h2 with ⟨n2, o2⟩ | ⟨g2, _⟩
    · exact o2
    · exact absurd g2 n1
  · refine ⟨m1, f1, by omega, ?_⟩
    rintro W W' v ⟨⟨x2, e2, h2⟩, _⟩
    injection e2 with e2
    subst e2
    rcases h2 with ⟨n2, o2⟩ | ⟨g2, m2, f2, q2, mv2, a2, o2⟩
    · exact absurd g1 n2
    · obtain rfl : m1 = m2 := by omega
      have u := asc_unique (chain_inj (low := low) (n := m1) g1.1 (by omega)) mv1 mv2 a1 a2
      rw [rowL_congr u]
      exact o2
theorem chain_ret {low high : Int} {W W' : World} {e : Ending} (h : ChainAt low high W e W') : ∃ v, e = .returned v := by
  obtain ⟨⟨v, he, _⟩, _⟩ := h
  exact ⟨v, he⟩
/-- Equal rows, told by their functions. -/
theorem eqRows (w : World) (b1 b2 : Nat) (e1 e2 : TypeId) (v1 v2 : Value) (n : Nat) (f : Nat → Iv) (hn : n ≤ 2000000) (h1 : w.ownsRow b1 e1 4 v1 n (ivCs (rowL n f))) (h2 : w.ownsRow b2 e2 4 v2 n (ivCs (rowL n f))) :
    Calls Tryd.prog 30 #[v1, v2] w fun en w' => en = .returned (.bool true) ∧ Below w.heap.size w w' := by
  have hl := rowL_len n f
  refine eqIvs_same w b1 b2 e1 e2 v1 v2 (rowL n f) (by omega) ?_ ?_
  · rw [hl]; exact h1
  · rw [hl]; exact h2
set_option maxRecDepth 100000 in
set_option maxHeartbeats 2000000 in
theorem walk_FnExactChainOf (A : Addr) (low high : Int) (w : World) (hs : SenAt A w) (_ : (Lit.int .i64 low).wf = true) (_ : (Lit.int .i64 high).wf = true) :
    Calls Tryd.prog 11 #[.int .i64 low, .int .i64 high] w fun e w' => e = .returned (.bool true) ∧ Below w.heap.size w w' := by
  have HS := Lib.hid hs
  clear hs
  go_enter Tryd.func11, Tryd.ntmps11
  go_wp2_with fail
  refine (chain_spec low high _).mono ?_
  intro en w1 hc1
  obtain ⟨vw, rfl⟩ := chain_ret hc1
  have C1 := Lib.hid hc1
  have B1 := Lib.hid hc1.2
  clear hc1
  go_wp2_with fail
  refine (chain_impl A low high _ (senAt_below HS.out B1.out)).mono ?_
  intro en w2 hc2
  obtain ⟨vg, rfl⟩ := chain_ret hc2
  have C2 := Lib.hid hc2
  have B2 := Lib.hid (B1.out.trans (hc2.2.mono B1.out.size))
  obtain ⟨n, f, hn, all⟩ := chain_all C1.out
  have o1 := all _ _ _ C1.out
  have o2 := all _ _ _ C2.out
  have ALL := Lib.hid all
  clear all
  have OW2 := Lib.hid (own4_below o1 hc2.2)
  have OG2 := Lib.hid o2
  have LW := Lib.hid (fun g (hg : vw.ownBlock = some g) => (o1.lt g hg).2)
  clear o1 o2 hc2
  go_wp2_with fail
  refine (eqRows _ _ _ _ _ _ _ n f (by omega) OG2.out OW2.out).mono ?_
  rintro en w3 ⟨rfl, k3⟩
  have B3 := Lib.hid (B2.out.trans (k3.mono B2.out.size))
  have OW3 := Lib.hid (own4_below OW2.out k3)
  have OG3 := Lib.hid (own4_below OG2.out k3)
  have LG := Lib.hid (fun g (hg : vg.ownBlock = some g) => (OG2.out.lt g hg).1)
  clear k3 OW2 OG2 B2
  go_wp2_with fail
  refine (markIv_own _ _ _ _ n f (by omega) OG3.out).mono ?_
  rintro en w4 ⟨rfl, o4, g4⟩
  have OG4 := Lib.hid o4
  have OW4 := Lib.hid (own4_apart OW3.out g4 (fun g hg e => by have := LW.out g hg; have := LG.out g e; omega))
  have B4 := Lib.hid (B3.out.grown g4 B3.out.size (fun j hj => Nat.le_trans B1.out.size (LG.out j hj)))
  obtain ⟨z, hz⟩ : ∃ z : Int, z = 1 + 4 * (n : Int) := ⟨_, rfl⟩
  have z1 : ¬ z < 0 := by omega
  have z2 : (z != z) = false := by simp
  have HZ := Lib.hid hz
  rw [← hz]
  clear o4 g4 OW3 OG3 B3 hz
  go_wp2_with fail
  refine (heldIv_own _ _ _ _ n (by omega) OG4.out).mono ?_
  rintro en w5 ⟨rfl, rfl⟩
  rw [← HZ.out]
  go_wp2_with fail
  refine (chain_impl A low high _ (senAt_below HS.out B4.out)).mono ?_
  intro en w6 hc6
  obtain ⟨vh, rfl⟩ := chain_ret hc6
  have C6 := Lib.hid hc6
  have B6 := Lib.hid (B4.out.trans (hc6.2.mono B4.out.size))
  have OW6 := Lib.hid (own4_below OW4.out hc6.2)
  have OG6 := Lib.hid (own4_below OG4.out hc6.2)
  have OH6 := Lib.hid (ALL.out _ _ _ C6.out)
  clear hc6 OW4 OG4 B4
  go_wp2_with fail
  refine (eqRows _ _ _ _ _ _ _ n f (by omega) OH6.out OW6.out).mono ?_
  rintro en w7 ⟨rfl, k7⟩
  have B7 := Lib.hid (B6.out.trans (k7.mono B6.out.size))
  have OG7 := Lib.hid (own4_below OG6.out k7)
  clear k7 OW6 OG6 OH6 B6
  go_wp2_with fail
  refine (heldIv_own _ _ _ _ n (by omega) OG7.out).mono ?_
  rintro en w8 ⟨rfl, rfl⟩
  rw [← HZ.out]
  go_wp2_with fail
  go_ret
  exact ⟨rfl, B7.out⟩
end Go.Proofs.YtdnlebijmiaclabDoor
