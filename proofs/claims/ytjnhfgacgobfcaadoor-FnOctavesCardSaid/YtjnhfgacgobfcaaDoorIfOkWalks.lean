/- Contracts of impl.simplestIfOk and spec.l03Checked. -/
import Derived.Test.YtjnhfgacgobfcaaDoorSimpleWalks
namespace Go.Proofs.YtjnhfgacgobfcaaDoor
open Go.RowKit Go.Joins
set_option linter.unusedVariables false
theorem okI_bd {a b c d : Int} (hx : okI a b c d = true) : 1 ≤ d ∧ d ≤ 12 ∧ -400 ≤ a ∧ a ≤ 400 ∧ -400 ≤ b ∧ b ≤ 400 ∧ -400 ≤ c ∧ c ≤ 400 := by unfold okI at hx; simpa using hx
theorem mul_bd (x y M N z : Int) (h : x * y = z) (hx : -M ≤ x) (hx' : x ≤ M) (hy : -N ≤ y) (hy' : y ≤ N) (hM : 0 ≤ M) (hN : 0 ≤ N) : -(M * N) ≤ z ∧ z ≤ M * N := by
  have h1 : z.natAbs = x.natAbs * y.natAbs := by rw [← h, Int.natAbs_mul]
  have h2 : x.natAbs * y.natAbs ≤ M.natAbs * N.natAbs := Nat.mul_le_mul (by omega) (by omega)
  have h3 : ((M.natAbs * N.natAbs : Nat) : Int) = M * N := by rw [Int.natCast_mul]; rw [Int.natAbs_of_nonneg hM, Int.natAbs_of_nonneg hN]
  omega
set_option maxHeartbeats 400000 in
theorem ifOk_yes (a b c d g : Int) (w : World) (hg : g = gcd4 a b c d) (ha : -1000000 ≤ a) (ha' : a ≤ 1000000) (hb : -1000000 ≤ b) (hb' : b ≤ 1000000) (hc : -1000000 ≤ c) (hc' : c ≤ 1000000) (hd : 1 ≤ d) (hd' : d ≤ 1000000) (hx : okI (a.tdiv g) (b.tdiv g) (c.tdiv g) (d.tdiv g) = true) :
    Calls Tryd.prog 19 #[ivV a b c d] w fun e w' => e = .returned (.tuple #[ivV (a.tdiv g) (b.tdiv g) (c.tdiv g) (d.tdiv g), .bool true]) ∧ Below w.heap.size w w' := by
  have HX := Lib.hid hx
  have HG := Lib.hid hg
  clear hx hg
  go_enter Tryd.func19, Tryd.ntmps19
  go_wp2_with fail
  refine (divided_any _ _ _ _ g _ HG.out (by omega) (by omega) (by omega) (by omega) (by omega) (by omega) (by omega) (by omega)).mono ?_
  rintro e w1 ⟨rfl, h1⟩
  obtain ⟨p, hp⟩ : ∃ p, p = a.tdiv g := ⟨_, rfl⟩
  obtain ⟨q, hq⟩ : ∃ p, p = b.tdiv g := ⟨_, rfl⟩
  obtain ⟨r, hr⟩ : ∃ p, p = c.tdiv g := ⟨_, rfl⟩
  obtain ⟨s, hs⟩ : ∃ p, p = d.tdiv g := ⟨_, rfl⟩
  rw [← hp, ← hq, ← hr, ← hs]
  have HX2 : Hid (okI p q r s = true) := Lib.hid (by rw [hp, hq, hr, hs]; exact HX.out)
  have HP := Lib.hid hp
  have HQ := Lib.hid hq
  have HR := Lib.hid hr
  have HS := Lib.hid hs
  clear hp hq hr hs HX HG
  obtain ⟨hc, hf⟩ := bcellT h1
  have m0 : w1.cell? ⟨w.heap.size + 1, 0, none⟩ = some (.int .i64 0) := by rw [hc _ _ (by simp)]; simp [go_sem]
  have m1 : w1.cell? ⟨w.heap.size + 1, 1, none⟩ = some (.int .i64 0) := by rw [hc _ _ (by simp)]; simp [go_sem]
  have m2 : w1.cell? ⟨w.heap.size + 1, 2, none⟩ = some (.int .i64 0) := by rw [hc _ _ (by simp)]; simp [go_sem]
  have m3 : w1.cell? ⟨w.heap.size + 1, 3, none⟩ = some (.int .i64 0) := by rw [hc _ _ (by simp)]; simp [go_sem]
  have f1 : ∀ o, w1.frozen? ⟨w.heap.size + 1, o, none⟩ = false := fun o => by rw [hf _ _ (by simp)]; simp [go_sem]
  have F1 := Lib.hid f1
  have s1 := h1.size
  simp at s1
  have b1 : Below w.heap.size w w1 := (below_alloc2 w _ _).trans (h1.mono (by simp; omega))
  clear h1 hc hf f1
  go_wp2_with fail
  refine (intervalOk_any _ _ _ _ _).mono ?_
  rintro e w2 ⟨rfl, h2⟩
  rw [HX2.out]
  obtain ⟨hc, hf⟩ := bcellT h2
  have n0 : w2.cell? ⟨w.heap.size + 1, 0, none⟩ = some (.int .i64 0) := by rw [hc _ _ (by simp; omega), World.cell?_alloc_past _ _ _ (by omega)]; exact m0
  have n1 : w2.cell? ⟨w.heap.size + 1, 1, none⟩ = some (.int .i64 0) := by rw [hc _ _ (by simp; omega), World.cell?_alloc_past _ _ _ (by omega)]; exact m1
  have n2 : w2.cell? ⟨w.heap.size + 1, 2, none⟩ = some (.int .i64 0) := by rw [hc _ _ (by simp; omega), World.cell?_alloc_past _ _ _ (by omega)]; exact m2
  have n3 : w2.cell? ⟨w.heap.size + 1, 3, none⟩ = some (.int .i64 0) := by rw [hc _ _ (by simp; omega), World.cell?_alloc_past _ _ _ (by omega)]; exact m3
  have f2 : ∀ o, w2.frozen? ⟨w.heap.size + 1, o, none⟩ = false := fun o => by rw [hf _ _ (by simp; omega), World.frozen?_alloc_past _ _ _ (by omega)]; exact F1.out o
  have l0 : w2.cell? ⟨w1.heap.size, 0, none⟩ = some (.int .i64 p) := by rw [hc _ _ (by simp)]; simp [go_sem]
  have l1 : w2.cell? ⟨w1.heap.size, 1, none⟩ = some (.int .i64 q) := by rw [hc _ _ (by simp)]; simp [go_sem]
  have l2 : w2.cell? ⟨w1.heap.size, 2, none⟩ = some (.int .i64 r) := by rw [hc _ _ (by simp)]; simp [go_sem]
  have l3 : w2.cell? ⟨w1.heap.size, 3, none⟩ = some (.int .i64 s) := by rw [hc _ _ (by simp)]; simp [go_sem]
  have b2 : Below w.heap.size w w2 := (b1.alloc b1.size _).trans (h2.mono (by simp; omega))
  clear h2 hc hf b1 m0 m1 m2 m3 F1 HX2
  go_wp2_with fail
  refine bodyPost_ret (v := .tuple #[ivV p q r s, .bool true]) (by simp [results, Tryd.results19, go_sem, n0, n1, n2, n3]) rfl ⟨by rw [HP.out, HQ.out, HR.out, HS.out], ?_⟩
  repeat' (first | exact b2 | (refine Below.setCell ?_ (by simp) _))
set_option maxHeartbeats 400000 in
theorem ifOk_no (a b c d g : Int) (w : World) (hg : g = gcd4 a b c d) (ha : -1000000 ≤ a) (ha' : a ≤ 1000000) (hb : -1000000 ≤ b) (hb' : b ≤ 1000000) (hc : -1000000 ≤ c) (hc' : c ≤ 1000000) (hd : 1 ≤ d) (hd' : d ≤ 1000000) (hx : okI (a.tdiv g) (b.tdiv g) (c.tdiv g) (d.tdiv g) = false) :
    Calls Tryd.prog 19 #[ivV a b c d] w fun e w' => e = .returned (.tuple #[ivV 0 0 0 0, .bool false]) ∧ Below w.heap.size w w' := by
  have HX := Lib.hid hx
  have HG := Lib.hid hg
  clear hx hg
  go_enter Tryd.func19, Tryd.ntmps19
  go_wp2_with fail
  refine (divided_any _ _ _ _ g _ HG.out (by omega) (by omega) (by omega) (by omega) (by omega) (by omega) (by omega) (by omega)).mono ?_
  rintro e w1 ⟨rfl, h1⟩
  obtain ⟨p, hp⟩ : ∃ p, p = a.tdiv g := ⟨_, rfl⟩
  obtain ⟨q, hq⟩ : ∃ p, p = b.tdiv g := ⟨_, rfl⟩
  obtain ⟨r, hr⟩ : ∃ p, p = c.tdiv g := ⟨_, rfl⟩
  obtain ⟨s, hs⟩ : ∃ p, p = d.tdiv g := ⟨_, rfl⟩
  rw [← hp, ← hq, ← hr, ← hs]
  have HX2 : Hid (okI p q r s = false) := Lib.hid (by rw [hp, hq, hr, hs]; exact HX.out)
  have HP := Lib.hid hp
  have HQ := Lib.hid hq
  have HR := Lib.hid hr
  have HS := Lib.hid hs
  clear hp hq hr hs HX HG
  obtain ⟨hc, hf⟩ := bcellT h1
  have m0 : w1.cell? ⟨w.heap.size + 1, 0, none⟩ = some (.int .i64 0) := by rw [hc _ _ (by simp)]; simp [go_sem]
  have m1 : w1.cell? ⟨w.heap.size + 1, 1, none⟩ = some (.int .i64 0) := by rw [hc _ _ (by simp)]; simp [go_sem]
  have m2 : w1.cell? ⟨w.heap.size + 1, 2, none⟩ = some (.int .i64 0) := by rw [hc _ _ (by simp)]; simp [go_sem]
  have m3 : w1.cell? ⟨w.heap.size + 1, 3, none⟩ = some (.int .i64 0) := by rw [hc _ _ (by simp)]; simp [go_sem]
  have f1 : ∀ o, w1.frozen? ⟨w.heap.size + 1, o, none⟩ = false := fun o => by rw [hf _ _ (by simp)]; simp [go_sem]
  have F1 := Lib.hid f1
  have s1 := h1.size
  simp at s1
  have b1 : Below w.heap.size w w1 := (below_alloc2 w _ _).trans (h1.mono (by simp; omega))
  clear h1 hc hf f1
  go_wp2_with fail
  refine (intervalOk_any _ _ _ _ _).mono ?_
  rintro e w2 ⟨rfl, h2⟩
  rw [HX2.out]
  obtain ⟨hc, hf⟩ := bcellT h2
  have n0 : w2.cell? ⟨w.heap.size + 1, 0, none⟩ = some (.int .i64 0) := by rw [hc _ _ (by simp; omega), World.cell?_alloc_past _ _ _ (by omega)]; exact m0
  have n1 : w2.cell? ⟨w.heap.size + 1, 1, none⟩ = some (.int .i64 0) := by rw [hc _ _ (by simp; omega), World.cell?_alloc_past _ _ _ (by omega)]; exact m1
  have n2 : w2.cell? ⟨w.heap.size + 1, 2, none⟩ = some (.int .i64 0) := by rw [hc _ _ (by simp; omega), World.cell?_alloc_past _ _ _ (by omega)]; exact m2
  have n3 : w2.cell? ⟨w.heap.size + 1, 3, none⟩ = some (.int .i64 0) := by rw [hc _ _ (by simp; omega), World.cell?_alloc_past _ _ _ (by omega)]; exact m3
  have f2 : ∀ o, w2.frozen? ⟨w.heap.size + 1, o, none⟩ = false := fun o => by rw [hf _ _ (by simp; omega), World.frozen?_alloc_past _ _ _ (by omega)]; exact F1.out o
  have l0 : w2.cell? ⟨w1.heap.size, 0, none⟩ = some (.int .i64 p) := by rw [hc _ _ (by simp)]; simp [go_sem]
  have l1 : w2.cell? ⟨w1.heap.size, 1, none⟩ = some (.int .i64 q) := by rw [hc _ _ (by simp)]; simp [go_sem]
  have l2 : w2.cell? ⟨w1.heap.size, 2, none⟩ = some (.int .i64 r) := by rw [hc _ _ (by simp)]; simp [go_sem]
  have l3 : w2.cell? ⟨w1.heap.size, 3, none⟩ = some (.int .i64 s) := by rw [hc _ _ (by simp)]; simp [go_sem]
  have b2 : Below w.heap.size w w2 := (b1.alloc b1.size _).trans (h2.mono (by simp; omega))
  clear h2 hc hf b1 m0 m1 m2 m3 F1 HX2
  go_wp2_with fail
  refine bodyPost_ret (v := .tuple #[ivV 0 0 0 0, .bool false]) (by simp [results, Tryd.results19, go_sem, n0, n1, n2, n3]) rfl ⟨rfl, ?_⟩
  repeat' (first | exact b2 | (refine Below.setCell ?_ (by simp) _))
end Go.Proofs.YtjnhfgacgobfcaaDoor
