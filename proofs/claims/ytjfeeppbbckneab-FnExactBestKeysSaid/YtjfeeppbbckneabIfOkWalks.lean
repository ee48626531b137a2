/- Contracts of impl.simplestIfOk and spec.l03Checked. -/
import Derived.Test.YtjfeeppbbckneabSimpleWalks
namespace Go.Proofs.Ytjfeeppbbckneab
open Go.RowKit Go.Joins
set_option linter.unusedVariables false
theorem okI_bd {a b c d : Int} (hx : okI a b c d = true) : 1 ≤ d ∧ d ≤ 12 ∧ -400 ≤ a ∧ a ≤ 400 ∧ -400 ≤ b ∧ b ≤ 400 ∧ -400 ≤ c ∧ c ≤ 400 := by unfold okI at hx; simpa using hx
theorem mul_bd (x y M N z : Int) (h : x * y = z) (hx : -M ≤ x) (hx' : x ≤ M) (hy : -N ≤ y) (hy' : y ≤ N) (hM : 0 ≤ M) (hN : 0 ≤ N) : -(M * N) ≤ z ∧ z ≤ M * N := by
  have h1 : z.natAbs = x.natAbs * y.natAbs := by rw [← h, Int.natAbs_mul]
  have h2 : x.natAbs * y.natAbs ≤ M.natAbs * N.natAbs := Nat.mul_le_mul (by omega) (by omega)
  have h3 : ((M.natAbs * N.natAbs : Nat) : Int) = M * N := by rw [Int.natCast_mul]; rw [Int.natAbs_of_nonneg hM, Int.natAbs_of_nonneg hN]
  omega
set_option maxHeartbeats 400000 in
theorem ifOk_yes (a b c d g : Int) (w : World) (hg : g = gcd4 a b c d) (ha : -1000000 ≤ a) (ha' : a ≤ 1000000) (hb : -1000000 ≤ b) (hb' : b ≤ 1000000) (hc : -1000000 ≤ c) (hc' : c ≤ 1000000) (hd : 1 ≤ d) (hd' : d ≤ 1000000) (hx : okI (a.tdiv g) (b.tdiv g) (c.tdiv g) (d.tdiv g) = true) :
    Calls Try.prog 79 #[ivV a b c d] w fun e w' => e = .returned (.tuple #[ivV (a.tdiv g) (b.tdiv g) (c.tdiv g) (d.tdiv g), .bool true]) ∧ Below w.heap.size w w' := by
  have HX := Lib.hid hx
  have HG := Lib.hid hg
  clear hx hg
  go_enter Try.func79, Try.ntmps79
  go_wp2_with fail
  refine (divided_any _ _ _ _ g _ HG.out (by omega) (by omega) (by omega) (by omega) (by omega) (by omega) (by omega) (by omega)).mono ?_
  rintro e w1 ⟨rfl, h1⟩
  obtain ⟨p, hp⟩ : ∃ p, p = a.tdiv g := ⟨_, rfl⟩
  obtain ⟨q, hq⟩ : ∃ p, p = b.tdiv g := ⟨_, rfl⟩
  obtain ⟨r, hr⟩ : ∃ p, p = c.tdiv g := ⟨_, rfl⟩
  obtain ⟨s, hs⟩ : ∃ p, p = d.tdiv g := ⟨_, rfl⟩
  rw [← hp, ← hq, ← hr, ← hs]
  have HX2 : Hid (okI p q r s = true) := Lib.hid (by rw [hp, hq, hr, hs]; exact HX.out)
  have HP := Lib.hid hp
  have HQ := Lib.hid hq
  have HR := Lib.hid hr
  have HS := Lib.hid hs
  clear hp hq hr hs HX HG
  obtain ⟨hc, hf⟩ := bcellT h1
  have m0 : w1.cell? ⟨w.heap.size + 1, 0, none⟩ = some (.int .i64 0) := by rw [hc _ _ (by simp)]; simp [go_sem]
  have m1 : w1.cell? ⟨w.heap.size + 1, 1, none⟩ = some (.int .i64 0) := by rw [hc _ _ (by simp)]; simp [go_sem]
  have m2 : w1.cell? ⟨w.heap.size + 1, 2, none⟩ = some (.int .i64 0) := by rw [hc _ _ (by simp)]; simp [go_sem]
  have m3 : w1.cell? ⟨w.heap.size + 1, 3, none⟩ = some (.int .i64 0) := by rw [hc _ _ (by simp)]; simp [go_sem]
  have f1 : ∀ o, w1.frozen? ⟨w.heap.size + 1, o, none⟩ = false := fun o => by rw [hf _ _ (by simp)]; simp [go_sem]
  have F1 := Lib.hid f1
  have s1 := h1.size
  simp at s1
  have b1 : Below w.heap.size w w1 := (below_alloc2 w _ _).trans (h1.mono (by simp; omega))
  clear h1 hc hf f1
  go_wp2_with fail
  refine (intervalOk_any _ _ _ _ _).mono ?_
  rintro e w2 ⟨rfl, h2⟩
  rw [HX2.out]
  obtain ⟨hc, hf⟩ := bcellT h2
  have n0 : w2.cell? ⟨w.heap.size + 1, 0, none⟩ = some (.int .i64 0) := by rw [hc _ _ (by simp; omega), World.cell?_alloc_past _ _ _ (by omega)]; exact m0
  have n1 : w2.cell? ⟨w.heap.size + 1, 1, none⟩ = some (.int .i64 0) := by rw [hc _ _ (by simp; omega), World.cell?_alloc_past _ _ _ (by omega)]; exact m1
  have n2 : w2.cell? ⟨w.heap.size + 1, 2, none⟩ = some (.int .i64 0) := by rw [hc _ _ (by simp; omega), World.cell?_alloc_past _ _ _ (by omega)]; exact m2
  have n3 : w2.cell? ⟨w.heap.size + 1, 3, none⟩ = some (.int .i64 0) := by rw [hc _ _ (by simp; omega), World.cell?_alloc_past _ _ _ (by omega)]; exact m3
  have f2 : ∀ o, w2.frozen? ⟨w.heap.size + 1, o, none⟩ = false := fun o => by rw [hf _ _ (by simp; omega), World.frozen?_alloc_past _ _ _ (by omega)]; exact F1.out o
  have l0 : w2.cell? ⟨w1.heap.size, 0, none⟩ = some (.int .i64 p) := by rw [hc _ _ (by simp)]; simp [go_sem]
  have l1 : w2.cell? ⟨w1.heap.size, 1, none⟩ = some (.int .i64 q) := by rw [hc _ _ (by simp)]; simp [go_sem]
  have l2 : w2.cell? ⟨w1.heap.size, 2, none⟩ = some (.int .i64 r) := by rw [hc _ _ (by simp)]; simp [go_sem]
  have l3 : w2.cell? ⟨w1.heap.size, 3, none⟩ = some (.int .i64 s) := by rw [hc _ _ (by simp)]; simp [go_sem]
  have b2 : Below w.heap.size w w2 := (b1.alloc b1.size _).trans (h2.mono (by simp; omega))
  clear h2 hc hf b1 m0 m1 m2 m3 F1 HX2
  go_wp2_with fail
  refine bodyPost_ret (v := .tuple #[ivV p q r s, .bool true]) (by simp [results, Try.results79, go_sem, n0, n1, n2, n3]) rfl ⟨by rw [HP.out, HQ.out, HR.out, HS.out], ?_⟩
  repeat' (first | exact b2 | (refine Below.setCell ?_ (by simp) _))
set_option maxHeartbeats 400000 in
theorem ifOk_no (a b c d g : Int) (w : World) (hg : g = gcd4 a b c d) (ha : -1000000 ≤ a) (ha' : a ≤ 1000000) (hb : -1000000 ≤ b) (hb' : b ≤ 1000000) (hc : -1000000 ≤ c) (hc' : c ≤ 1000000) (hd : 1 ≤ d) (hd' : d ≤ 1000000) (hx : okI (a.tdiv g) (b.tdiv g) (c.tdiv g) (d.tdiv g) = false) :
    Calls Try.prog 79 #[ivV a b c d] w fun e w' => e = .returned (.tuple #[ivV 0 0 0 0, .bool false]) ∧ Below w.heap.size w w' := by
  have HX := Lib.hid hx
  have HG := Lib.hid hg
  clear hx hg
  go_enter Try.func79, Try.ntmps79
  go_wp2_with fail
  refine (divided_any _ _ _ _ g _ HG.out (by omega) (by omega) (by omega) (by omega) (by omega) (by omega) (by omega) (by omega)).mono ?_
  rintro e w1 ⟨rfl, h1⟩
  obtain ⟨p, hp⟩ : ∃ p, p = a.tdiv g := ⟨_, rfl⟩
  obtain ⟨q, hq⟩ : ∃ p, p = b.tdiv g := ⟨_, rfl⟩
  obtain ⟨r, hr⟩ : ∃ p, p = c.tdiv g := ⟨_, rfl⟩
  obtain ⟨s, hs⟩ : ∃ p, p = d.tdiv g := ⟨_, rfl⟩
  rw [← hp, ← hq, ← hr, ← hs]
  have HX2 : Hid (okI p q r s = false) := Lib.hid (by rw [hp, hq, hr, hs]; exact HX.out)
  have HP := Lib.hid hp
  have HQ := Lib.hid hq
  have HR := Lib.hid hr
  have HS := Lib.hid hs
  clear hp hq hr hs HX HG
  obtain ⟨hc, hf⟩ := bcellT h1
  have m0 : w1.cell? ⟨w.heap.size + 1, 0, none⟩ = some (.int .i64 0) := by rw [hc _ _ (by simp)]; simp [go_sem]
  have m1 : w1.cell? ⟨w.heap.size + 1, 1, none⟩ = some (.int .i64 0) := by rw [hc _ _ (by simp)]; simp [go_sem]
  have m2 : w1.cell? ⟨w.heap.size + 1, 2, none⟩ = some (.int .i64 0) := by rw [hc _ _ (by simp)]; simp [go_sem]
  have m3 : w1.cell? ⟨w.heap.size + 1, 3, none⟩ = some (.int .i64 0) := by rw [hc _ _ (by simp)]; simp [go_sem]
  have f1 : ∀ o, w1.frozen? ⟨w.heap.size + 1, o, none⟩ = false := fun o => by rw [hf _ _ (by simp)]; simp [go_sem]
  have F1 := Lib.hid f1
  have s1 := h1.size
  simp at s1
  have b1 : Below w.heap.size w w1 := (below_alloc2 w _ _).trans (h1.mono (by simp; omega))
  clear h1 hc hf f1
  go_wp2_with fail
  refine (intervalOk_any _ _ _ _ _).mono ?_
  rintro e w2 ⟨rfl, h2⟩
  rw [HX2.out]
  obtain ⟨hc, hf⟩ := bcellT h2
  have n0 : w2.cell? ⟨w.heap.size + 1, 0, none⟩ = some (.int .i64 0) := by rw [hc _ _ (by simp; omega), World.cell?_alloc_past _ _ _ (by omega)]; exact m0
  have n1 : w2.cell? ⟨w.heap.size + 1, 1, none⟩ = some (.int .i64 0) := by rw [hc _ _ (by simp; omega), World.cell?_alloc_past _ _ _ (by omega)]; exact m1
  have n2 : w2.cell? ⟨w.heap.size + 1, 2, none⟩ = some (.int .i64 0) := by rw [hc _ _ (by simp; omega), World.cell?_alloc_past _ _ _ (by omega)]; exact m2
  have n3 : w2.cell? ⟨w.heap.size + 1, 3, none⟩ = some (.int .i64 0) := by rw [hc _ _ (by simp; omega), World.cell?_alloc_past _ _ _ (by omega)]; exact m3
  have f2 : ∀ o, w2.frozen? ⟨w.heap.size + 1, o, none⟩ = false := fun o => by rw [hf _ _ (by simp; omega), World.frozen?_alloc_past _ _ _ (by omega)]; exact F1.out o
  have l0 : w2.cell? ⟨w1.heap.size, 0, none⟩ = some (.int .i64 p) := by rw [hc _ _ (by simp)]; simp [go_sem]
  have l1 : w2.cell? ⟨w1.heap.size, 1, none⟩ = some (.int .i64 q) := by rw [hc _ _ (by simp)]; simp [go_sem]
  have l2 : w2.cell? ⟨w1.heap.size, 2, none⟩ = some (.int .i64 r) := by rw [hc _ _ (by simp)]; simp [go_sem]
  have l3 : w2.cell? ⟨w1.heap.size, 3, none⟩ = some (.int .i64 s) := by rw [hc _ _ (by simp)]; simp [go_sem]
  have b2 : Below w.heap.size w w2 := (b1.alloc b1.size _).trans (h2.mono (by simp; omega))
  clear h2 hc hf b1 m0 m1 m2 m3 F1 HX2
  go_wp2_with fail
  refine bodyPost_ret (v := .tuple #[ivV 0 0 0 0, .bool false]) (by simp [results, Try.results79, go_sem, n0, n1, n2, n3]) rfl ⟨rfl, ?_⟩
  repeat' (first | exact b2 | (refine Below.setCell ?_ (by simp) _))
set_option maxHeartbeats 400000 in
theorem checked_yes (a b c d g : Int) (w : World) (hg : g = gcd4 a b c d) (ha : -1000000 ≤ a) (ha' : a ≤ 1000000) (hb : -1000000 ≤ b) (hb' : b ≤ 1000000) (hc : -1000000 ≤ c) (hc' : c ≤ 1000000) (hd : 1 ≤ d) (hd' : d ≤ 1000000) (hx : okI (a.tdiv g) (b.tdiv g) (c.tdiv g) (d.tdiv g) = true) :
    Calls Try.prog 74 #[ivV a b c d] w fun e w' => e = .returned (.tuple #[ivV (a.tdiv g) (b.tdiv g) (c.tdiv g) (d.tdiv g), .bool true]) ∧ Below w.heap.size w w' := by
  have HX := Lib.hid hx
  have HG := Lib.hid hg
  clear hx hg
  go_enter Try.func74, Try.ntmps74
  go_wp2_with fail
  refine (simple_any _ _ _ _ g _ HG.out (by omega) (by omega) (by omega) (by omega) (by omega) (by omega) (by omega) (by omega)).mono ?_
  rintro e w1 ⟨rfl, h1⟩
  obtain ⟨p, hp⟩ : ∃ p, p = a.tdiv g := ⟨_, rfl⟩
  obtain ⟨q, hq⟩ : ∃ p, p = b.tdiv g := ⟨_, rfl⟩
  obtain ⟨r, hr⟩ : ∃ p, p = c.tdiv g := ⟨_, rfl⟩
  obtain ⟨s, hs⟩ : ∃ p, p = d.tdiv g := ⟨_, rfl⟩
  rw [← hp, ← hq, ← hr, ← hs]
  have HX2 : Hid (okI p q r s = true) := Lib.hid (by rw [hp, hq, hr, hs]; exact HX.out)
  have HP := Lib.hid hp
  have HQ := Lib.hid hq
  have HR := Lib.hid hr
  have HS := Lib.hid hs
  clear hp hq hr hs HX HG
  obtain ⟨hc, hf⟩ := bcellT h1
  have m0 : w1.cell? ⟨w.heap.size + 1, 0, none⟩ = some (.int .i64 0) := by rw [hc _ _ (by simp)]; simp [go_sem]
  have m1 : w1.cell? ⟨w.heap.size + 1, 1, none⟩ = some (.int .i64 0) := by rw [hc _ _ (by simp)]; simp [go_sem]
  have m2 : w1.cell? ⟨w.heap.size + 1, 2, none⟩ = some (.int .i64 0) := by rw [hc _ _ (by simp)]; simp [go_sem]
  have m3 : w1.cell? ⟨w.heap.size + 1, 3, none⟩ = some (.int .i64 0) := by rw [hc _ _ (by simp)]; simp [go_sem]
  have f1 : ∀ o, w1.frozen? ⟨w.heap.size + 1, o, none⟩ = false := fun o => by rw [hf _ _ (by simp)]; simp [go_sem]
  have F1 := Lib.hid f1
  have s1 := h1.size
  simp at s1
  have b1 : Below w.heap.size w w1 := (below_alloc2 w _ _).trans (h1.mono (by simp; omega))
  clear h1 hc hf f1
  go_wp2_with fail
  refine (sintervalOk_any _ _ _ _ _).mono ?_
  rintro e w2 ⟨rfl, h2⟩
  rw [HX2.out]
  obtain ⟨hc, hf⟩ := bcellT h2
  have n0 : w2.cell? ⟨w.heap.size + 1, 0, none⟩ = some (.int .i64 0) := by rw [hc _ _ (by simp; omega), World.cell?_alloc_past _ _ _ (by omega)]; exact m0
  have n1 : w2.cell? ⟨w.heap.size + 1, 1, none⟩ = some (.int .i64 0) := by rw [hc _ _ (by simp; omega), World.cell?_alloc_past _ _ _ (by omega)]; exact m1
  have n2 : w2.cell? ⟨w.heap.size + 1, 2, none⟩ = some (.int .i64 0) := by rw [hc _ _ (by simp; omega), World.cell?_alloc_past _ _ _ (by omega)]; exact m2
  have n3 : w2.cell? ⟨w.heap.size + 1, 3, none⟩ = some (.int .i64 0) := by rw [hc _ _ (by simp; omega), World.cell?_alloc_past _ _ _ (by omega)]; exact m3
  have f2 : ∀ o, w2.frozen? ⟨w.heap.size + 1, o, none⟩ = false := fun o => by rw [hf _ _ (by simp; omega), World.frozen?_alloc_past _ _ _ (by omega)]; exact F1.out o
  have l0 : w2.cell? ⟨w1.heap.size, 0, none⟩ = some (.int .i64 p) := by rw [hc _ _ (by simp)]; simp [go_sem]
  have l1 : w2.cell? ⟨w1.heap.size, 1, none⟩ = some (.int .i64 q) := by rw [hc _ _ (by simp)]; simp [go_sem]
  have l2 : w2.cell? ⟨w1.heap.size, 2, none⟩ = some (.int .i64 r) := by rw [hc _ _ (by simp)]; simp [go_sem]
  have l3 : w2.cell? ⟨w1.heap.size, 3, none⟩ = some (.int .i64 s) := by rw [hc _ _ (by simp)]; simp [go_sem]
  have b2 : Below w.heap.size w w2 := (b1.alloc b1.size _).trans (h2.mono (by simp; omega))
  clear h2 hc hf b1 m0 m1 m2 m3 F1 HX2
  go_wp2_with fail
  refine bodyPost_ret (v := .tuple #[ivV p q r s, .bool true]) (by simp [results, Try.results74, go_sem, n0, n1, n2, n3]) rfl ⟨by rw [HP.out, HQ.out, HR.out, HS.out], ?_⟩
  repeat' (first | exact b2 | (refine Below.setCell ?_ (by simp) _))
set_option maxHeartbeats 400000 in
theorem checked_no (a b c d g : Int) (w : World) (hg : g = gcd4 a b c d) (ha : -1000000 ≤ a) (ha' : a ≤ 1000000) (hb : -1000000 ≤ b) (hb' : b ≤ 1000000) (hc : -1000000 ≤ c) (hc' : c ≤ 1000000) (hd : 1 ≤ d) (hd' : d ≤ 1000000) (hx : okI (a.tdiv g) (b.tdiv g) (c.tdiv g) (d.tdiv g) = false) :
    Calls Try.prog 74 #[ivV a b c d] w fun e w' => e = .returned (.tuple #[ivV 0 0 0 0, .bool false]) ∧ Below w.heap.size w w' := by
  have HX := Lib.hid hx
  have HG := Lib.hid hg
  clear hx hg
  go_enter Try.func74, Try.ntmps74
  go_wp2_with fail
  refine (simple_any _ _ _ _ g _ HG.out (by omega) (by omega) (by omega) (by omega) (by omega) (by omega) (by omega) (by omega)).mono ?_
  rintro e w1 ⟨rfl, h1⟩
  obtain ⟨p, hp⟩ : ∃ p, p = a.tdiv g := ⟨_, rfl⟩
  obtain ⟨q, hq⟩ : ∃ p, p = b.tdiv g := ⟨_, rfl⟩
  obtain ⟨r, hr⟩ : ∃ p, p = c.tdiv g := ⟨_, rfl⟩
  obtain ⟨s, hs⟩ : ∃ p, p = d.tdiv g := ⟨_, rfl⟩
  rw [← hp, ← hq, ← hr, ← hs]
  have HX2 : Hid (okI p q r s = false) := Lib.hid (by rw [hp, hq, hr, hs]; exact HX.out)
  have HP := Lib.hid hp
  have HQ := Lib.hid hq
  have HR := Lib.hid hr
  have HS := Lib.hid hs
  clear hp hq hr hs HX HG
  obtain ⟨hc, hf⟩ := bcellT h1
  have m0 : w1.cell? ⟨w.heap.size + 1, 0, none⟩ = some (.int .i64 0) := by rw [hc _ _ (by simp)]; simp [go_sem]
  have m1 : w1.cell? ⟨w.heap.size + 1, 1, none⟩ = some (.int .i64 0) := by rw [hc _ _ (by simp)]; simp [go_sem]
  have m2 : w1.cell? ⟨w.heap.size + 1, 2, none⟩ = some (.int .i64 0) := by rw [hc _ _ (by simp)]; simp [go_sem]
  have m3 : w1.cell? ⟨w.heap.size + 1, 3, none⟩ = some (.int .i64 0) := by rw [hc _ _ (by simp)]; simp [go_sem]
  have f1 : ∀ o, w1.frozen? ⟨w.heap.size + 1, o, none⟩ = false := fun o => by rw [hf _ _ (by simp)]; simp [go_sem]
  have F1 := Lib.hid f1
  have s1 := h1.size
  simp at s1
  have b1 : Below w.heap.size w w1 := (below_alloc2 w _ _).trans (h1.mono (by simp; omega))
  clear h1 hc hf f1
  go_wp2_with fail
  refine (sintervalOk_any _ _ _ _ _).mono ?_
  rintro e w2 ⟨rfl, h2⟩
  rw [HX2.out]
  obtain ⟨hc, hf⟩ := bcellT h2
  have n0 : w2.cell? ⟨w.heap.size + 1, 0, none⟩ = some (.int .i64 0) := by rw [hc _ _ (by simp; omega), World.cell?_alloc_past _ _ _ (by omega)]; exact m0
  have n1 : w2.cell? ⟨w.heap.size + 1, 1, none⟩ = some (.int .i64 0) := by rw [hc _ _ (by simp; omega), World.cell?_alloc_past _ _ _ (by omega)]; exact m1
  have n2 : w2.cell? ⟨w.heap.size + 1, 2, none⟩ = some (.int .i64 0) := by rw [hc _ _ (by simp; omega), World.cell?_alloc_past _ _ _ (by omega)]; exact m2
  have n3 : w2.cell? ⟨w.heap.size + 1, 3, none⟩ = some (.int .i64 0) := by rw [hc _ _ (by simp; omega), World.cell?_alloc_past _ _ _ (by omega)]; exact m3
  have f2 : ∀ o, w2.frozen? ⟨w.heap.size + 1, o, none⟩ = false := fun o => by rw [hf _ _ (by simp; omega), World.frozen?_alloc_past _ _ _ (by omega)]; exact F1.out o
  have l0 : w2.cell? ⟨w1.heap.size, 0, none⟩ = some (.int .i64 p) := by rw [hc _ _ (by simp)]; simp [go_sem]
  have l1 : w2.cell? ⟨w1.heap.size, 1, none⟩ = some (.int .i64 q) := by rw [hc _ _ (by simp)]; simp [go_sem]
  have l2 : w2.cell? ⟨w1.heap.size, 2, none⟩ = some (.int .i64 r) := by rw [hc _ _ (by simp)]; simp [go_sem]
  have l3 : w2.cell? ⟨w1.heap.size, 3, none⟩ = some (.int .i64 s) := by rw [hc _ _ (by simp)]; simp [go_sem]
  have b2 : Below w.heap.size w w2 := (b1.alloc b1.size _).trans (h2.mono (by simp; omega))
  clear h2 hc hf b1 m0 m1 m2 m3 F1 HX2
  go_wp2_with fail
  refine bodyPost_ret (v := .tuple #[ivV 0 0 0 0, .bool false]) (by simp [results, Try.results74, go_sem, n0, n1, n2, n3]) rfl ⟨rfl, ?_⟩
  repeat' (first | exact b2 | (refine Below.setCell ?_ (by simp) _))
end Go.Proofs.Ytjfeeppbbckneab
/- Mathematics of simplest forms: quadruples that are multiples of each other have the same simplest form. -/
namespace Go.Proofs.Ytjfeeppbbckneab
open Go.RowKit Go.Joins
set_option linter.unusedVariables false
theorem gcdI_mul (a b k : Int) (h : 0 ≤ k) : gcdI (a * k) (b * k) = gcdI a b * k := by
  unfold gcdI
  rw [Int.gcd_mul_right]
  rw [Int.natCast_mul, Int.natAbs_of_nonneg h]
theorem gcd4_mul (a b c d k : Int) (h : 0 ≤ k) : gcd4 (a * k) (b * k) (c * k) (d * k) = gcd4 a b c d * k := by
  unfold gcd4
  rw [gcdI_mul d a k h, gcdI_mul b c k h, gcdI_mul _ _ k h]
theorem gcdI_dvd (a b : Int) : gcdI a b ∣ a ∧ gcdI a b ∣ b := ⟨Int.gcd_dvd_left .., Int.gcd_dvd_right ..⟩
theorem gcd4_dvd (a b c d : Int) : gcd4 a b c d ∣ a ∧ gcd4 a b c d ∣ b ∧ gcd4 a b c d ∣ c ∧ gcd4 a b c d ∣ d := by
  unfold gcd4
  have h := gcdI_dvd (gcdI d a) (gcdI b c)
  exact ⟨Int.dvd_trans h.1 (gcdI_dvd d a).2, Int.dvd_trans h.2 (gcdI_dvd b c).1, Int.dvd_trans h.2 (gcdI_dvd b c).2, Int.dvd_trans h.1 (gcdI_dvd d a).1⟩
theorem quot_eq {x g q : Int} (hg : 1 ≤ g) (h : x = g * q) : x.tdiv g = q := by
  rw [h]; exact Int.mul_tdiv_cancel_left q (by omega)
/-- Two quadruples that are multiples of each other have the same simplest form. -/
theorem simple_same {a b c d a' b' c' d' : Int} (hd : 1 ≤ d) (hd' : 1 ≤ d') (h1 : a * d' = a' * d) (h2 : b * d' = b' * d) (h3 : c * d' = c' * d) :
    a.tdiv (gcd4 a b c d) = a'.tdiv (gcd4 a' b' c' d') ∧ b.tdiv (gcd4 a b c d) = b'.tdiv (gcd4 a' b' c' d') ∧ c.tdiv (gcd4 a b c d) = c'.tdiv (gcd4 a' b' c' d') ∧ d.tdiv (gcd4 a b c d) = d'.tdiv (gcd4 a' b' c' d') := by
  have hg := gcd4_pos a b c d hd
  have hg' := gcd4_pos a' b' c' d' hd'
  have key : gcd4 a b c d * d' = gcd4 a' b' c' d' * d := by
    rw [← gcd4_mul a b c d d' (by omega), ← gcd4_mul a' b' c' d' d (by omega), h1, h2, h3, Int.mul_comm d d']
  obtain ⟨⟨A, hA⟩, ⟨B, hB⟩, ⟨C, hC⟩, ⟨D, hD⟩⟩ := gcd4_dvd a b c d
  obtain ⟨⟨A', hA'⟩, ⟨B', hB'⟩, ⟨C', hC'⟩, ⟨D', hD'⟩⟩ := gcd4_dvd a' b' c' d'
  rw [quot_eq hg hA, quot_eq hg hB, quot_eq hg hC, quot_eq hg hD, quot_eq hg' hA', quot_eq hg' hB', quot_eq hg' hC', quot_eq hg' hD']
  generalize gcd4 a b c d = g at *
  generalize gcd4 a' b' c' d' = g' at *
  have hgg : g * g' ≠ 0 := Int.mul_ne_zero (by omega) (by omega)
  have eD : D' = D := by
    apply Int.eq_of_mul_eq_mul_left hgg
    rw [Int.mul_assoc, ← hD', key, hD]; ac_rfl
  have dne : D ≠ 0 := by intro h; rw [h] at hD; omega
  have lem : ∀ x x' X X' : Int, x * d' = x' * d → x = g * X → x' = g' * X' → X = X' := by
    intro x x' X X' h hx hx'
    rw [hx, hx', hD, hD', eD] at h
    apply Int.eq_of_mul_eq_mul_left (Int.mul_ne_zero hgg dne)
    calc g * g' * D * X = g * X * (g' * D) := by ac_rfl
      _ = g' * X' * (g * D) := h
      _ = g * g' * D * X' := by ac_rfl
  exact ⟨lem _ _ _ _ h1 hA hA', lem _ _ _ _ h2 hB hB', lem _ _ _ _ h3 hC hC', eD.symm⟩
theorem simple_pos {a b c d : Int} (hd : 1 ≤ d) : 1 ≤ d.tdiv (gcd4 a b c d) := by
  obtain ⟨D, hD⟩ := (gcd4_dvd a b c d).2.2.2
  have hg := gcd4_pos a b c d hd
  have e := quot_eq hg hD
  rw [e]
  rcases (show D ≤ 0 ∨ 1 ≤ D from by omega) with h | h
  · have := Int.mul_nonpos_of_nonneg_of_nonpos (show 0 ≤ gcd4 a b c d by omega) h
    omega
  · exact h
/-- The simplest form of a valid interval is valid. -/
theorem simple_ok {a b c d : Int} (h : okI a b c d = true) : okI (a.tdiv (gcd4 a b c d)) (b.tdiv (gcd4 a b c d)) (c.tdiv (gcd4 a b c d)) (d.tdiv (gcd4 a b c d)) = true := by
  unfold okI at h
  simp only [decide_eq_true_eq] at h
  have hg := gcd4_pos a b c d h.1
  have h1 := simple_pos (a := a) (b := b) (c := c) h.1
  have h2 := quot_bd a _ 400 hg (by omega) (by omega)
  have h3 := quot_bd b _ 400 hg (by omega) (by omega)
  have h4 := quot_bd c _ 400 hg (by omega) (by omega)
  have h5 := quot_bd d _ 12 hg (by omega) (by omega)
  unfold okI
  simp only [decide_eq_true_eq]
  omega
/-- The simplest form of a quadruple is a multiple of it. -/
theorem simple_mul {a b c d : Int} (hd : 1 ≤ d) : a.tdiv (gcd4 a b c d) * d = a * d.tdiv (gcd4 a b c d) ∧ b.tdiv (gcd4 a b c d) * d = b * d.tdiv (gcd4 a b c d) ∧ c.tdiv (gcd4 a b c d) * d = c * d.tdiv (gcd4 a b c d) := by
  have hg := gcd4_pos a b c d hd
  obtain ⟨⟨A, hA⟩, ⟨B, hB⟩, ⟨C, hC⟩, ⟨D, hD⟩⟩ := gcd4_dvd a b c d
  rw [quot_eq hg hA, quot_eq hg hB, quot_eq hg hC, quot_eq hg hD]
  generalize gcd4 a b c d = g at *
  rw [hA, hB, hC, hD]
  exact ⟨by ac_rfl, by ac_rfl, by ac_rfl⟩
end Go.Proofs.Ytjfeeppbbckneab
/- Contracts of impl.SimplestOf and spec.SimplestOf. -/
namespace Go.Proofs.Ytjfeeppbbckneab
open Go.RowKit Go.Joins
set_option linter.unusedVariables false
set_option maxHeartbeats 400000 in
theorem simplest_impl_no (a b c d : Int) (w : World) (hx : okI a b c d = false) :
    Calls Try.prog 82 #[ivV a b c d] w fun e w' => e = .returned (ivV 0 0 0 0) ∧ Below w.heap.size w w' := by
  have HX := Lib.hid hx
  clear hx
  go_enter Try.func82, Try.ntmps82
  go_wp2_with fail
  refine (intervalOk_any _ _ _ _ _).mono ?_
  rintro e w1 ⟨rfl, hb⟩
  rw [HX.out]
  obtain ⟨hc, hf⟩ := bcellT hb
  have q0 : w1.cell? ⟨w.heap.size + 1, 0, none⟩ = some (.int .i64 0) := by rw [hc _ _ (by simp)]; simp [go_sem]
  have q1 : w1.cell? ⟨w.heap.size + 1, 1, none⟩ = some (.int .i64 0) := by rw [hc _ _ (by simp)]; simp [go_sem]
  have q2 : w1.cell? ⟨w.heap.size + 1, 2, none⟩ = some (.int .i64 0) := by rw [hc _ _ (by simp)]; simp [go_sem]
  have q3 : w1.cell? ⟨w.heap.size + 1, 3, none⟩ = some (.int .i64 0) := by rw [hc _ _ (by simp)]; simp [go_sem]
  have kb : Below w.heap.size w w1 := (below_alloc2 w _ _).trans (hb.mono (by simp; omega))
  clear hb
  go_wp2_with fail
  refine bodyPost_ret (v := ivV 0 0 0 0) (by simp [results, Try.results82, go_sem, q0, q1, q2, q3]) rfl ⟨rfl, ?_⟩
  repeat' (first | exact kb | (refine Below.setCell ?_ (by simp) _))
set_option maxHeartbeats 400000 in
theorem simplest_impl_yes (a b c d g : Int) (w : World) (hg : g = gcd4 a b c d) (hx : okI a b c d = true) :
    Calls Try.prog 82 #[ivV a b c d] w fun e w' => e = .returned (ivV (a.tdiv g) (b.tdiv g) (c.tdiv g) (d.tdiv g)) ∧ Below w.heap.size w w' := by
  have hk : 1 ≤ d ∧ d ≤ 12 ∧ -400 ≤ a ∧ a ≤ 400 ∧ -400 ≤ b ∧ b ≤ 400 ∧ -400 ≤ c ∧ c ≤ 400 := by unfold okI at hx; simpa using hx
  obtain ⟨k1, k2, k3, k4, k5, k6, k7, k8⟩ := hk
  have HG := Lib.hid hg
  clear hg
  have HX := Lib.hid hx
  clear hx
  go_enter Try.func82, Try.ntmps82
  go_wp2_with fail
  refine (intervalOk_any _ _ _ _ _).mono ?_
  rintro e w1 ⟨rfl, hb⟩
  rw [HX.out]
  obtain ⟨hc, hf⟩ := bcellT hb
  have q0 : w1.cell? ⟨w.heap.size + 1, 0, none⟩ = some (.int .i64 0) := by rw [hc _ _ (by simp)]; simp [go_sem]
  have q1 : w1.cell? ⟨w.heap.size + 1, 1, none⟩ = some (.int .i64 0) := by rw [hc _ _ (by simp)]; simp [go_sem]
  have q2 : w1.cell? ⟨w.heap.size + 1, 2, none⟩ = some (.int .i64 0) := by rw [hc _ _ (by simp)]; simp [go_sem]
  have q3 : w1.cell? ⟨w.heap.size + 1, 3, none⟩ = some (.int .i64 0) := by rw [hc _ _ (by simp)]; simp [go_sem]
  have p0 : w1.cell? ⟨w.heap.size, 0, none⟩ = some (.int .i64 a) := by rw [hc _ _ (by simp; omega)]; simp [go_sem]
  have p1 : w1.cell? ⟨w.heap.size, 1, none⟩ = some (.int .i64 b) := by rw [hc _ _ (by simp; omega)]; simp [go_sem]
  have p2 : w1.cell? ⟨w.heap.size, 2, none⟩ = some (.int .i64 c) := by rw [hc _ _ (by simp; omega)]; simp [go_sem]
  have p3 : w1.cell? ⟨w.heap.size, 3, none⟩ = some (.int .i64 d) := by rw [hc _ _ (by simp; omega)]; simp [go_sem]
  have kb : Below w.heap.size w w1 := (below_alloc2 w _ _).trans (hb.mono (by simp; omega))
  have hz := hb.size
  simp at hz
  have f1 : ∀ o, w1.frozen? ⟨w.heap.size + 1, o, none⟩ = false := fun o => by rw [hf _ _ (by simp)]; simp [go_sem]
  have F1 := Lib.hid f1
  clear hb hc hf f1
  go_wp2_with fail
  refine (divided_any _ _ _ _ g _ HG.out (by omega) (by omega) (by omega) (by omega) (by omega) (by omega) (by omega) (by omega)).mono ?_
  rintro e w2 ⟨rfl, hb2⟩
  obtain ⟨hc2, hf2⟩ := bcellT hb2
  have r0 : w2.cell? ⟨w.heap.size + 1, 0, none⟩ = some (.int .i64 0) := by rw [hc2 _ _ (by omega)]; exact q0
  have r1 : w2.cell? ⟨w.heap.size + 1, 1, none⟩ = some (.int .i64 0) := by rw [hc2 _ _ (by omega)]; exact q1
  have r2 : w2.cell? ⟨w.heap.size + 1, 2, none⟩ = some (.int .i64 0) := by rw [hc2 _ _ (by omega)]; exact q2
  have r3 : w2.cell? ⟨w.heap.size + 1, 3, none⟩ = some (.int .i64 0) := by rw [hc2 _ _ (by omega)]; exact q3
  have f2 : ∀ o, w2.frozen? ⟨w.heap.size + 1, o, none⟩ = false := fun o => by rw [hf2 _ _ (by omega)]; exact F1.out o
  have kb2 : Below w.heap.size w w2 := kb.trans (hb2.mono (by omega))
  clear hb2 hc2 hf2 q0 q1 q2 q3 p0 p1 p2 p3
  go_wp2_with fail
  refine bodyPost_ret (v := ivV (a.tdiv g) (b.tdiv g) (c.tdiv g) (d.tdiv g)) (by simp [results, Try.results82, go_sem, r0, r1, r2, r3]) rfl ⟨rfl, ?_⟩
  repeat' (first | exact kb2 | (refine Below.setCell ?_ (by simp) _))
end Go.Proofs.Ytjfeeppbbckneab
