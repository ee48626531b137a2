/- Contract of spec.AffectedKeys. -/
import Derived.Test.YtbklnlmijkclmaaSDepth
import Derived.Deep.RegionHeld3
import Derived.Deep.RegionWith
import Derived.Test.YtbklnlmijkclmaaTakeD
namespace Go.Proofs.Ytbklnlmijkclmaa
open Go.RowKit Go.Joins
set_option linter.unusedVariables false
/-- The keys that are marked behind k steps. -/
def affB (a k : Nat) : List Bool := (List.range 12).map fun j => decide (a < j ∧ j ≤ max k (a + 1))
theorem affB_len (a k : Nat) : (affB a k).length = 12 := by simp [affB]
theorem affB_at (a k : Nat) {j : Nat} (hj : j < 12) : (affB a k)[j]? = some (decide (a < j ∧ j ≤ max k (a + 1))) := by simp [affB, hj]
theorem affB_start : ∀ a, a < 11 → (List.replicate 12 false).set (a + 1) true = affB a 0 := by decide
theorem affB_set : ∀ a, a < 11 → ∀ k, k < 11 → (affB a k).set (k + 1) (decide (a < k + 1 ∧ k + 1 ≤ max k (a + 1)) || decide (a < k ∧ k ≤ max k (a + 1))) = affB a (k + 1) := by decide +kernel
/-- The marked keys at the start. -/
theorem aff_start {w w1 W : World} {g a T : Nat} (hg : g = w1.heap.size) (hT : T = a + 1) (ha : a < 11) (hb : Below w.heap.size w w1) (h : W.ownsRow w.heap.size 4 1 (.slice (some ⟨g, 0, none⟩) 12 12) 12 (madeCells (Value.bool false).cells (12 * 1)).toList) (hgrow : w1.grownBy W none) :
    (W.cell? ⟨g, T, none⟩ = some (.bool false) ∧ W.frozen? ⟨g, T, none⟩ = false) ∧ Below w1.heap.size w1 W ∧ (W.setCell ⟨g, T, none⟩ (.bool true)).ownsRow w.heap.size 4 1 (.slice (some ⟨g, 0, none⟩) 12 12) 12 (boolCs (affB a 0)) ∧ Below w.heap.size w (W.setCell ⟨g, T, none⟩ (.bool true)) := by
  have e : (madeCells (Value.bool false).cells (12 * 1)).toList = boolCs (List.replicate 12 false) := by simp [Value.cells, toList_madeCells_one, boolCs]
  rw [e] at h
  have h2 := (h.stored T (.bool true)).1
  rw [boolCs_set, hT, affB_start a ha] at h2
  have b1 : Below w1.heap.size w1 W := (Below.refl _ _).grown hgrow (Nat.le_refl _) (by simp)
  have b2 := hb.trans (b1.mono hb.size)
  exact ⟨⟨boolCs_at h (j := T) (b := false) (by rw [hT, List.getElem?_replicate, if_pos (by omega)]) (by simp), h.frozenAt T⟩, b1, by rw [hT]; exact h2, b2.setCell (p := ⟨g, T, none⟩) (by have := hb.size; simp only; omega) _⟩
/-- What a round reads and writes. -/
def AffR (gx g k T : Nat) (x y : Bool) (w : World) : Prop :=
  (w.cell? ⟨gx, k * 4, none⟩ = some (.int .i64 (k : Int)) ∧ w.cell? ⟨gx, k * 4 + 1, none⟩ = some (.int .i64 (T : Int))) ∧ (w.cell? ⟨g, T, none⟩ = some (.bool x) ∧ w.cell? ⟨g, k, none⟩ = some (.bool y)) ∧ w.frozen? ⟨g, T, none⟩ = false
theorem affR_cells {gx g k T : Nat} {x y : Bool} {w : World} (h : AffR gx g k T x y w) : w.cell? ⟨gx, k * 4, none⟩ = some (.int .i64 (k : Int)) ∧ w.cell? ⟨gx, k * 4 + 1, none⟩ = some (.int .i64 (T : Int)) ∧ w.cell? ⟨g, T, none⟩ = some (.bool x) ∧ w.cell? ⟨g, k, none⟩ = some (.bool y) ∧ w.frozen? ⟨g, T, none⟩ = false := ⟨h.1.1, h.1.2, h.2.1.1, h.2.1.2, h.2.2⟩
theorem affR_set {gx g k S : Nat} {y : Bool} {w : World} (hg : gx ≠ g) (hS : S = k + 1) (h : AffR gx g k S true y w) : AffR gx g k S true y (w.setCell ⟨g, S, none⟩ (.bool true)) := by
  obtain ⟨⟨h1, h2⟩, ⟨h3, h4⟩, h5⟩ := h
  have d1 : (⟨g, S, none⟩ : Addr) ≠ ⟨gx, k * 4, none⟩ := fun e => hg (by injection e with e1; exact e1.symm)
  have d2 : (⟨g, S, none⟩ : Addr) ≠ ⟨gx, k * 4 + 1, none⟩ := fun e => hg (by injection e with e1; exact e1.symm)
  have d3 : (⟨g, S, none⟩ : Addr) ≠ ⟨g, k, none⟩ := fun e => by injection e with _ e2; omega
  exact ⟨⟨(World.cell?_setCell_other _ _ _ _ d1).trans h1, (World.cell?_setCell_other _ _ _ _ d2).trans h2⟩, ⟨World.cell?_setCell_same _ _ _ h3, (World.cell?_setCell_other _ _ _ _ d3).trans h4⟩, by simpa using h5⟩
theorem own_gen {w w' : World} {base : Nat} {e : TypeId} {size : Nat} {v : Value} {n : Nat} {xs : List Value} {r : Option Nat} (h : w.ownsRow base e size v n xs) (hg : w.grownBy w' r) (hr : ∀ g, v.ownBlock = some g → r ≠ some g) : w'.ownsRow base e size v n xs := by
  refine h.kept hg ?_
  cases hv : v.ownBlock
  · exact .inl rfl
  · exact .inr (fun e => hr _ hv e.symm)
theorem affL_no {xs : List Iv} {a : Int} (h : ¬ AtOk xs a) : affL xs a = [] := if_neg h
theorem aff_app {w : World} {B g cap m n a i : Nat} {e : TypeId} (h1 : a < i ∧ i ≤ n) (hm : m = (affTo n a i).length) (h : w.ownsRow B e 1 (.slice (some ⟨g, 0, none⟩) (m + 1) cap) (m + 1) (intCs (affTo n a i) ++ [.int .i64 (i : Int)])) : w.ownsRow B e 1 (.slice (some ⟨g, 0, none⟩) (m + 1) cap) (affTo n a (i + 1)).length (intCs (affTo n a (i + 1))) := by
  rw [affTo_yes h1, intCs_app, List.length_append, ← hm]
  exact h
set_option maxRecDepth 100000 in
set_option maxHeartbeats 8000000 in
theorem affected_spec (a : Int) (w : World) (b : Nat) (e : TypeId) (v : Value) (xs : List Iv) (hl : xs.length ≤ 2000000) (h : w.ownsRow b e 4 v xs.length (ivCs xs)) :
    Calls Try.prog 28 #[v, .int .i64 a] w (OwnPost 3 (affL xs a) w) := by
  have OL := Lib.hid (World.ownsRow_lit (base := w.heap.size) (e := 3) (size := 1) w #[] 0 (Nat.le_refl _) (by unfold maxLen; omega) rfl)
  have PK := Lib.hid (fun (W : World) (q : Below w.heap.size w W) => planOk_spec W b e v xs hl (own4_below h q))
  have BL := Lib.hid (below_alloc1 w (.cells #[] 3))
  by_cases hp : PlOk xs
  · rw [show planB xs = true from decide_eq_true hp] at PK
    have hs : ∃ p c, v = .slice p xs.length c := by
      rcases own4_shape h with ⟨q, q'⟩ | ⟨g, cap, q, _⟩
      · exact ⟨none, 0, by rw [q, q']⟩
      · exact ⟨_, _, q⟩
    obtain ⟨p, c, rfl⟩ := hs
    have hn11 := hp.1
    obtain ⟨n, hn⟩ : ∃ n, n = xs.length := ⟨_, rfl⟩
    rw [← hn] at PK h hl hn11 ⊢
    have HN := Lib.hid hn
    by_cases h1 : 0 ≤ a ∧ a ≤ (n : Int) - 1
    · have H1 := Lib.hid (decide_eq_true h1)
      obtain ⟨A, hA⟩ : ∃ A : Nat, a = A := ⟨a.toNat, by omega⟩
      have hAn : A < n := by omega
      have HV : Hid (affL xs a = affTo n A 12) := Lib.hid (by unfold affL; rw [if_pos ⟨hp, by omega, by omega⟩, hA, Int.toNat_natCast, hn])
      subst hA
      obtain ⟨gx, cx, hgx, _, lgx⟩ := own4_pos h (by omega)
      simp only [Value.slice.injEq, true_and] at hgx
      obtain ⟨rfl, rfl⟩ := hgx
      obtain ⟨T, hT⟩ : ∃ T : Nat, T = A + 1 := ⟨_, rfl⟩
      have HO := Lib.hid h
      have HP := Lib.hid hp
      have xT : w.cell? ⟨gx, A * 4 + 1, none⟩ = some (.int .i64 (T : Int)) := by
        obtain ⟨_, x1, _, _⟩ := own_iv h hn A hAn
        rw [x1, (hp.2 A (by omega)).1.2, hT]; push_cast; rfl
      have XT := Lib.hid xT
      have LG := Lib.hid lgx
      have HT := Lib.hid hT
      have q1 : 0 ≤ (A : Int) := by omega
      have q2 : (A : Int) < n := by omega
      have t1 : 0 ≤ (T : Int) := by omega
      have t2 : (T : Int) < 12 := by omega
      obtain ⟨i0, hif, hz0, hz1, hz2⟩ := info_parts infoBool
      obtain ⟨j0, jif, jz0, jz1, jz2⟩ := info_parts infoInt
      clear h1 hn hp h xT lgx hT
      go_enter Try.func28, Try.ntmps28
      go_wp2_with fail
      refine (PK.out _ BL.out).mono ?_
      rintro e1 w1 ⟨rfl, b1⟩
      have O1 := Lib.hid (own_below OL.out b1)
      have B1 := Lib.hid (BL.out.trans (b1.mono BL.out.size))
      have c1 := (B1.out.cell (p := ⟨gx, A * 4 + 1, none⟩) LG.out).trans XT.out
      clear b1 OL BL PK
      obtain ⟨v0, hv0⟩ : ∃ v0, v0 = Value.slice (some ⟨w.heap.size, 0, none⟩) 0 0 := ⟨_, rfl⟩
      rw [← hv0] at O1 ⊢
      clear hv0
      go_wp2_with fail
      refine (in_at H1.out _).mono ?_
      rintro e1 w3 ⟨rfl, rfl⟩
      have V0 := Lib.hid (fun j hj => (O1.out.lt j hj).2)
      go_wp2_with (at_make; refine wpList_make_full _ rfl _ _ 72 rfl w1.heap.size 4 i0 (.bool false) 1 Try.underlying72 hif hz0 hz1 _ _ _ _ 12 rfl rfl rfl rfl (by rw [hz2]; omega) (by unfold maxLen; omega) (Nat.le_refl _) ?_; intro w3 hown1 hgrow1; obtain ⟨⟨q0, f0⟩, hb3, hown2, hb2⟩ := aff_start rfl HT.out (by omega) (Below.refl w1.heap.size w1) hown1 hgrow1; have c3 := (hb3.cell (p := ⟨gx, A * 4 + 1, none⟩) (Nat.lt_of_lt_of_le LG.out B1.out.size)).trans c1)
      obtain ⟨g, hg⟩ : ∃ g, g = w1.heap.size := ⟨_, rfl⟩
      obtain ⟨W0, hW0⟩ : ∃ W, W = w3.setCell ⟨w1.heap.size, T, none⟩ (.bool true) := ⟨_, rfl⟩
      rw [← hW0] at hown2 hb2 ⊢
      have I0 : Hid (W0.ownsRow w1.heap.size 4 1 (.slice (some ⟨g, 0, none⟩) 12 12) 12 (boolCs (affB A 0))) := Lib.hid (by rw [hg]; exact hown2)
      have B0 := Lib.hid hb2
      rw [← hg]
      have HG := Lib.hid hg
      have HA := Lib.hid hAn
      clear hW0 hown1 hgrow1 q0 f0 hown2 hb2 hg hb3 c1 c3 XT hif hz0 hz1 hz2 q1 q2 t1 t2 hAn
      go_loopw [7] (fun i wr => ∃ k : Nat, k ≤ n ∧ i = .int .i64 (k : Int) ∧ Hid (wr.ownsRow w1.heap.size 4 1 (.slice (some ⟨g, 0, none⟩) 12 12) 12 (boolCs (affB A k))) ∧ Hid (Below w1.heap.size w1 wr)) (fun i _ => n - (intOf i).toNat)
      case atStart => exact ⟨0, by omega, by go_num, I0, B0⟩
      case round =>
        clear I0 B0
        obtain ⟨k, hk, rfl, HI, HB⟩ := hrel
        by_cases hlt : k < n
        · have q3 : (k : Int) < n := by omega
          have k0 : 0 ≤ (k : Int) := by omega
          have k12 : (k : Int) < 12 := by omega
          obtain ⟨S, hS⟩ : ∃ S : Nat, S = k + 1 := ⟨_, rfl⟩
          have s0 : 0 ≤ (S : Int) := by omega
          have s12 : (S : Int) < 12 := by omega
          have r1 := own_iv (own4_below HO.out (B1.out.trans (HB.out.mono B1.out.size))) HN.out k hlt
          have r2 := (HP.out.2 k (by have := HN.out; omega)).1
          obtain ⟨x0, x1, _, _⟩ := r1
          rw [r2.1] at x0
          rw [r2.2] at x1
          have x1' : wr.cell? ⟨gx, k * 4 + 1, none⟩ = some (.int .i64 (S : Int)) := by rw [x1, hS]; push_cast; rfl
          have cS := boolCs_at HI.out (affB_at A k (j := S) (by omega)) (affB_len A k).symm
          have cK := boolCs_at HI.out (affB_at A k (j := k) (by omega)) (affB_len A k).symm
          obtain ⟨x, hx⟩ : ∃ x, x = decide (A < S ∧ S ≤ max k (A + 1)) := ⟨_, rfl⟩
          obtain ⟨y, hy⟩ : ∃ y, y = decide (A < k ∧ k ≤ max k (A + 1)) := ⟨_, rfl⟩
          rw [← hx] at cS
          rw [← hy] at cK
          have AR : Hid (AffR gx g k S x y wr) := Lib.hid ⟨⟨x0, x1'⟩, ⟨cS, cK⟩, HI.out.frozenAt S⟩
          have ST := (HI.out.stored S (.bool (x || y))).1
          rw [boolCs_set, hx, hy, hS, affB_set A (by have := HA.out; omega) k (by omega), ← hS, ← hx, ← hy] at ST
          have ST2 : Hid ((wr.setCell ⟨g, S, none⟩ (.bool (x || y))).ownsRow w1.heap.size 4 1 (.slice (some ⟨g, 0, none⟩) 12 12) 12 (boolCs (affB A (k + 1)))) := Lib.hid (by rw [hS]; rw [hS] at ST; exact ST)
          have B2 := Lib.hid (HB.out.setCell (p := ⟨g, S, none⟩) (by have := HG.out; simp only; omega) (.bool (x || y)))
          have HLT := Lib.hid hlt
          have HSK := Lib.hid hS
          clear hx hy hS x0 x1 x1' r2 cS cK ST HI HB hlt
          have GNE := Lib.hid (show gx ≠ g by have := LG.out; have := HG.out; have := B1.out.size; omega)
          cases x
          · simp only [Bool.false_or] at ST2 B2
            obtain ⟨y0, y1, y2, y3, y4⟩ := affR_cells AR.out
            go_upto_region 9 with fail
            go_region_with (fail)
            all_goals
              go_wp2_with fail
              go_roundw
              case rel => exact ⟨k + 1, HLT.out, by go_num, Lib.hid ST2.out, Lib.hid B2.out.drew⟩
              case measure => simp [intOf]; omega
          · simp only [Bool.true_or] at ST2 B2
            go_upto_region 9 with fail
-- AFFTRUE
            refine wp_region_held_drew (S := (fun w' => w'.cell? ⟨gx, k * 4, none⟩ = some (.int .i64 (k : Int)) ∧ w'.cell? ⟨gx, k * 4 + 1, none⟩ = some (.int .i64 (S : Int)) ∧ w'.cell? ⟨g, S, none⟩ = some (.bool true) ∧ w'.cell? ⟨g, k, none⟩ = some (.bool y) ∧ w'.frozen? ⟨g, S, none⟩ = false)) (by kernel_rfl) ?_ (fun hHeld => ?_)
            · exact affR_cells AR.out
            refine takeD (i := 0) (d := (some 36)) (v := (.slice (some ⟨g, 0, none⟩) 12 12)) rfl rfl (by kernel_rfl) (by kernel_rfl) (by kernel_rfl) (fun _ _ _ h => h) (Or.inl ⟨by kernel_rfl, ?_⟩) (by assumption) ?_
            · intro wS hSw
              (try dsimp only at hSw)
              go_simp
            (try simp only [Act.put]); (try simp only [List.setIfInBounds_toArray]); (try simp only [List.set_cons_succ]); (try simp only [List.set_cons_zero])
            refine takeD (i := 1) (d := (some 37)) (v := (.slice (some ⟨gx, 0, none⟩) n c)) rfl rfl (by kernel_rfl) (by kernel_rfl) (by kernel_rfl) (fun _ _ _ h => h) (Or.inl ⟨by kernel_rfl, ?_⟩) (by assumption) ?_
            · intro wS hSw
              (try dsimp only at hSw)
              go_simp
            (try simp only [Act.put]); (try simp only [List.setIfInBounds_toArray]); (try simp only [List.set_cons_succ]); (try simp only [List.set_cons_zero])
            refine takeD (i := 2) (d := (some 38)) (v := (.int .i64 (k : Int))) rfl rfl (by kernel_rfl) (by kernel_rfl) (by kernel_rfl) (fun _ _ _ h => h) (Or.inl ⟨by kernel_rfl, ?_⟩) (by assumption) ?_
            · intro wS hSw
              (try dsimp only at hSw)
              go_simp
            (try simp only [Act.put]); (try simp only [List.setIfInBounds_toArray]); (try simp only [List.set_cons_succ]); (try simp only [List.set_cons_zero])
            refine takeD (i := 3) (d := (some 39)) (v := (.pointer (some ⟨gx, k * 4, none⟩))) rfl rfl (by kernel_rfl) (by kernel_rfl) (by kernel_rfl) (fun _ _ _ h => h) (Or.inl ⟨by kernel_rfl, ?_⟩) (by assumption) ?_
            · intro wS hSw
              (try dsimp only at hSw)
              go_simp
            (try simp only [Act.put]); (try simp only [List.setIfInBounds_toArray]); (try simp only [List.set_cons_succ]); (try simp only [List.set_cons_zero])
            refine takeD (i := 4) (d := (some 40)) (v := (.pointer (some ⟨gx, k * 4 + 1, none⟩))) rfl rfl (by kernel_rfl) (by kernel_rfl) (by kernel_rfl) (fun _ _ _ h => h) (Or.inl ⟨by kernel_rfl, ?_⟩) (by assumption) ?_
            · intro wS hSw
              (try dsimp only at hSw)
              go_simp
            (try simp only [Act.put]); (try simp only [List.setIfInBounds_toArray]); (try simp only [List.set_cons_succ]); (try simp only [List.set_cons_zero])
            refine takeD (i := 5) (d := (some 41)) (v := (.int .i64 (S : Int))) rfl rfl (by kernel_rfl) (by kernel_rfl) (by kernel_rfl) (fun _ _ _ h => h) (Or.inl ⟨by kernel_rfl, ?_⟩) (by assumption) ?_
            · intro wS hSw
              (try dsimp only at hSw)
              go_simp
            (try simp only [Act.put]); (try simp only [List.setIfInBounds_toArray]); (try simp only [List.set_cons_succ]); (try simp only [List.set_cons_zero])
            refine takeD (i := 6) (d := (some 42)) (v := (.slice (some ⟨g, 0, none⟩) 12 12)) rfl rfl (by kernel_rfl) (by kernel_rfl) (by kernel_rfl) (fun _ _ _ h => h) (Or.inl ⟨by kernel_rfl, ?_⟩) (by assumption) ?_
            · intro wS hSw
              (try dsimp only at hSw)
              go_simp
            (try simp only [Act.put]); (try simp only [List.setIfInBounds_toArray]); (try simp only [List.set_cons_succ]); (try simp only [List.set_cons_zero])
            refine takeD (i := 7) (d := (some 43)) (v := (.slice (some ⟨gx, 0, none⟩) n c)) rfl rfl (by kernel_rfl) (by kernel_rfl) (by kernel_rfl) (fun _ _ _ h => h) (Or.inl ⟨by kernel_rfl, ?_⟩) (by assumption) ?_
            · intro wS hSw
              (try dsimp only at hSw)
              go_simp
            (try simp only [Act.put]); (try simp only [List.setIfInBounds_toArray]); (try simp only [List.set_cons_succ]); (try simp only [List.set_cons_zero])
            refine takeD (i := 8) (d := (some 44)) (v := (.int .i64 (k : Int))) rfl rfl (by kernel_rfl) (by kernel_rfl) (by kernel_rfl) (fun _ _ _ h => h) (Or.inl ⟨by kernel_rfl, ?_⟩) (by assumption) ?_
            · intro wS hSw
              (try dsimp only at hSw)
              go_simp
            (try simp only [Act.put]); (try simp only [List.setIfInBounds_toArray]); (try simp only [List.set_cons_succ]); (try simp only [List.set_cons_zero])
            refine takeD (i := 9) (d := (some 45)) (v := (.pointer (some ⟨gx, k * 4, none⟩))) rfl rfl (by kernel_rfl) (by kernel_rfl) (by kernel_rfl) (fun _ _ _ h => h) (Or.inl ⟨by kernel_rfl, ?_⟩) (by assumption) ?_
            · intro wS hSw
              (try dsimp only at hSw)
              go_simp
            (try simp only [Act.put]); (try simp only [List.setIfInBounds_toArray]); (try simp only [List.set_cons_succ]); (try simp only [List.set_cons_zero])
            refine takeD (i := 10) (d := (some 46)) (v := (.pointer (some ⟨gx, k * 4 + 1, none⟩))) rfl rfl (by kernel_rfl) (by kernel_rfl) (by kernel_rfl) (fun _ _ _ h => h) (Or.inl ⟨by kernel_rfl, ?_⟩) (by assumption) ?_
            · intro wS hSw
              (try dsimp only at hSw)
              go_simp
            (try simp only [Act.put]); (try simp only [List.setIfInBounds_toArray]); (try simp only [List.set_cons_succ]); (try simp only [List.set_cons_zero])
            refine takeD (i := 11) (d := (some 47)) (v := (.int .i64 (S : Int))) rfl rfl (by kernel_rfl) (by kernel_rfl) (by kernel_rfl) (fun _ _ _ h => h) (Or.inl ⟨by kernel_rfl, ?_⟩) (by assumption) ?_
            · intro wS hSw
              (try dsimp only at hSw)
              go_simp
            (try simp only [Act.put]); (try simp only [List.setIfInBounds_toArray]); (try simp only [List.set_cons_succ]); (try simp only [List.set_cons_zero])
            refine takeD (i := 12) (d := (some 48)) (v := (.pointer (some ⟨g, S, none⟩))) rfl rfl (by kernel_rfl) (by kernel_rfl) (by kernel_rfl) (fun _ _ _ h => h) (Or.inl ⟨by kernel_rfl, ?_⟩) (by assumption) ?_
            · intro wS hSw
              (try dsimp only at hSw)
              go_simp
            (try simp only [Act.put]); (try simp only [List.setIfInBounds_toArray]); (try simp only [List.set_cons_succ]); (try simp only [List.set_cons_zero])
            refine takeD (i := 13) (d := (some 49)) (v := (.bool true)) rfl rfl (by kernel_rfl) (by kernel_rfl) (by kernel_rfl) (fun _ _ _ h => h) (Or.inl ⟨by kernel_rfl, ?_⟩) (by assumption) ?_
            · intro wS hSw
              (try dsimp only at hSw)
              go_simp
            (try simp only [Act.put]); (try simp only [List.setIfInBounds_toArray]); (try simp only [List.set_cons_succ]); (try simp only [List.set_cons_zero])
            refine takeD (i := 14) (d := (some 50)) (v := (.bool true)) rfl rfl (by kernel_rfl) (by kernel_rfl) (by kernel_rfl) (fun _ _ _ h => h) (Or.inl ⟨by kernel_rfl, ?_⟩) (by assumption) ?_
            · intro wS hSw
              (try dsimp only at hSw)
              go_simp
            (try simp only [Act.put]); (try simp only [List.setIfInBounds_toArray]); (try simp only [List.set_cons_succ]); (try simp only [List.set_cons_zero])
            refine takeD (i := 15) (d := (some 51)) (v := undef) rfl rfl (by kernel_rfl) (by kernel_rfl) (by kernel_rfl) (fun _ _ _ h => h) (Or.inr ⟨by kernel_rfl, rfl⟩) (by assumption) ?_
            (try simp only [Act.put]); (try simp only [List.setIfInBounds_toArray]); (try simp only [List.set_cons_succ]); (try simp only [List.set_cons_zero])
            refine takeD (i := 16) (d := (some 52)) (v := undef) rfl rfl (by kernel_rfl) (by kernel_rfl) (by kernel_rfl) (fun _ _ _ h => h) (Or.inr ⟨by kernel_rfl, rfl⟩) (by assumption) ?_
            (try simp only [Act.put]); (try simp only [List.setIfInBounds_toArray]); (try simp only [List.set_cons_succ]); (try simp only [List.set_cons_zero])
            refine takeD (i := 17) (d := (some 53)) (v := undef) rfl rfl (by kernel_rfl) (by kernel_rfl) (by kernel_rfl) (fun _ _ _ h => h) (Or.inr ⟨by kernel_rfl, rfl⟩) (by assumption) ?_
            (try simp only [Act.put]); (try simp only [List.setIfInBounds_toArray]); (try simp only [List.set_cons_succ]); (try simp only [List.set_cons_zero])
            refine takeD (i := 18) (d := (some 54)) (v := undef) rfl rfl (by kernel_rfl) (by kernel_rfl) (by kernel_rfl) (fun _ _ _ h => h) (Or.inr ⟨by kernel_rfl, rfl⟩) (by assumption) ?_
            (try simp only [Act.put]); (try simp only [List.setIfInBounds_toArray]); (try simp only [List.set_cons_succ]); (try simp only [List.set_cons_zero])
            refine takeD (i := 19) (d := (some 55)) (v := undef) rfl rfl (by kernel_rfl) (by kernel_rfl) (by kernel_rfl) (fun _ _ _ h => h) (Or.inr ⟨by kernel_rfl, rfl⟩) (by assumption) ?_
            (try simp only [Act.put]); (try simp only [List.setIfInBounds_toArray]); (try simp only [List.set_cons_succ]); (try simp only [List.set_cons_zero])
            refine takeD (i := 20) (d := (some 56)) (v := undef) rfl rfl (by kernel_rfl) (by kernel_rfl) (by kernel_rfl) (fun _ _ _ h => h) (Or.inr ⟨by kernel_rfl, rfl⟩) (by assumption) ?_
            (try simp only [Act.put]); (try simp only [List.setIfInBounds_toArray]); (try simp only [List.set_cons_succ]); (try simp only [List.set_cons_zero])
            refine takeD (i := 21) (d := (some 57)) (v := undef) rfl rfl (by kernel_rfl) (by kernel_rfl) (by kernel_rfl) (fun _ _ _ h => h) (Or.inr ⟨by kernel_rfl, rfl⟩) (by assumption) ?_
            (try simp only [Act.put]); (try simp only [List.setIfInBounds_toArray]); (try simp only [List.set_cons_succ]); (try simp only [List.set_cons_zero])
            refine takeD (i := 22) (d := (some 58)) (v := undef) rfl rfl (by kernel_rfl) (by kernel_rfl) (by kernel_rfl) (fun _ _ _ h => h) (Or.inr ⟨by kernel_rfl, rfl⟩) (by assumption) ?_
            (try simp only [Act.put]); (try simp only [List.setIfInBounds_toArray]); (try simp only [List.set_cons_succ]); (try simp only [List.set_cons_zero])
            refine takeD (i := 23) (d := (some 59)) (v := (.bool true)) rfl rfl (by kernel_rfl) (by kernel_rfl) (by kernel_rfl) (fun _ _ _ h => h) (Or.inl ⟨by kernel_rfl, ?_⟩) (by assumption) ?_
            · intro wS hSw
              (try dsimp only at hSw)
              go_simp
            (try simp only [Act.put]); (try simp only [List.setIfInBounds_toArray]); (try simp only [List.set_cons_succ]); (try simp only [List.set_cons_zero])
            refine takeD (i := 24) (d := (some 60)) (v := (.pointer (some ⟨g, S, none⟩))) rfl rfl (by kernel_rfl) (by kernel_rfl) (by kernel_rfl) (fun _ _ _ h => h) (Or.inl ⟨by kernel_rfl, ?_⟩) (by assumption) ?_
            · intro wS hSw
              (try dsimp only at hSw)
              go_simp
            (try simp only [Act.put]); (try simp only [List.setIfInBounds_toArray]); (try simp only [List.set_cons_succ]); (try simp only [List.set_cons_zero])
            refine wpAnyH_ready (rs := [25]) (by kernel_rfl) (by simp) ?_
            refine AllReadyH.cons rfl (fun K hK => ?_) AllReadyH.nil
            go_simp
            refine hK.out _ _ ?_ (fun hHeld => ?_)
            · exact affR_cells (affR_set GNE.out HSK.out AR.out)
            clear hK K
            (try simp only [Act.put]); (try simp only [List.setIfInBounds_toArray]); (try simp only [List.set_cons_succ]); (try simp only [List.set_cons_zero])
            refine wpAnyH_done (by kernel_rfl) ?_ _
-- AFFEND
            go_wp2_with fail
            go_roundw
            case rel => exact ⟨k + 1, HLT.out, by go_num, Lib.hid ST2.out, Lib.hid B2.out.drew⟩
            case measure => simp [intOf]; omega
        · obtain rfl : k = n := by omega
          have hmax : max k (A + 1) = k := by have := HA.out; omega
          have HM := Lib.hid hmax
          have KI : Hid (wr.ownsRow w1.heap.size 4 1 (.slice (some ⟨g, 0, none⟩) 12 12) 12 (boolCs (affB A k))) := HI
          have O3 : Hid (wr.ownsRow w.heap.size 3 1 v0 (affTo k A 0).length (intCs (affTo k A 0))) := Lib.hid (by
            have e : affTo k A 0 = [] := List.eq_nil_of_length_eq_zero (Nat.le_zero.1 (affTo_len k A 0))
            rw [e]; exact own_below O1.out HB.out)
          have B3 := Lib.hid (B1.out.trans (HB.out.mono B1.out.size))
          have G3 : Hid (∀ j, v0.ownBlock = some j → j ≠ g) := Lib.hid (fun j hj => by have := V0.out j hj; have := HG.out; omega)
          have GL := Lib.hid (show g < wr.heap.size from (HI.out.lt g rfl).2)
          clear hk hlt hmax HI HB O1 V0
          go_wp2_with fail
          go_loopw [5, 8] (fun v i wx => ∃ i' : Nat, i' ≤ 12 ∧ i = .int .i64 (i' : Int) ∧ Hid (wx.ownsRow w.heap.size 3 1 v (affTo k A i').length (intCs (affTo k A i'))) ∧ Hid (wx.ownsRow w1.heap.size 4 1 (.slice (some ⟨g, 0, none⟩) 12 12) 12 (boolCs (affB A k))) ∧ Hid (Below w.heap.size w wx) ∧ Hid (∀ j, v.ownBlock = some j → j ≠ g) ∧ Hid (g < wx.heap.size)) (fun _ i _ => 12 - (intOf i).toNat)
          case atStart => exact ⟨0, by omega, by go_num, O3, KI, B3, G3, GL⟩
          case round =>
            clear O3 KI B3 G3 GL
            obtain ⟨i, hi, rfl, O4, K4, B4, G4, L4⟩ := hrel
            by_cases hlt : i < 12
            · have q3 : (i : Int) < 12 := by omega
              have i0' : 0 ≤ (i : Int) := by omega
              have cI := boolCs_at K4.out (affB_at A k (j := i) (by omega)) (affB_len A k).symm
              rw [HM.out] at cI
              have HLT := Lib.hid hlt
              by_cases hc : A < i ∧ i ≤ k
              · rw [decide_eq_true hc] at cI
                have LE := affTo_len k A i
                obtain ⟨m, hm⟩ : ∃ m, m = (affTo k A i).length := ⟨_, rfl⟩
                have OM : Hid (wr.ownsRow w.heap.size 3 1 u5 m (intCs (affTo k A i))) := Lib.hid (by rw [hm]; exact O4.out)
                have HMM := Lib.hid hm
                rw [← hm] at LE
                have HCC := Lib.hid hc
                have hbs := B4.out.size
                clear hc hm hlt O4
                go_wp2_with (at_builtin; refine wpList_append_lies _ rfl (.tmp 69) (.tmp 71) 33 rfl w.heap.size 3 j0 (.int .i64 0) 1 8 Try.underlying33 jif jz0 jz1 jz2 rfl (by decide) _ m _ rfl (OM.out.alloc _) ⟨wr.heap.size, 0, none⟩ 1 1 [.int .i64 (i : Int)] rfl rfl (World.news_of_block (heap_alloc_new wr _)) (by simp [Value.oneCell']) (by decide) (by unfold maxLen; omega) (by omega) (by simp; omega) _ rfl ?_; intro g1 cap1 w5 hown' hgrow hat hgt)
                have R5 := Lib.hid ((B4.out.alloc hbs _).grown hgrow (by simp; omega) (fun j hj => (OM.out.lt j hj).1))
                have O5 := Lib.hid (aff_app HCC.out HMM.out hown')
                have K5 := Lib.hid (own_gen (K4.out.alloc _) hgrow (fun j hj e => by
                  have e1 : j = g := by simpa [Value.ownBlock] using hj.symm
                  exact G4.out j e e1))
                have G5 : Hid (∀ j, (Value.slice (some ⟨g1, 0, none⟩) (m + 1) cap1).ownBlock = some j → j ≠ g) := Lib.hid (fun j hj => by
                  have e1 : j = g1 := by simpa [Value.ownBlock] using hj.symm
                  rcases hat with q | q
                  · rw [e1]; exact G4.out g1 q
                  · have := L4.out; simp at q; omega)
                have L5 : Hid (g < w5.heap.size) := Lib.hid (Nat.lt_of_lt_of_le (Nat.lt_of_lt_of_le L4.out (by simp)) hgrow.size)
                clear hown' hgrow hat hgt OM K4 G4 L4 hbs
                go_wp2_with fail
                go_roundw
                case rel => exact ⟨i + 1, HLT.out, by go_num, O5, K5, R5, G5, L5⟩
                case measure => simp [intOf]; omega
              · rw [decide_eq_false hc] at cI
                have O5 : Hid (wr.ownsRow w.heap.size 3 1 u5 (affTo k A (i + 1)).length (intCs (affTo k A (i + 1)))) := Lib.hid (by rw [affTo_no hc]; exact O4.out)
                clear hc hlt
                go_wp2_with fail
                go_roundw
                case rel => exact ⟨i + 1, HLT.out, by go_num, O5, K4, B4, G4, L4⟩
                case measure => simp [intOf]; omega
            · obtain rfl : i = 12 := by omega
              go_wp2_with fail
              go_ret
              exact ⟨_, rfl, by rw [HV.out]; exact O4.out, B4.out⟩
    · have H1 := Lib.hid (decide_eq_false h1)
      have HV := Lib.hid (affL_no (xs := xs) (a := a) (fun q => h1 ⟨q.2.1, by have := q.2.2; omega⟩))
      clear h1 hp hn h
      go_enter Try.func28, Try.ntmps28
      go_wp2_with fail
      refine (PK.out _ BL.out).mono ?_
      rintro e1 w1 ⟨rfl, b1⟩
      go_wp2_with fail
      refine (in_at H1.out _).mono ?_
      rintro e1 w3 ⟨rfl, rfl⟩
      go_wp2_with fail
      go_ret
      exact ⟨_, rfl, by rw [HV.out]; exact own_below OL.out b1, BL.out.trans (b1.mono BL.out.size)⟩
  · rw [show planB xs = false from decide_eq_false hp] at PK
    have HV := Lib.hid (affL_no (xs := xs) (a := a) (fun q => hp q.1))
    clear hp h
    go_enter Try.func28, Try.ntmps28
    go_wp2_with fail
    refine (PK.out _ BL.out).mono ?_
    rintro e1 w1 ⟨rfl, b1⟩
    go_wp2_with fail
    go_ret
    exact ⟨_, rfl, by rw [HV.out]; exact own_below OL.out b1, BL.out.trans (b1.mono BL.out.size)⟩
end Go.Proofs.Ytbklnlmijkclmaa
