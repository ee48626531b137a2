/- Contracts of spec.l14Wishes and spec.DrawWishes: at most four wishes for keys of the circle. -/
import Derived.Test.YtohfepcdgbgojabCurWalks
import Derived.Test.YtohfepcdgbgojabWishRows
import Derived.Deep.AppendLies
namespace Go.Proofs.Ytohfepcdgbgojab
open Go.RowKit Go.Joins
set_option linter.unusedVariables false
theorem curW_keep {T : TypeId} {W : World} {a : Option Addr} {len cap : Nat} {zs : List Int} {b : Nat} {w w' : World} (h : Cur T W a len cap zs b w) (hb : Below w.heap.size w w') : Cur T W a len cap zs b w' := by
  obtain ⟨i, x, hi, hc⟩ := h.cells
  exact ⟨h.row, h.below.trans (hb.mono h.below.size), h.ge, i, x, hi, (hb.block b h.lt).trans hc⟩
theorem grownW_keep {w w' : World} {r : Option Nat} (hb : Below w.heap.size w w') : w.grownBy w' r := ⟨hb.os, hb.tape, hb.output, hb.size, fun k hk _ => hb.block k hk⟩
theorem ownW_draw {w w' : World} {B : Nat} {e : TypeId} {v : Value} {n : Nat} {xs : List Value} {b : Nat} (h : w.ownsRow B e 2 v n xs) (hg : w.grownBy w' (some b)) (hb : b < B) : w'.ownsRow B e 2 v n xs := by
  refine h.kept hg ?_
  rcases ownW_shape h with ⟨rfl, _⟩ | ⟨g, cap, rfl, hB, _⟩
  · exact .inl rfl
  · exact .inr (by simp [Value.ownBlock]; omega)
theorem ownW_mono {w : World} {B B' : Nat} {e : TypeId} {v : Value} {n : Nat} {xs : List Value} (h : w.ownsRow B e 2 v n xs) (hb : B' ≤ B) : w.ownsRow B' e 2 v n xs :=
  ⟨h.1, h.2.imp id fun ⟨g, cap, cur, h1, h2, h3⟩ => ⟨g, cap, cur, h1, Nat.le_trans hb h2, h3⟩⟩
/-- What is drawn. -/
def WisOk (ws : List Wi) : Prop := ∀ j, j < ws.length → (0 ≤ (wiAt ws j).key ∧ (wiAt ws j).key ≤ 11) ∧ 0 ≤ (wiAt ws j).least ∧ (wiAt ws j).least ≤ 8
theorem wiAt_left {ws vs : List Wi} {i : Nat} (h : i < ws.length) : wiAt (ws ++ vs) i = wiAt ws i := by
  unfold wiAt; rw [List.getD_eq_getElem?_getD, List.getElem?_append_left h, ← List.getD_eq_getElem?_getD]
theorem wiAt_last (ws : List Wi) (x : Wi) : wiAt (ws ++ [x]) ws.length = x := by
  unfold wiAt; rw [List.getD_eq_getElem?_getD, List.getElem?_append_right (Nat.le_refl _)]; simp
theorem wisOk_snoc {ws : List Wi} {x : Wi} (h : WisOk ws) (h1 : (0 ≤ x.key ∧ x.key ≤ 11) ∧ 0 ≤ x.least ∧ x.least ≤ 8) : WisOk (ws ++ [x]) := fun j hj => by
  rw [List.length_append] at hj
  rcases Nat.lt_or_ge j ws.length with q | q
  · rw [wiAt_left q]; exact h j q
  · obtain rfl : j = ws.length := by simp at hj; omega
    rw [wiAt_last]; exact h1
theorem wiCs_snoc : ∀ (ws : List Wi) (x : Wi), wiCs (ws ++ [x]) = wiCs ws ++ [.int .i64 x.key, .int .i64 x.least]
  | [], x => rfl
  | y :: ws, x => by simp only [List.cons_append, wiCs, wiCs_snoc ws x]
/-- What l14Wishes leaves. -/
def DrawnWis (TI : TypeId) (T : TypeId) (W : World) (a : Option Addr) (len cap : Nat) (zs : List Int) (b : Nat) (w : World) (e : Ending) (w' : World) : Prop :=
  ∃ (v : Value) (ws : List Wi), ws.length ≤ 4 ∧ WisOk ws ∧ e = .returned v ∧ w'.ownsRow w.heap.size TI 2 v ws.length (wiCs ws) ∧ Cur T W a len cap zs b w' ∧ w.grownBy w' (some b)
set_option maxRecDepth 100000 in
set_option maxHeartbeats 4000000 in
theorem wishes_any {W : World} {a : Option Addr} {len cap : Nat} {zs : List Int} {b : Nat} {w : World} (hc : Cur 100 W a len cap zs b w) :
    Calls Try.prog 57 #[.pointer (some ⟨b, 0, none⟩)] w (DrawnWis 76 100 W a len cap zs b w) := by
  obtain ⟨i1, hic, hc0, hc1, hc2⟩ := info_partsW infoWi
  have hlt := hc.lt
  have HC := Lib.hid hc
  have O0 := Lib.hid (World.ownsRow_lit (base := w.heap.size) (e := 76) (size := 2) w #[] 0 (Nat.le_refl _) (by unfold maxLen; omega) rfl)
  have C0 := Lib.hid (curW_keep hc (below_alloc1 w (.cells #[] 76)))
  have G0 : Hid (w.grownBy (w.alloc (.cells #[] 76)) (some b)) := Lib.hid (grownW_keep (below_alloc1 w _))
  clear hc
  go_enter Try.func57, Try.ntmps57
  go_wp2_with fail
  refine (below_any C0.out _).mono ?_
  rintro e w1 ⟨x1, hx1, rfl, hc1', hg1⟩
  have k1 : 0 ≤ x1 ∧ x1 < 5 := ⟨hx1.1, hx1.2.2 (by omega)⟩
  obtain ⟨k10, k11⟩ := k1
  obtain ⟨n, rfl⟩ := Int.eq_ofNat_of_zero_le k10
  have C1 := Lib.hid hc1'
  have G1 := Lib.hid (grown_trans G0.out hg1)
  have O1 := Lib.hid (ownW_draw O0.out hg1 hlt)
  obtain ⟨v0, hv0⟩ : ∃ v, v = Value.slice (some ⟨w.heap.size, 0, none⟩) 0 0 := ⟨_, rfl⟩
  rw [← hv0] at O1 ⊢
  clear hx1 hc1' hg1 C0 G0 O0 hv0
  go_wp2_with fail
  go_loopw [3, 5] (fun s i wr => ∃ k : Nat, ∃ ws : List Wi, k ≤ n ∧ i = .int .i64 k ∧ Hid (ws.length = k) ∧ Hid (WisOk ws) ∧ Hid (wr.ownsRow w.heap.size 76 2 s k (wiCs ws)) ∧ Hid (Cur 100 W a len cap zs b wr) ∧ Hid (w.grownBy wr (some b))) (fun _ i _ => n - (intOf i).toNat)
  case atStart => exact ⟨0, [], Nat.zero_le _, rfl, Lib.hid rfl, Lib.hid (fun j hj => by simp at hj), O1, C1, G1⟩
  case round =>
    clear O1 C1 G1
    obtain ⟨k, ws, hk, rfl, HL, OK, O, C, G⟩ := hrel
    by_cases hlt2 : k < n
    · have q3 : (k : Int) < n := by omega
      have HLT := Lib.hid hlt2
      go_wp2_with fail
      refine (below_any C.out _).mono ?_
      rintro e w2 ⟨x2, hx2, rfl, hc2', hg2⟩
      have k2 : 0 ≤ x2 ∧ x2 < 12 := ⟨hx2.1, hx2.2.2 (by omega)⟩
      obtain ⟨k20, k21⟩ := k2
      have C2 := Lib.hid hc2'
      have G2 := Lib.hid (grown_trans G.out hg2)
      have O2 := Lib.hid (ownW_draw O.out hg2 hlt)
      have HNE := Lib.hid (show w2.heap.size ≠ b from by have := hc2'.lt; omega)
      clear hx2 hc2' hg2 O C G
      go_wp2_with fail
      refine (pickInt_any (C2.out.alloc _) w2.heap.size 4 4 [0, 4, 8, x2] 3 rfl (by omega) (by omega) HNE.out (heap_alloc_new w2 _)).mono ?_
      rintro e w3 ⟨x3, hx3, rfl, hc3, hg3⟩
      have k3 : 0 ≤ x3 ∧ x3 ≤ 11 := by simp only [List.mem_cons, List.not_mem_nil, or_false] at hx3; omega
      obtain ⟨k30, k31⟩ := k3
      have C3 := Lib.hid hc3
      have O3 := Lib.hid (ownW_draw (ownW_below O2.out (below_alloc1 w2 _)) hg3 hlt)
      have G3 := Lib.hid (grown_trans G2.out (grown_alloc_first hg3))
      clear hx3 hc3 hg3 C2 G2 HNE k20 k21 O2
      go_wp2_with fail
      refine (below_any C3.out _).mono ?_
      rintro e w4 ⟨x4, hx4, rfl, hc4, hg4⟩
      have k4 : 0 ≤ x4 ∧ x4 < 9 := ⟨hx4.1, hx4.2.2 (by omega)⟩
      obtain ⟨k40, k41⟩ := k4
      have C4 := Lib.hid hc4
      have O4 := Lib.hid (ownW_draw O3.out hg4 hlt)
      have G4 := Lib.hid (grown_trans G3.out hg4)
      clear hx4 hc4 hg4 C3 G3 O3
      go_wp2_with (at_builtin; refine wpList_append_lies _ rfl (.tmp 14) (.tmp 23) 32 rfl w.heap.size 76 i1 (wiV 0 0) 2 16 Try.underlying32 hic hc0 hc1 hc2 (by decide) (by decide) _ k _ rfl (ownW_below O4.out (below_alloc1 w4 _)) ⟨_, 0, none⟩ 1 1 _ rfl rfl (World.news_of_block (heap_alloc_new _ _)) (by simp [Value.oneCell']) (by decide) (by unfold maxLen; omega) (by omega) (by have := G4.out.size; simp; omega) _ rfl ?_; intro g1 cap1 w5 hown' hgrow hat hgt)
      have O5 : Hid (w5.ownsRow w.heap.size 76 2 (.slice (some ⟨g1, 0, none⟩) (k + 1) cap1) (k + 1) (wiCs (ws ++ [⟨x3, x4⟩]))) := Lib.hid (by rw [wiCs_snoc]; exact hown')
      have LB := fun j hj => (O4.out.lt j hj).1
      have C5 : Hid (Cur 100 W a len cap zs b w5) := Lib.hid (by
        have q := C4.out.alloc (.cells #[.int .i64 x3, .int .i64 x4] 76)
        obtain ⟨i, x, hi, hcell⟩ := q.cells
        exact ⟨q.row, q.below.grown hgrow q.below.size (fun j hj => Nat.le_trans (Nat.le_trans q.ge (Nat.le_of_lt hlt)) (LB j hj)), q.ge, i, x, hi, (hgrow.block b q.lt (fun e => by have := LB b e.symm; omega)).trans hcell⟩)
      have G5 : Hid (w.grownBy w5 (some b)) := Lib.hid ⟨hgrow.os.trans G4.out.os, hgrow.tape.trans G4.out.tape, hgrow.output.trans G4.out.output, Nat.le_trans G4.out.size (Nat.le_trans (by simp) hgrow.size), fun j hj hne => by
        have e1 := hgrow.block j (by have := G4.out.size; simp; omega) (fun e => by have := LB j e.symm; omega)
        rw [e1, ← G4.out.block j hj hne]
        exact (below_alloc1 w4 _).block j (by have := G4.out.size; omega)⟩
      have OK5 := Lib.hid (wisOk_snoc (x := ⟨x3, x4⟩) OK.out ⟨⟨k30, k31⟩, k40, by show x4 ≤ 8; omega⟩)
      clear hown' hgrow hat hgt O4 C4 G4 LB k30 k31 k40 k41
      go_wp2_with fail
      go_roundw
      case rel => exact ⟨k + 1, _, HLT.out, by go_num, Lib.hid (by rw [List.length_append, HL.out]; rfl), OK5, O5, C5, G5⟩
      case measure => simp [intOf]; omega
    · have q3 : ¬ (k : Int) < n := by omega
      go_wp2_with fail
      go_ret
      exact ⟨_, ws, by have := HL.out; omega, OK.out, rfl, by rw [HL.out]; exact O.out, C.out, G.out⟩
/-- What DrawWishes leaves. -/
def DrawnWs (TI : TypeId) (W : World) (e : Ending) (w' : World) : Prop :=
  ∃ (v : Value) (ws : List Wi), ws.length ≤ 4 ∧ WisOk ws ∧ e = .returned v ∧ w'.ownsRow W.heap.size TI 2 v ws.length (wiCs ws) ∧ Below W.heap.size W w'
set_option maxHeartbeats 1000000 in
theorem drawWishes_any {W : World} {a : Option Addr} {len cap : Nat} {zs : List Int} (hr : IsRow .u8 W a len cap zs) :
    Calls Try.prog 18 #[.slice a len cap] W (DrawnWs 76 W) := by
  have HR := Lib.hid hr
  clear hr
  go_enter Try.func18, Try.ntmps18
  go_wp2_with fail
  refine (new_any HR.out).mono ?_
  rintro e w1 ⟨b, rfl, hc1⟩
  have HC1 := Lib.hid hc1
  clear hc1
  go_wp2_with fail
  refine (wishes_any HC1.out).mono ?_
  rintro e w2 ⟨v, ws, l2, ok2, rfl, o2, hc2, hg2⟩
  have O2 := Lib.hid o2
  have OK2 := Lib.hid ok2
  have B2 := Lib.hid hc2.below
  have S1 := Lib.hid HC1.out.below.size
  clear o2 ok2 hc2 hg2
  go_wp2_with fail
  go_ret
  exact ⟨v, ws, l2, OK2.out, rfl, ownW_mono O2.out S1.out, B2.out⟩
end Go.Proofs.Ytohfepcdgbgojab
