/- Contracts of spec.l15Heard and spec.DrawHeard: a part of a family and thirds of one of its circles, perhaps one of them off by one. -/
import Derived.Test.YtohfepcdgbgojabCurWalks
import Derived.Test.YtohfepcdgbgojabHeardMath
import Derived.Test.YtohfepcdgbgojabSThirds
import Derived.Test.YtohfepcdgbgojabSFamily
import Derived.Deep.RegionWith
namespace Go.Proofs.Ytohfepcdgbgojab
open Go.RowKit Go.Joins
set_option linter.unusedVariables false
theorem curH_keep {T : TypeId} {W : World} {a : Option Addr} {len cap : Nat} {zs : List Int} {b : Nat} {w w' : World} (h : Cur T W a len cap zs b w) (hb : Below w.heap.size w w') : Cur T W a len cap zs b w' := by
  obtain ⟨i, x, hi, hc⟩ := h.cells
  exact ⟨h.row, h.below.trans (hb.mono h.below.size), h.ge, i, x, hi, (hb.block b h.lt).trans hc⟩
theorem grownH_keep {w w' : World} {r : Option Nat} (hb : Below w.heap.size w w') : w.grownBy w' r := ⟨hb.os, hb.tape, hb.output, hb.size, fun k hk _ => hb.block k hk⟩
theorem ownH_draw {w w' : World} {B : Nat} {e : TypeId} {v : Value} {n : Nat} {xs : List Value} {b : Nat} (h : w.ownsRow B e 1 v n xs) (hg : w.grownBy w' (some b)) (hb : b < B) : w'.ownsRow B e 1 v n xs :=
  own_grownC h hg (fun g e1 e2 => by have := (h.lt g e1).1; injection e2 with e2; omega)
theorem grownH_set {w w' : World} {b g k : Nat} {v : Value} (h : w.grownBy w' (some b)) (hg : w.heap.size ≤ g) : w.grownBy (w'.setCell ⟨g, k, none⟩ v) (some b) :=
  ⟨h.os, h.tape, h.output, by simpa using h.size, fun j hj hne => (Below.heap_setCell _ _ _ j (by show j ≠ g; omega)).trans (h.block j hj hne)⟩
theorem curH_set {T : TypeId} {W : World} {a : Option Addr} {len cap : Nat} {zs : List Int} {b : Nat} {w : World} {g k : Nat} {v : Value} (h : Cur T W a len cap zs b w) (hg : W.heap.size ≤ g) (hbg : b ≠ g) : Cur T W a len cap zs b (w.setCell ⟨g, k, none⟩ v) := by
  obtain ⟨i, x, hi, hc⟩ := h.cells
  exact ⟨h.row, h.below.setCell (p := ⟨g, k, none⟩) hg v, h.ge, i, x, hi, (Below.heap_setCell _ _ _ b hbg).trans hc⟩
theorem small_set {ts : List Int} (h : SmallI ts) {k : Nat} {z : Int} (hz : -200 ≤ z ∧ z ≤ 200) : SmallI (ts.set k z) := fun i => by
  rw [List.getD_eq_getElem?_getD, List.getElem?_set]
  split
  · split
    · exact hz
    · simp
  · have := h i
    rw [List.getD_eq_getElem?_getD] at this
    exact this
theorem intCs_setH (ts : List Int) (k : Nat) (z : Int) : (intCs ts).set k (.int .i64 z) = intCs (ts.set k z) := by unfold intCs; rw [List.map_set]
/-- What is drawn. -/
def PartIn (p : Int) : Prop := p = 3 ∨ p = 4 ∨ p = 6 ∨ p = 12 ∨ p = 2
def DrawnHd (T : TypeId) (W : World) (a : Option Addr) (len cap : Nat) (zs : List Int) (b : Nat) (w : World) (e : Ending) (w' : World) : Prop :=
  ∃ (p : Int) (v : Value) (ts : List Int), PartIn p ∧ (ts.length = 12 ∧ SmallI ts) ∧ e = .returned (.tuple #[.int .i64 p, v]) ∧ w'.ownsRow w.heap.size 3 1 v 12 (intCs ts) ∧ Cur T W a len cap zs b w' ∧ w.grownBy w' (some b)
set_option maxRecDepth 100000 in
set_option maxHeartbeats 4000000 in
theorem heardD_any {W : World} {a : Option Addr} {len cap : Nat} {zs : List Int} {b : Nat} {w : World} (hc : Cur 100 W a len cap zs b w) :
    Calls Try.prog 70 #[.pointer (some ⟨b, 0, none⟩)] w (DrawnHd 100 W a len cap zs b w) := by
  have hlt := hc.lt
  have HC := Lib.hid hc
  have HNE := Lib.hid (show w.heap.size ≠ b from by omega)
  clear hc
  go_enter Try.func70, Try.ntmps70
  go_wp2_with fail
  refine (pickInt_any (HC.out.alloc _) w.heap.size 5 5 [3, 4, 6, 12, 2] 3 rfl (by omega) (by omega) HNE.out (heap_alloc_new w _)).mono ?_
  rintro e w1 ⟨p, hp, rfl, hc1, hg1⟩
  have hp2 : PartIn p := by simp only [List.mem_cons, List.not_mem_nil, or_false] at hp; exact hp
  have HP := Lib.hid hp2
  have C1 := Lib.hid hc1
  have G1 := Lib.hid (grown_alloc_first hg1)
  have FSP := Lib.hid (family_spec p w1)
  have LE := Lib.hid (fun i (hi : i < (famOf p).length) => fam_cirOk hi)
  have LN := famOf_len p
  have L0 := fam_pos hp2
  clear hp hp2 hc1 hg1 HNE
  generalize famOf p = L at FSP LE LN L0
  obtain ⟨n, hn⟩ : ∃ n, n = L.length := ⟨_, rfl⟩
  rw [← hn] at LN L0
  have HN := Lib.hid hn
  clear hn
  go_wp2_with fail
  refine FSP.out.mono ?_
  rintro e w2 ⟨g, c, us1, rfl, k2, b2⟩
  rw [← HN.out] at k2 ⊢
  have C2 := Lib.hid (curH_keep C1.out b2)
  have G2 := Lib.hid (grown_trans G1.out (grownH_keep b2))
  have K2 := Lib.hid k2
  have B12 := Lib.hid (show b < w1.heap.size from C1.out.lt)
  have SW1 := Lib.hid G1.out.size
  clear k2 b2 C1 G1 FSP
  go_wp2_with fail
  refine (below_any C2.out _).mono ?_
  rintro e w3 ⟨x3, hx3, rfl, hc3, hg3⟩
  have k3 : 0 ≤ x3 ∧ x3 < n := ⟨hx3.1, hx3.2.2 (by omega)⟩
  obtain ⟨k30, k31⟩ := k3
  obtain ⟨t, rfl⟩ := Int.eq_ofNat_of_zero_le k30
  have htn : t < n := by omega
  have C3 := Lib.hid hc3
  have G3 := Lib.hid (grown_trans G2.out hg3)
  have K3 := Lib.hid (K2.out.grown hg3 (fun g' e1 e2 => by have := (K2.out.row.lt g' e1).1; have := B12.out; injection e2 with e2; omega) (fun i hi g' e1 e2 => by have := ((K2.out.els i hi).lt g' e1).1; have := B12.out; injection e2 with e2; omega))
  have htL : t < L.length := by rw [← HN.out]; exact htn
  have c3 := cs_cell K3.out HN.out htn
  have o3 := K3.out.els t htL
  obtain ⟨u, hu⟩ : ∃ u, u = uAt us1 t := ⟨_, rfl⟩
  rw [← hu] at c3 o3
  have HCO := Lib.hid (LE.out t htL)
  have TH := Lib.hid (thirds_spec w3 _ _ u (lAt L t) (by have := HCO.out.1; omega) o3)
  obtain ⟨p1, k1, hs⟩ := own_slice o3
  generalize (lAt L t).length = lx at hs
  subst hs
  clear hx3 hc3 hg3 C2 G2 K2 o3 hu htL
  go_wp2_with fail
  refine TH.out.mono ?_
  rintro e w4 ⟨v4, rfl, o4, b4⟩
  rw [thirdsL_ok HCO.out, thTo_len] at o4
  have C4 := Lib.hid (curH_keep C3.out b4)
  have G4 := Lib.hid (grown_trans G3.out (grownH_keep b4))
  have S3 : w.heap.size ≤ w3.heap.size := G3.out.size
  have O4 := Lib.hid (own_base o4 S3)
  have SM := Lib.hid (show SmallI (thTo (lAt L t) 12) from fun i => by have := thTo_in HCO.out i; omega)
  have TL := Lib.hid (thTo_len (lAt L t) 12)
  have TI := Lib.hid (thTo_in HCO.out)
  generalize thTo (lAt L t) 12 = ts at O4 SM TL TI
  clear o4 b4 c3 C3 G3 K3 TH
  go_wp2_with fail
  refine (once_any C4.out _).mono ?_
  rintro e w5 ⟨y, rfl, hc5, hg5⟩
  have C5 := Lib.hid hc5
  have G5 := Lib.hid (grown_trans G4.out hg5)
  have O5 := Lib.hid (ownH_draw O4.out hg5 hlt)
  clear hc5 hg5 C4 G4 O4
  cases y
  · go_wp2_with fail
    go_ret2
    exact ⟨p, v4, ts, HP.out, ⟨TL.out, SM.out⟩, rfl, O5.out, C5.out, G5.out⟩
  · go_wp2_with fail
    refine (below_any C5.out _).mono ?_
    rintro e w6 ⟨x6, hx6, rfl, hc6, hg6⟩
    have k6 : 0 ≤ x6 ∧ x6 < 12 := ⟨hx6.1, hx6.2.2 (by omega)⟩
    obtain ⟨k60, k61⟩ := k6
    obtain ⟨k, rfl⟩ := Int.eq_ofNat_of_zero_le k60
    have hk : k < 12 := by omega
    have C6 := Lib.hid hc6
    have G6 := Lib.hid (grown_trans G5.out hg6)
    have o6 := ownH_draw O5.out hg6 hlt
    obtain ⟨g4, c4, rfl, hb4, hl4⟩ := own_pos o6 (by omega)
    have O6 := Lib.hid o6
    have q1 := own_icell o6 k hk
    have q2 := o6.frozenAt k
    obtain ⟨x, hx⟩ : ∃ x, x = ts.getD k 0 := ⟨_, rfl⟩
    rw [← hx] at q1
    have bx := TI.out k
    rw [← hx] at bx
    have hbg : b ≠ g4 := by omega
    clear hx6 hc6 hg6 C5 G5 O5 o6 hx
    go_upto_region 6 with fail
    go_region_with (go_at_call 83; refine (below_any (C6.out.drewN 1) _).mono ?_; rintro e w7 ⟨x7, hx7, rfl, hc7, hg7⟩; have d1 : w7.cell? ⟨g4, k, none⟩ = some (.int .i64 x) := (World.cell?_of_block (hg7.block g4 (by simpa using hl4) (by simp; omega))).trans q1; have d2 : w7.frozen? ⟨g4, k, none⟩ = false := (World.frozen?_of_block (hg7.block g4 (by simpa using hl4) (by simp; omega))).trans q2)
    all_goals
      have k7 : 0 ≤ x7 ∧ x7 < 3 := ⟨hx7.1, hx7.2.2 (by omega)⟩
      have E : IntKind.i64.wrap (IntKind.i64.wrap (x + x7) - 1) = x + x7 - 1 := by rw [IntWalk.i64_in (x + x7) (by omega)]; exact IntWalk.i64_in _ (by omega)
      rw [E]
      have hz : -200 ≤ x + x7 - 1 ∧ x + x7 - 1 ≤ 200 := by omega
      generalize x + x7 - 1 = z at hz
      have o7 := ((ownH_draw (w := w6.drewN 1) O6.out hg7 hlt).stored k (.int .i64 z)).1
      rw [intCs_setH] at o7
      have O7 := Lib.hid o7
      have C7 := Lib.hid (curH_set (k := k) (v := .int .i64 z) hc7 (Nat.le_trans HC.out.below.size hb4) hbg)
      have G7 := Lib.hid (grownH_set (k := k) (v := .int .i64 z) (grown_trans (grown_drewN G6.out 1) hg7) hb4)
      have SZ := Lib.hid (small_set (k := k) SM.out hz)
      have TZ := Lib.hid (show (ts.set k z).length = 12 from by rw [List.length_set]; exact TL.out)
      clear o7 hc7 hg7 hx7 k7 d1 d2 q1 q2 E
      go_wp2_with fail
      go_ret2
      exact ⟨p, _, ts.set k z, HP.out, ⟨TZ.out, SZ.out⟩, rfl, O7.out, C7.out, G7.out⟩
/-- What DrawHeard leaves. -/
def DrawnH (W : World) (e : Ending) (w' : World) : Prop :=
  ∃ (p : Int) (v : Value) (ts : List Int), PartIn p ∧ (ts.length = 12 ∧ SmallI ts) ∧ e = .returned (.tuple #[.int .i64 p, v]) ∧ w'.ownsRow W.heap.size 3 1 v 12 (intCs ts) ∧ Below W.heap.size W w'
set_option maxHeartbeats 1000000 in
theorem drawHeard_any {W : World} {a : Option Addr} {len cap : Nat} {zs : List Int} (hr : IsRow .u8 W a len cap zs) :
    Calls Try.prog 36 #[.slice a len cap] W (DrawnH W) := by
  have HR := Lib.hid hr
  clear hr
  go_enter Try.func36, Try.ntmps36
  go_wp2_with fail
  refine (new_any HR.out).mono ?_
  rintro e w1 ⟨b, rfl, hc1⟩
  have HC1 := Lib.hid hc1
  clear hc1
  go_wp2_with fail
  refine (heardD_any HC1.out).mono ?_
  rintro e w2 ⟨p, v, ts, hp, ht, rfl, o2, hc2, hg2⟩
  have HP := Lib.hid hp
  have HT := Lib.hid ht
  have O2 := Lib.hid (own_base o2 HC1.out.below.size)
  have B2 := Lib.hid hc2.below
  clear o2 hp ht hc2 hg2
  go_wp2_with fail
  go_ret2
  exact ⟨p, v, ts, HP.out, HT.out, rfl, O2.out, B2.out⟩
end Go.Proofs.Ytohfepcdgbgojab
