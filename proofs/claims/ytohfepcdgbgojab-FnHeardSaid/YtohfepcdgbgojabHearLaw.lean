/- The walk of laws.FnHeard over the program's contracts. -/
import Derived.Test.YtohfepcdgbgojabDrawHeard
import Derived.Test.YtohfepcdgbgojabHeardLaw
import Derived.Test.YtohfepcdgbgojabDiffLaw
import Derived.Test.YtohfepcdgbgojabSameInts
import Derived.Test.YtohfepcdgbgojabAtWalks
namespace Go.Proofs.Ytohfepcdgbgojab
open Go.RowKit Go.Joins
set_option linter.unusedVariables false
theorem famOk_in {p : Int} (h : PartIn p) : p = 3 ∨ p = 4 ∨ p = 6 ∨ p = 12 ∨ p = 2 := h
/-- What the nearest circle says. -/
theorem hear_near {p : Int} {ts xs : List Int} {d : Int} {z : Bool} (hp : PartIn p) (ht : ts.length = 12) (hs : SmallI ts) (h : NearAt15 p ts xs d z) : z = true ∧ CirOk xs ∧ (d = 0 ↔ 0 < (heardOf p ts).length) := by
  have hin : ThirdsIn ts := ⟨ht, fun k _ => hs k⟩
  rcases h with ⟨_, _, _, hn⟩ | ⟨rfl, _, i, hi, rfl, rfl⟩
  · exact absurd ⟨fam_pos hp, hin⟩ hn
  · have hc := fam_cirOk hi.1
    have ed : ∀ j, j < (famOf p).length → (disF (famOf p) ts j = 0 ↔ thirdsL (lAt (famOf p) j) = ts) := fun j hj => by
      unfold disF
      rw [thirdsL_ok (fam_cirOk hj), thTo_len]
      exact list_ext12 (thTo_len _ _) ht
    refine ⟨rfl, hc, fun h0 => ?_, fun h0 => ?_⟩
    · unfold heardOf
      rw [if_pos ht]
      exact heardL_some ((ed i hi.1).1 h0) hi.1
    · obtain ⟨_, j, hj, e, et⟩ := heardOf_at h0
      rw [e] at et
      have h1 := (ed j hj).2 et
      have h2 := hi.2.2 j hj
      have h3 : 0 ≤ disF (famOf p) ts i := dTo_nonneg _ _ _
      omega
/-- What two circles that are heard say. -/
theorem hear_two {p : Int} {ts : List Int} {k : Nat} (h : k < (heardOf p ts).length) : CirOk (lAt (heardOf p ts) k) ∧ thTo (lAt (heardOf p ts) k) 12 = ts ∧ thirdsL (lAt (heardOf p ts) k) = ts := by
  obtain ⟨_, j, hj, e, et⟩ := heardOf_at h
  have hc := fam_cirOk hj
  rw [e] at et ⊢
  have := thirdsL_ok hc
  exact ⟨hc, by rw [← this]; exact et, et⟩
theorem hear_diff {p : Int} {ts : List Int} {k : Nat} (h : k < (heardOf p ts).length) : DiffAt (lAt (heardOf p ts) k) (lAt (heardOf p ts) 0) 0 := by
  obtain ⟨c1, e1, _⟩ := hear_two h
  obtain ⟨c0, e0, _⟩ := hear_two (k := 0) (p := p) (ts := ts) (by omega)
  refine .inl ⟨⟨c1, c0⟩, ?_⟩
  rw [e1, e0]
  exact ((dTo_zero (a := ts) (b := ts) (k := 12)).2 (fun _ _ => rfl)).symm
/-- The program's calls at two circles of a row, behind a world that is named. -/
def SmSay (v tv : Value) (W' W : World) : Prop := ∀ X, Below W'.heap.size W' X → Calls Try.prog 39 #[v, tv] X fun e w'' => e = .returned (.bool true) ∧ Below W.heap.size W w''
theorem sm_run {v tv : Value} {W' W : World} (h : SmSay v tv W' W) (X : World) (hX : Below W'.heap.size W' X) : Calls Try.prog 39 #[v, tv] X fun e w'' => e = .returned (.bool true) ∧ Below W.heap.size W w'' := h X hX
def HtSay (u tv : Value) (W : World) : Prop := ∀ X, Below W.heap.size W X → Calls Try.prog 40 #[cirV u] X fun e w' => ∃ v, e = .returned v ∧ SmSay v tv w' W ∧ Below W.heap.size W w'
theorem ht_run {u tv : Value} {W : World} (h : HtSay u tv W) (X : World) (hX : Below W.heap.size W X) : Calls Try.prog 40 #[cirV u] X fun e w' => ∃ v, e = .returned v ∧ SmSay v tv w' W ∧ Below W.heap.size W w' := h X hX
theorem ht_says (TI : ThirdsImpl) {W : World} {u tv : Value} {xs ts : List Int} {b b' : Nat} {e e' : TypeId} (hx : xs.length ≤ 2000000) (ht : thirdsL xs = ts) (h12 : ts.length = 12) (h : W.ownsRow b e 1 u xs.length (intCs xs)) (h' : W.ownsRow b' e' 1 tv 12 (intCs ts)) : HtSay u tv W := fun X hX => by
  refine (TI xs ts ht.symm X b e u hx (own_below h hX)).mono ?_
  rintro e1 w1 ⟨v, rfl, o1, b1⟩
  refine ⟨v, rfl, fun Y hY => ?_, hX.trans (b1.mono hX.size)⟩
  have hXY : Below W.heap.size W Y := hX.trans ((b1.trans (hY.mono b1.size)).mono hX.size)
  have k := sameInts_any Y _ _ _ _ v tv ts ts (by omega) (by omega) (own_below o1 hY) (by rw [h12]; exact own_below h' hXY)
  rw [decide_eq_true (rfl : ts = ts)] at k
  exact k.mono fun _ _ ⟨he, hb⟩ => ⟨he, hXY.trans (hb.mono hXY.size)⟩
def DzSay (u v : Value) (W : World) : Prop := ∀ X, Below W.heap.size W X → Calls Try.prog 41 #[cirV u, cirV v] X fun e w' => e = .returned (.int .i64 0) ∧ Below W.heap.size W w'
theorem dz_run {u v : Value} {W : World} (h : DzSay u v W) (X : World) (hX : Below W.heap.size W X) : Calls Try.prog 41 #[cirV u, cirV v] X fun e w' => e = .returned (.int .i64 0) ∧ Below W.heap.size W w' := h X hX
theorem dz_says (DI : DiffImpl) {W : World} {u v : Value} {xs ys : List Int} {b b' : Nat} {e e' : TypeId} (hx : xs.length ≤ 2000000) (hy : ys.length ≤ 2000000) (hd : DiffAt xs ys 0) (h : W.ownsRow b e 1 u xs.length (intCs xs)) (h' : W.ownsRow b' e' 1 v ys.length (intCs ys)) : DzSay u v W := fun X hX =>
  (DI xs ys 0 hd X b b' e e' u v hx hy (own_below h hX) (own_below h' hX)).mono fun _ _ ⟨he, hb⟩ => ⟨he, hX.trans (hb.mono hX.size)⟩
/-- Two circles of a row, and two of the numbers of each. -/
def SixA (g k q1 q0 i j : Nat) (u1 u0 : Value) (x1 x0 y1 y0 : Int) (w : World) : Prop := TwoA g k 0 u1 u0 w ∧ (q1 < w.heap.size ∧ q0 < w.heap.size) ∧ w.cell? ⟨q1, i, none⟩ = some (.int .i64 x1) ∧ w.cell? ⟨q0, i, none⟩ = some (.int .i64 x0) ∧ w.cell? ⟨q1, j, none⟩ = some (.int .i64 y1) ∧ w.cell? ⟨q0, j, none⟩ = some (.int .i64 y0)
theorem sixA_keep {g k q1 q0 i j : Nat} {u1 u0 : Value} {x1 x0 y1 y0 : Int} {w w' : World} (hb : Below w.heap.size w w') (h : SixA g k q1 q0 i j u1 u0 x1 x0 y1 y0 w) : SixA g k q1 q0 i j u1 u0 x1 x0 y1 y0 w' := by
  obtain ⟨h1, ⟨h2, h3⟩, h4, h5, h6, h7⟩ := h
  exact ⟨twoA_keep hb h1, ⟨Nat.lt_of_lt_of_le h2 hb.size, Nat.lt_of_lt_of_le h3 hb.size⟩, (hb.cell (p := ⟨q1, i, none⟩) h2).trans h4, (hb.cell (p := ⟨q0, i, none⟩) h3).trans h5, (hb.cell (p := ⟨q1, j, none⟩) h2).trans h6, (hb.cell (p := ⟨q0, j, none⟩) h3).trans h7⟩
theorem sixA_cells {g k q1 q0 i j : Nat} {u1 u0 : Value} {x1 x0 y1 y0 : Int} {w : World} (h : SixA g k q1 q0 i j u1 u0 x1 x0 y1 y0 w) : w.cell? ⟨g, k, none⟩ = some u1 ∧ w.cell? ⟨g, 0, none⟩ = some u0 ∧ w.cell? ⟨q1, i, none⟩ = some (.int .i64 x1) ∧ w.cell? ⟨q0, i, none⟩ = some (.int .i64 x0) ∧ w.cell? ⟨q1, j, none⟩ = some (.int .i64 y1) ∧ w.cell? ⟨q0, j, none⟩ = some (.int .i64 y0) :=
  ⟨h.1.1.2, h.1.2.2, h.2.2⟩
set_option maxRecDepth 100000 in
set_option maxHeartbeats 8000000 in
theorem walk_HearBy (HI : HeardImpl) (NI : NearImpl) (TI : ThirdsImpl) (DI : DiffImpl) (a0 : Option Addr) (len0 cap0 : Nat) (z0 : List Int) (w : World) (hr : IsRow .u8 w a0 len0 cap0 z0) :
    Calls Try.prog 8 #[.slice a0 len0 cap0] w fun e w' => e = .returned (.bool true) ∧ Below w.heap.size w w' := by
  have hlen := (row_len hr).2
  by_cases hbig : 1048576 < len0
  · have t0 : decide (1048576 < (len0 : Int)) = true := by simp; omega
    go_enter Try.func8, Try.ntmps8
    go_wp2_with fail
    refine (bigW_any _ _ _ _ hlen).mono ?_
    rintro e w' ⟨rfl, rfl⟩
    rw [t0]
    go_wp2_with fail
    go_ret
    exact ⟨rfl, Below.refl _ _⟩
  · have t0 : decide (1048576 < (len0 : Int)) = false := by simp; omega
    have HLEN := Lib.hid hlen
    have HR := Lib.hid hr
    clear hr hbig hlen
    go_enter Try.func8, Try.ntmps8
    go_wp2_with fail
    refine (bigW_any _ _ _ _ HLEN.out).mono ?_
    rintro e w' ⟨rfl, rfl⟩
    rw [t0]
    clear t0
    go_wp2_with fail
    refine (drawHeard_any HR.out).mono ?_
    rintro e w1 ⟨p, v1, ts, hp, ⟨ht, hs⟩, rfl, o1, b1⟩
    obtain ⟨xs, d, z, hf⟩ := near15_ex p ts
    obtain ⟨hz, hco, hd⟩ := hear_near hp ht hs hf
    subst hz
    have HT := Lib.hid ht
    have HCO := Lib.hid hco
    have O1 := Lib.hid o1
    have B1 := Lib.hid b1
    have CH := Lib.hid (fun w b' e' v' h => HI p w b' e' v' ts (by omega) (fun i => by have := hs i; omega) h)
    have CN := Lib.hid (fun w b' e' v' h => NI p ts xs d true hf w b' e' v' (by omega) h)
    have HT2 := Lib.hid (fun k (hk : k < (heardOf p ts).length) => hear_two hk)
    have HDF := Lib.hid (fun k (hk : k < (heardOf p ts).length) => hear_diff hk)
    have LN := heardOf_len p ts
    clear o1 b1 hp hf hs hco
    generalize heardOf p ts = L at CH HT2 HDF LN hd
    obtain ⟨n, hn⟩ : ∃ n, n = L.length := ⟨_, rfl⟩
    rw [← hn] at LN hd
    have HN := Lib.hid hn
    have HD := Lib.hid hd
    obtain ⟨pv, cv, rfl⟩ := own_slice O1.out
    clear hn hd
    go_wp2_with fail
    refine (CH.out w1 _ _ _ (by rw [HT.out]; exact O1.out)).mono ?_
    rintro e w2 ⟨v2, us2, rfl, k2, b2⟩
    have K2 := Lib.hid k2
    have B2 := Lib.hid (B1.out.trans (b2.mono B1.out.size))
    have O2 := Lib.hid (own_below O1.out b2)
    clear k2 b2 O1 B1 CH
    go_wp2_with fail
    refine (CN.out w2 _ _ _ (by rw [HT.out]; exact O2.out)).mono ?_
    rintro e w3 ⟨v3, rfl, o3, b3⟩
    have A3 := below_alloc1 w3 (.cells #[v3] 29)
    have X3 := Lib.hid (one_alloc (w := w3) (v := v3) (t := 29))
    have Q3 := Lib.hid (own_below o3 A3)
    have BB := b3.trans (A3.mono b3.size)
    have K3 := Lib.hid (K2.out.below BB)
    have B3 := Lib.hid (B2.out.trans (BB.mono B2.out.size))
    have O3 := Lib.hid (own_below O2.out BB)
    obtain ⟨p3, c3, hs3⟩ := own_slice o3
    generalize xs.length = lx at hs3
    subst hs3
    clear o3 b3 A3 BB K2 O2 B2 CN
    have rw3 := K3.out.row
    rw [← HN.out] at rw3
    go_upto_region 6 with fail
    obtain ⟨W3, hW⟩ : ∃ W, W = w3.alloc (.cells #[.slice p3 lx c3] 29) := ⟨_, rfl⟩
    obtain ⟨m3, hm⟩ : ∃ m, m = w3.heap.size := ⟨_, rfl⟩
    rw [← hW] at X3 Q3 K3 B3 O3 rw3 ⊢
    rw [← hm] at X3 ⊢
    clear hW hm
    obtain ⟨_, x3, _⟩ := X3.out
    have CK := Lib.hid (cirOk_impl W3 _ _ _ xs (by have := HCO.out.1; omega) Q3.out)
    rw [show cirB xs = true from decide_eq_true HCO.out] at CK
    by_cases hn0 : n = 0
    · obtain ⟨p2, c2, rfl⟩ := own_zero rw3 hn0
      have td : (d == 0) = false := by
        have : ¬ d = 0 := fun h => by have := HD.out.1 h; omega
        simp [this]
      clear rw3 hn0
      go_wp2_with fail
      refine CK.out.mono ?_
      rintro e w4 ⟨rfl, b4⟩
      have B4 := Lib.hid (B3.out.trans (b4.mono B3.out.size))
      clear b4 B3 x3
      go_wp2_with fail
      refine wp_loop_rounds 1 ?_
      rw [rounds_succ]
      go_wp2_with fail
      go_ret
      exact ⟨rfl, B4.out⟩
    · have hd0 : d = 0 := HD.out.2 (by omega)
      subst hd0
      have hn1 : (0 : Int) < n := by omega
      obtain ⟨g, c, rfl, _, hgl⟩ := own_pos rw3 (by omega)
      clear rw3 hn0
      go_wp2_with fail
      refine CK.out.mono ?_
      rintro e w4 ⟨rfl, b4⟩
      have K4 := Lib.hid (K3.out.below b4)
      have O4 := Lib.hid (own_below O3.out b4)
      have B4 := Lib.hid (B3.out.trans (b4.mono B3.out.size))
      clear b4 B3 x3 K3 O3 CK hgl
      go_wp2_with fail
      go_loopw [9] (fun i wr => ∃ k : Nat, k ≤ n ∧ i = .int .i64 (k : Int) ∧ Hid (Below w4.heap.size w4 wr)) (fun i _ => n - (intOf i).toNat)
      case atStart => exact ⟨0, Nat.zero_le _, by go_num, Lib.hid (Below.refl _ _)⟩
      case round =>
        obtain ⟨k, hk, rfl, HB⟩ := hrel
        by_cases hlt : k < n
        · have q3 : (k : Int) < n := by omega
          have K := K4.out.below HB.out
          have OT := Lib.hid (own_below O4.out HB.out)
          have hkL : k < L.length := by rw [← HN.out]; exact hlt
          have h0L : 0 < L.length := by omega
          have hgl : g < wr.heap.size := (K.row.lt g rfl).2
          have c1 := cs_cell K HN.out hlt
          have c0 := cs_cell K HN.out (show 0 < n by omega)
          have o1 := K.els k hkL
          have o0 := K.els 0 h0L
          obtain ⟨hc1, he1, ht1⟩ := HT2.out k hkL
          obtain ⟨hc0, he0, _⟩ := HT2.out 0 h0L
          obtain ⟨q1, k1, e1, hq1, _, _, cl1⟩ := cir_row o1 hc1
          obtain ⟨q0, k0, e0, hq0, _, _, cl0⟩ := cir_row o0 hc0
          have T1 := ht_says TI (by have := hc1.1; omega) ht1 HT.out o1 OT.out
          have D1 := dz_says DI (by have := hc1.1; omega) (by have := hc0.1; omega) (HDF.out k hkL) o1 o0
          rw [e1] at c1 T1 D1
          rw [e0] at c0 D1
          have TA : Hid (TwoA g k 0 (.slice (some ⟨q1, 0, none⟩) 12 k1) (.slice (some ⟨q0, 0, none⟩) 12 k0) wr) := Lib.hid ⟨⟨hgl, c1⟩, hgl, c0⟩
          have CL1 := Lib.hid (And.intro hq1 cl1)
          have CL0 := Lib.hid (And.intro hq0 cl0)
          have FT : Hid (∀ i, i < 12 → (lAt L k).getD i 0 - (lAt L 0).getD i 0 = (lAt L k).getD ((i + 4) % 12) 0 - (lAt L 0).getD ((i + 4) % 12) 0) := Lib.hid (fun i hi => fourth (he1.trans he0.symm) hi)
          have HP1 := Lib.hid hc1
          have HP0 := Lib.hid hc0
          have HLT := Lib.hid hlt
          clear K hkL h0L hgl c1 c0 o1 o0 hc1 he1 ht1 hc0 he0 e1 e0 hq1 cl1 hq0 cl0 hlt
          go_upto_region 11 with fail
          go_region_held3 (fun w' => w'.cell? ⟨g, k, none⟩ = some (.slice (some ⟨q1, 0, none⟩) 12 k1) ∧ w'.cell? ⟨g, 0, none⟩ = some (.slice (some ⟨q0, 0, none⟩) 12 k0)) (first | exact twoA_cells (TA.out : TwoA g k 0 (.slice (some ⟨q1, 0, none⟩) 12 k1) (.slice (some ⟨q0, 0, none⟩) 12 k0) wr) | exact twoA_cells (twoA_keep (by assumption) TA.out))
            (first
              | (go_at_call 40; refine (ht_run (W := wr) (by with_reducible assumption) _ (by with_reducible first | assumption | exact (Below.refl _ _).drew)).mono ?_; rintro e1 w5 ⟨v5, rfl, hsm, hb⟩)
              | (go_at_call 39; refine (sm_run (by with_reducible assumption) _ (by with_reducible exact Below.refl _ _)).mono ?_; rintro e1 w5 ⟨rfl, hb⟩)
              | (go_at_call 41; refine (dz_run (W := wr) (by with_reducible assumption) _ (by with_reducible assumption)).mono ?_; rintro e1 w5 ⟨rfl, hb⟩))
          all_goals
            have B5 := Lib.hid (HB.out.trans (hb.mono HB.out.size))
            have TA5 := Lib.hid (twoA_keep hb TA.out)
            have CL15 := Lib.hid (show q1 < w5.heap.size ∧ ∀ j, j < 12 → w5.cell? ⟨q1, j, none⟩ = some (.int .i64 ((lAt L k).getD j 0)) from ⟨Nat.lt_of_lt_of_le CL1.out.1 hb.size, fun j hj => (hb.cell (p := ⟨q1, j, none⟩) CL1.out.1).trans (CL1.out.2 j hj)⟩)
            have CL05 := Lib.hid (show q0 < w5.heap.size ∧ ∀ j, j < 12 → w5.cell? ⟨q0, j, none⟩ = some (.int .i64 ((lAt L 0).getD j 0)) from ⟨Nat.lt_of_lt_of_le CL0.out.1 hb.size, fun j hj => (hb.cell (p := ⟨q0, j, none⟩) CL0.out.1).trans (CL0.out.2 j hj)⟩)
            clear hsm TA CL1 CL0 T1 D1 OT
            go_wp2_with fail
            go_loopw [10] (fun i wx => ∃ j : Nat, j ≤ 12 ∧ i = .int .i64 (j : Int) ∧ Hid (Below w5.heap.size w5 wx)) (fun i _ => 12 - (intOf i).toNat)
            case atStart => exact ⟨0, by omega, by go_num, Lib.hid (Below.refl _ _)⟩
            case round =>
              obtain ⟨i, hi, rfl, HBI⟩ := hrel
              by_cases hi12 : i < 12
              · have q5 : (i : Int) < 12 := by omega
                obtain ⟨j, hj⟩ : ∃ j, j = (i + 4) % 12 := ⟨_, rfl⟩
                have hj12 : j < 12 := by omega
                obtain ⟨x1, hx1⟩ : ∃ x, x = (lAt L k).getD i 0 := ⟨_, rfl⟩
                obtain ⟨x0, hx0⟩ : ∃ x, x = (lAt L 0).getD i 0 := ⟨_, rfl⟩
                obtain ⟨y1, hy1⟩ : ∃ x, x = (lAt L k).getD j 0 := ⟨_, rfl⟩
                obtain ⟨y0, hy0⟩ : ∃ x, x = (lAt L 0).getD j 0 := ⟨_, rfl⟩
                have E := FT.out i hi12
                rw [← hj, ← hx1, ← hx0, ← hy1, ← hy0] at E
                have bx1 : 0 ≤ x1 ∧ x1 ≤ 12 := by rw [hx1]; exact cir_part HP1.out hi12
                have bx0 : 0 ≤ x0 ∧ x0 ≤ 12 := by rw [hx0]; exact cir_part HP0.out hi12
                have by1 : 0 ≤ y1 ∧ y1 ≤ 12 := by rw [hy1]; exact cir_part HP1.out hj12
                have by0 : 0 ≤ y0 ∧ y0 ≤ 12 := by rw [hy0]; exact cir_part HP0.out hj12
                have SX : Hid (SixA g k q1 q0 i j (.slice (some ⟨q1, 0, none⟩) 12 k1) (.slice (some ⟨q0, 0, none⟩) 12 k0) x1 x0 y1 y0 wr) := Lib.hid (sixA_keep HBI.out ⟨TA5.out, ⟨CL15.out.1, CL05.out.1⟩, (CL15.out.2 i hi12).trans (by rw [hx1]), (CL05.out.2 i hi12).trans (by rw [hx0]), (CL15.out.2 j hj12).trans (by rw [hy1]), (CL05.out.2 j hj12).trans (by rw [hy0])⟩)
                have v1 : IntKind.i64.wrap (x1 - x0) = x1 - x0 := IntWalk.i64_in _ (by omega)
                have v2 : IntKind.i64.wrap (y1 - y0) = y1 - y0 := IntWalk.i64_in _ (by omega)
                have v3 : IntKind.i64.wrap ((i : Int) + 4) = (i : Int) + 4 := IntWalk.i64_in _ (by omega)
                have v4 : IntKind.i64.wrap (((i : Int) + 4).tmod 12) = (j : Int) := by rw [Int.tmod_eq_emod_of_nonneg (by omega)]; rw [IntWalk.i64_in _ (by omega)]; omega
                have v5 : ((i : Int) + 4).tmod 12 = (j : Int) := by rw [Int.tmod_eq_emod_of_nonneg (by omega)]; omega
                have v6 : ((i : Int) + 4) % 12 = (j : Int) := by omega
                have q6 : (j : Int) < 12 := by omega
                have t1 : (x1 - x0 != y1 - y0) = false := by simp [E]
                have HI12 := Lib.hid hi12
                clear hj hx1 hx0 hy1 hy0 E hi12
                go_upto_region 16 with fail
                go_region_held3 (fun w' => w'.cell? ⟨g, k, none⟩ = some (.slice (some ⟨q1, 0, none⟩) 12 k1) ∧ w'.cell? ⟨g, 0, none⟩ = some (.slice (some ⟨q0, 0, none⟩) 12 k0) ∧ w'.cell? ⟨q1, i, none⟩ = some (.int .i64 x1) ∧ w'.cell? ⟨q0, i, none⟩ = some (.int .i64 x0) ∧ w'.cell? ⟨q1, j, none⟩ = some (.int .i64 y1) ∧ w'.cell? ⟨q0, j, none⟩ = some (.int .i64 y0))
                  (first | exact sixA_cells (SX.out : SixA g k q1 q0 i j (.slice (some ⟨q1, 0, none⟩) 12 k1) (.slice (some ⟨q0, 0, none⟩) 12 k0) x1 x0 y1 y0 wr)) (fail)
                all_goals
                  go_wp2_with fail
                  go_roundw
                  case rel => exact ⟨i + 1, HI12.out, by go_num, Lib.hid HBI.out.drew⟩
                  case measure => simp [intOf]; omega
              · have q5 : ¬ (i : Int) < 12 := by omega
                obtain rfl : i = 12 := by omega
                go_wp2_with fail
                go_roundw
                case rel => exact ⟨k + 1, HLT.out, by go_num, Lib.hid (B5.out.trans (HBI.out.mono B5.out.size))⟩
                case measure => simp [intOf]; omega
        · have q3 : ¬ (k : Int) < n := by omega
          obtain rfl : k = n := by omega
          go_wp2_with fail
          go_ret
          exact ⟨rfl, B4.out.trans (HB.out.mono B4.out.size)⟩
end Go.Proofs.Ytohfepcdgbgojab
