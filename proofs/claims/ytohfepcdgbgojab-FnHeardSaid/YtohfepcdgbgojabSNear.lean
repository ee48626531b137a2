/- Contract of spec.NearestHeard. -/
import Derived.Test.YtohfepcdgbgojabSThirds
import Derived.Test.YtohfepcdgbgojabHeardMath
import Derived.Test.YtohfepcdgbgojabSFamily
import Derived.Deep.DeepCutAuto
namespace Go.Proofs.Ytohfepcdgbgojab
open Go.RowKit Go.Joins
set_option linter.unusedVariables false
/-- What a distance answers behind a world that is named, and the thirds ahead of it. -/
def DsSay (v tv : Value) (d : Int) (W' W : World) : Prop := ∀ X, Below W'.heap.size W' X → Calls Try.prog 77 #[v, tv] X fun e w'' => e = .returned (.int .i64 d) ∧ Below W.heap.size W w''
theorem ds_run {v tv : Value} {d : Int} {W' W : World} (h : DsSay v tv d W' W) (X : World) (hX : Below W'.heap.size W' X) : Calls Try.prog 77 #[v, tv] X fun e w'' => e = .returned (.int .i64 d) ∧ Below W.heap.size W w'' := h X hX
def ThSay (u tv : Value) (d : Int) (W : World) : Prop := ∀ X, Below W.heap.size W X → Calls Try.prog 42 #[cirV u] X fun e w' => ∃ v, e = .returned v ∧ DsSay v tv d w' W ∧ Below W.heap.size W w'
theorem th_run {u tv : Value} {d : Int} {W : World} (h : ThSay u tv d W) (X : World) (hX : Below W.heap.size W X) : Calls Try.prog 42 #[cirV u] X fun e w' => ∃ v, e = .returned v ∧ DsSay v tv d w' W ∧ Below W.heap.size W w' := h X hX
theorem ths_small {xs : List Int} (h : CirOk xs) : SmallI (thTo xs 12) := fun i => by have := thTo_in h i; omega
theorem th_says {W : World} {u tv : Value} {xs ts : List Int} {b b' : Nat} {e e' : TypeId} (hc : CirOk xs) (ht : ts.length = 12) (hs : SmallI ts) (h : W.ownsRow b e 1 u xs.length (intCs xs)) (h' : W.ownsRow b' e' 1 tv 12 (intCs ts)) :
    ThSay u tv (dTo (thirdsL xs) ts (thirdsL xs).length) W := fun X hX => by
  have h12 : xs.length ≤ 2000000 := by have := hc.1; omega
  refine (thirds_spec X b e u xs h12 (own_below h hX)).mono ?_
  rintro e1 w1 ⟨v, rfl, o1, b1⟩
  rw [thirdsL_ok hc, thTo_len] at o1 ⊢
  refine ⟨v, rfl, fun Y hY => ?_, hX.trans (b1.mono hX.size)⟩
  have hXY : Below W.heap.size W Y := hX.trans ((b1.trans (hY.mono b1.size)).mono hX.size)
  exact (dist_spec Y _ _ _ _ v tv (thTo xs 12) ts (ths_small hc) hs (own_below o1 hY) (own_below h' hXY)).mono fun _ _ ⟨he, hb⟩ => ⟨he, hXY.trans (hb.mono hXY.size)⟩
theorem small_of {ts : List Int} (h : ThirdsIn ts) : SmallI ts := fun i => by
  rcases Nat.lt_or_ge i 12 with q | q
  · exact h.2 i q
  · rw [List.getD_eq_getElem?_getD, List.getElem?_eq_none (by rw [h.1]; exact q)]; simp
/-- A circle, a number and whether there is one. -/
def NearB (xs : List Int) (d : Int) (z : Bool) (w : World) (e : Ending) (w' : World) : Prop :=
  ∃ v, e = .returned (.tuple #[cirV v, .int .i64 d, .bool z]) ∧ w'.ownsRow w.heap.size 3 1 v xs.length (intCs xs) ∧ Below w.heap.size w w'
theorem near_none {L : List (List Int)} {ts xs : List Int} {d : Int} {z : Bool}
    (h : (z = false ∧ xs = [] ∧ d = 0 ∧ ¬ (0 < L.length ∧ ThirdsIn ts)) ∨ (z = true ∧ (0 < L.length ∧ ThirdsIn ts) ∧ ∃ i, NearTo (disF L ts) L.length i ∧ xs = lAt L i ∧ d = disF L ts i)) (hn : ¬ (0 < L.length ∧ ThirdsIn ts)) : xs = [] ∧ d = 0 ∧ z = false := by
  rcases h with ⟨h1, h2, h3, _⟩ | ⟨_, h, _⟩
  · exact ⟨h2, h3, h1⟩
  · exact absurd h hn
theorem near_some {L : List (List Int)} {ts xs : List Int} {d : Int} {z : Bool} {i : Nat}
    (h : (z = false ∧ xs = [] ∧ d = 0 ∧ ¬ (0 < L.length ∧ ThirdsIn ts)) ∨ (z = true ∧ (0 < L.length ∧ ThirdsIn ts) ∧ ∃ i, NearTo (disF L ts) L.length i ∧ xs = lAt L i ∧ d = disF L ts i)) (hy : ThirdsIn ts) (hi : NearTo (disF L ts) L.length i) : xs = lAt L i ∧ d = disF L ts i ∧ z = true := by
  rcases h with ⟨_, _, _, h⟩ | ⟨h1, _, j, hj, h2, h3⟩
  · exact absurd ⟨by have := hi.1; omega, hy⟩ h
  · obtain rfl := near_unique1 hi hj
    exact ⟨h2, h3, h1⟩
/-- One cell, two cells of a row. -/
def OneA (g i : Nat) (u : Value) (w : World) : Prop := g < w.heap.size ∧ w.cell? ⟨g, i, none⟩ = some u
theorem oneA_keep {g i : Nat} {u : Value} {w w' : World} (hb : Below w.heap.size w w') (h : OneA g i u w) : OneA g i u w' := ⟨Nat.lt_of_lt_of_le h.1 hb.size, (hb.cell (p := ⟨g, i, none⟩) h.1).trans h.2⟩
theorem oneA_set {g i m : Nat} {u v : Value} {w : World} (hm : m ≠ g) (h : OneA g i u w) : OneA g i u (w.setCell ⟨m, 0, none⟩ v) := ⟨by have := h.1; simpa using this, (World.cell?_setCell_other _ _ _ _ (fun e => hm (by injection e))).trans h.2⟩
def TwoA (g i k : Nat) (u v : Value) (w : World) : Prop := OneA g i u w ∧ OneA g k v w
theorem twoA_keep {g i k : Nat} {u v : Value} {w w' : World} (hb : Below w.heap.size w w') (h : TwoA g i k u v w) : TwoA g i k u v w' := ⟨oneA_keep hb h.1, oneA_keep hb h.2⟩
theorem twoA_cells {g i k : Nat} {u v : Value} {w : World} (h : TwoA g i k u v w) : w.cell? ⟨g, i, none⟩ = some u ∧ w.cell? ⟨g, k, none⟩ = some v := ⟨h.1.2, h.2.2⟩
set_option maxRecDepth 100000 in
set_option maxHeartbeats 4000000 in
theorem near15_spec {p : Int} {ts xs : List Int} {d : Int} {z : Bool} (w : World) (b' : Nat) (e' : TypeId) (v' : Value) (hf : NearAt15 p ts xs d z) (hl' : ts.length ≤ 2000000) (h' : w.ownsRow b' e' 1 v' ts.length (intCs ts)) :
    Calls Try.prog 51 #[.int .i64 p, v'] w (NearB xs d z w) := by
  have FSP := Lib.hid (family_spec p (w.alloc (.cells #[.slice none 0 0] 29)))
  have LN := famOf_len p
  have LE := Lib.hid (fun i (hi : i < (famOf p).length) => fam_cirOk hi)
  unfold NearAt15 at hf
  generalize famOf p = L at FSP LN LE hf
  have HF := Lib.hid hf
  obtain ⟨n, hn⟩ : ∃ n, n = L.length := ⟨_, rfl⟩
  rw [← hn] at LN
  have HN := Lib.hid hn
  have HW := Lib.hid h'
  obtain ⟨pw, cw, rfl⟩ := own_slice h'
  have X0 := Lib.hid (one_alloc (w := w) (v := .slice none 0 0) (t := 29))
  have B0 := Lib.hid (below_alloc1 w (.cells #[.slice none 0 0] 29))
  have HS := Lib.hid (show (w.alloc (.cells #[.slice none 0 0] 29)).heap.size = w.heap.size + 1 from by simp)
  obtain ⟨lt, hlt⟩ : ∃ l, l = ts.length := ⟨_, rfl⟩
  rw [← hlt] at hl' ⊢
  rw [← hlt] at HW
  have HLT := Lib.hid hlt
  clear h' hn hlt hf
  go_enter Try.func51, Try.ntmps51
  go_upto_region 1 with fail
  obtain ⟨W0, hW⟩ : ∃ W, W = w.alloc (.cells #[.slice none 0 0] 29) := ⟨_, rfl⟩
  obtain ⟨m, hm⟩ : ∃ m, m = w.heap.size := ⟨_, rfl⟩
  rw [← hW] at FSP X0 B0 HS ⊢
  rw [← hm] at X0 HS ⊢
  have HM := Lib.hid hm
  clear hW hm
  go_wp2_with fail
  refine FSP.out.mono ?_
  rintro e1 w1 ⟨g, c, us1, rfl, k1, b1⟩
  rw [← HN.out] at k1 ⊢
  have K1 := Lib.hid k1
  have B1 := Lib.hid (B0.out.trans (b1.mono B0.out.size))
  have X1 := Lib.hid (one_keep b1 X0.out)
  clear k1 b1 FSP X0 B0
  obtain ⟨_, x1, xf⟩ := X1.out
  by_cases hn0 : n = 0
  · have t0 : ((n : Int) == 0) = true := by simp [hn0]
    have HZ : Hid (xs = [] ∧ d = 0 ∧ z = false) := Lib.hid (near_none HF.out (fun h => by have := HN.out; omega))
    obtain ⟨_, y1, _⟩ := one_set (u := .slice none 0 0) X1.out
    have B3 := Lib.hid (B1.out.setCell (p := ⟨m, 0, none⟩) (by have := HM.out; simp only; omega) (.slice none 0 0))
    clear hn0
    go_wp2_with fail
    obtain ⟨rfl, rfl, rfl⟩ := HZ.out
    refine bodyPost_ret (v := .tuple #[cirV (.slice none 0 0), .int .i64 0, .bool false]) (by simp [results, Try.results51, go_sem, y1]) rfl ⟨_, rfl, World.ownsRow_nil _ _ _ _, B3.out⟩
  · have tn : ((n : Int) == 0) = false := by simp; omega
    by_cases h12 : lt = 12
    · subst h12
      go_upto_region 4 with fail
      have HWW := Lib.hid (own_below HW.out B1.out)
      obtain ⟨gw, cw2, hgw, _, lgw⟩ := own_pos HWW.out (by omega)
      simp only [Value.slice.injEq, true_and] at hgw
      obtain ⟨rfl, rfl⟩ := hgw
      go_wp2_with fail
      go_loopw [8] (fun i wr => ∃ k : Nat, k ≤ 12 ∧ i = .int .i64 (k : Int) ∧ Hid (∀ j, j < k → -200 ≤ ts.getD j 0 ∧ ts.getD j 0 ≤ 200) ∧ wr = w1) (fun i _ => 12 - (intOf i).toNat)
      case atStart => exact ⟨0, Nat.zero_le _, by go_num, Lib.hid (fun j hj => by omega), rfl⟩
      case round =>
        obtain ⟨k, hk, rfl, HA, hwr⟩ := hrel
        have hwr2 := hwr.symm
        clear hwr
        subst hwr2
        by_cases hlt : k < 12
        · have q3 : (k : Int) < 12 := by omega
          have q1 := own_icell HWW.out k hlt
          obtain ⟨x, hx⟩ : ∃ x, x = ts.getD k 0 := ⟨_, rfl⟩
          rw [← hx] at q1
          have HX := Lib.hid hx
          have HLTK := Lib.hid hlt
          clear hx hlt
          by_cases hin : -200 ≤ x ∧ x ≤ 200
          · have IN := Lib.hid (inT_any x (-200) 200 w1)
            rw [decide_eq_true hin] at IN
            have HIN := Lib.hid hin
            clear hin
            go_wp2_with fail
            refine IN.out.mono ?_
            rintro e2 w2 ⟨rfl, rfl⟩
            go_wp2_with fail
            go_roundw
            case rel => exact ⟨k + 1, HLTK.out, by go_num, Lib.hid (fun j hj => (show j < k ∨ j = k from by omega).elim (HA.out j) (fun h => by rw [h, ← HX.out]; exact HIN.out)), by first | trivial | rfl⟩
            case measure => simp [intOf]; omega
          · have IN := Lib.hid (inT_any x (-200) 200 w1)
            rw [decide_eq_false hin] at IN
            have HZ : Hid (xs = [] ∧ d = 0 ∧ z = false) := Lib.hid (near_none HF.out (fun h => hin (by have := h.2.2 k HLTK.out; rwa [← HX.out] at this)))
            obtain ⟨_, y1, _⟩ := one_set (u := .slice none 0 0) X1.out
            have B3 := Lib.hid (B1.out.setCell (p := ⟨m, 0, none⟩) (by have := HM.out; simp only; omega) (.slice none 0 0))
            clear hin
            go_wp2_with fail
            refine IN.out.mono ?_
            rintro e2 w2 ⟨rfl, rfl⟩
            go_wp2_with fail
            obtain ⟨rfl, rfl, rfl⟩ := HZ.out
            refine bodyPost_ret (v := .tuple #[cirV (.slice none 0 0), .int .i64 0, .bool false]) (by simp [results, Try.results51, go_sem, y1]) rfl ⟨_, rfl, World.ownsRow_nil _ _ _ _, B3.out⟩
        · have q3 : ¬ (k : Int) < 12 := by omega
          obtain rfl : k = 12 := by omega
          have TIN : Hid (ThirdsIn ts) := Lib.hid ⟨HLT.out.symm, HA.out⟩
          clear HA hk
          go_wp2_with fail
          go_loopw [9, 10] (fun a i wx => ∃ (t k : Nat), (1 ≤ k ∧ k ≤ n) ∧ a = .int .i64 (t : Int) ∧ i = .int .i64 (k : Int) ∧ Hid (NearTo (disF L ts) k t) ∧ Hid (Below w1.heap.size w1 wx)) (fun _ i _ => n - (intOf i).toNat)
          case atStart => exact ⟨0, 1, by omega, by go_num, by go_num, Lib.hid ⟨by omega, fun j hj => by omega, fun j hj => (show j = 0 from by omega) ▸ Int.le_refl _⟩, Lib.hid (Below.refl _ _)⟩
          case round =>
            obtain ⟨t, k, hk, rfl, rfl, HT, HB⟩ := hrel
            have K := K1.out.below HB.out
            have htn : t < n := by have := HT.out.1; omega
            have q4 : (t : Int) < n := by omega
            have htL : t < L.length := by rw [← HN.out]; exact htn
            have hgl : g < wr.heap.size := (K.row.lt g rfl).2
            have HTV := Lib.hid (own_below HWW.out HB.out)
            have c2 := cs_cell K HN.out htn
            have o2 := K.els t htL
            obtain ⟨u2, hu2⟩ : ∃ u, u = uAt us1 t := ⟨_, rfl⟩
            rw [← hu2] at c2 o2
            have T2 := th_says (LE.out t htL) HLT.out.symm (small_of TIN.out) o2 HTV.out
            obtain ⟨d2, hd2⟩ : ∃ d, d = disF L ts t := ⟨_, rfl⟩
            rw [show dTo (thirdsL (lAt L t)) ts (thirdsL (lAt L t)).length = d2 from hd2.symm] at T2
            have HD2 := Lib.hid hd2
            have O2 := Lib.hid o2
            obtain ⟨p2, k2, hs2⟩ := own_slice o2
            by_cases hlt : k < n
            · have q3 : (k : Int) < n := by omega
              have hkL : k < L.length := by rw [← HN.out]; exact hlt
              have c1 := cs_cell K HN.out hlt
              have o1 := K.els k hkL
              obtain ⟨u1, hu1⟩ : ∃ u, u = uAt us1 k := ⟨_, rfl⟩
              rw [← hu1] at c1 o1
              have T1 := th_says (LE.out k hkL) HLT.out.symm (small_of TIN.out) o1 HTV.out
              obtain ⟨d1, hd1⟩ : ∃ d, d = disF L ts k := ⟨_, rfl⟩
              rw [show dTo (thirdsL (lAt L k)) ts (thirdsL (lAt L k)).length = d1 from hd1.symm] at T1
              have HD1 := Lib.hid hd1
              obtain ⟨p1, k1, hs1⟩ := own_slice o1
              have TA : Hid (TwoA g k t u1 u2 wr) := Lib.hid ⟨⟨hgl, c1⟩, hgl, c2⟩
              generalize (lAt L k).length = l1 at hs1
              generalize (lAt L t).length = l2 at hs2
              subst hs1
              subst hs2
              have NS := Lib.hid (near_step HT.out)
              rw [← HD1.out, ← HD2.out] at NS
              have HLTK := Lib.hid hlt
              clear hu1 hu2 hd1 hd2 K o1 o2 c1 c2 hkL htL hlt hgl htn O2 HT
              by_cases hdd : d1 < d2
              · rw [if_pos hdd] at NS
                go_upto_region 13 with fail
                go_region_held3 (fun w' => w'.cell? ⟨g, k, none⟩ = some (.slice p1 l1 k1) ∧ w'.cell? ⟨g, t, none⟩ = some (.slice p2 l2 k2)) (first | exact twoA_cells (TA.out : TwoA g k t (.slice p1 l1 k1) (.slice p2 l2 k2) wr) | exact twoA_cells (twoA_keep (by assumption) TA.out))
                  (first
                    | (go_at_call 42; refine (th_run (W := wr) (by with_reducible assumption) _ (by with_reducible first | assumption | exact (Below.refl _ _).drew)).mono ?_; rintro e1 w3 ⟨v3, rfl, hds, hb⟩)
                    | (go_at_call 77; refine (ds_run (by with_reducible assumption) _ (by with_reducible exact Below.refl _ _)).mono ?_; rintro e1 w3 ⟨rfl, hb⟩))
                all_goals
                  have B2 := Lib.hid (HB.out.trans (hb.mono HB.out.size))
                  go_wp2_with fail
                  go_roundw
                  case rel => exact ⟨k, k + 1, by have := HLTK.out; omega, by go_num, by go_num, NS, B2⟩
                  case measure => simp [intOf]; omega
              · rw [if_neg hdd] at NS
                go_upto_region 13 with fail
                go_region_held3 (fun w' => w'.cell? ⟨g, k, none⟩ = some (.slice p1 l1 k1) ∧ w'.cell? ⟨g, t, none⟩ = some (.slice p2 l2 k2)) (first | exact twoA_cells (TA.out : TwoA g k t (.slice p1 l1 k1) (.slice p2 l2 k2) wr) | exact twoA_cells (twoA_keep (by assumption) TA.out))
                  (first
                    | (go_at_call 42; refine (th_run (W := wr) (by with_reducible assumption) _ (by with_reducible first | assumption | exact (Below.refl _ _).drew)).mono ?_; rintro e1 w3 ⟨v3, rfl, hds, hb⟩)
                    | (go_at_call 77; refine (ds_run (by with_reducible assumption) _ (by with_reducible exact Below.refl _ _)).mono ?_; rintro e1 w3 ⟨rfl, hb⟩))
                all_goals
                  have B2 := Lib.hid (HB.out.trans (hb.mono HB.out.size))
                  go_wp2_with fail
                  go_roundw
                  case rel => exact ⟨t, k + 1, by have := HLTK.out; omega, by go_num, by go_num, NS, B2⟩
                  case measure => simp [intOf]; omega
            · have q3 : ¬ (k : Int) < n := by omega
              obtain rfl : k = n := by omega
              have HZ : Hid (xs = lAt L t ∧ d = d2 ∧ z = true) := Lib.hid (by
                have := near_some HF.out TIN.out (by rw [← HN.out]; exact HT.out)
                rw [← HD2.out] at this
                exact this)
              have XR := Lib.hid (one_keep HB.out X1.out)
              have hmg : m ≠ g := by have := (K1.out.row.lt g rfl).1; have := HS.out; omega
              have TA : Hid (OneA g t u2 wr) := Lib.hid ⟨hgl, c2⟩
              have BR := Lib.hid (B1.out.trans (HB.out.mono B1.out.size))
              generalize hlx : (lAt L t).length = l2 at hs2
              have HLX := Lib.hid hlx
              rw [hlx] at O2
              subst hs2
              obtain ⟨_, z1, zf⟩ := XR.out
              clear hu2 hd2 K o2 c2 htL hgl htn HT HF K1 X1 x1 xf HB B1 hlx
              go_upto_region 15 with fail
              go_region_held3 (fun w' => w'.cell? ⟨g, t, none⟩ = some (.slice p2 l2 k2)) (first | exact (TA.out : OneA g t (.slice p2 l2 k2) wr).2 | exact (oneA_keep (by assumption) TA.out).2 | exact (oneA_set hmg (oneA_keep (by assumption) TA.out)).2)
                (first
                  | (go_at_call 42; refine (th_run (W := wr) (by with_reducible assumption) _ (by with_reducible first | assumption | exact (Below.refl _ _).drew)).mono ?_; rintro e1 w3 ⟨v3, rfl, hds, hb⟩; obtain ⟨_, y1, yf⟩ := one_keep hb XR.out)
                  | (go_at_call 77; refine (ds_run (by with_reducible assumption) _ (by with_reducible exact Below.refl _ _)).mono ?_; rintro e1 w3 ⟨rfl, hb⟩; obtain ⟨_, y1, yf⟩ := one_keep hb XR.out))
              all_goals
                have O3 := Lib.hid (own_below O2.out hb)
                obtain ⟨_, r1, _⟩ := one_set (u := .slice p2 l2 k2) (one_keep hb XR.out)
                have O4 := Lib.hid (ownsRow_setCell_below O3.out (a := ⟨m, 0, none⟩) (by have := HS.out; simp only; omega) (.slice p2 l2 k2))
                have B4 := Lib.hid ((BR.out.trans (hb.mono BR.out.size)).setCell (p := ⟨m, 0, none⟩) (by have := HM.out; simp only; omega) (.slice p2 l2 k2))
                go_wp2_with fail
                obtain ⟨rfl, rfl, rfl⟩ := HZ.out
                refine bodyPost_ret (v := .tuple #[cirV (.slice p2 l2 k2), .int .i64 d, .bool true]) (by simp [results, Try.results51, go_sem, r1]) rfl ⟨_, rfl, ?_, B4.out⟩
                rw [HLX.out]
                exact own_base O4.out (by have := HS.out; have := HM.out; omega)
    · have t12 : ((lt : Int) != 12) = true := by simp; omega
      have HZ : Hid (xs = [] ∧ d = 0 ∧ z = false) := Lib.hid (near_none HF.out (fun h => h12 (by have := h.2.1; have := HLT.out; omega)))
      obtain ⟨_, y1, _⟩ := one_set (u := .slice none 0 0) X1.out
      have B3 := Lib.hid (B1.out.setCell (p := ⟨m, 0, none⟩) (by have := HM.out; simp only; omega) (.slice none 0 0))
      clear h12
      go_wp2_with fail
      obtain ⟨rfl, rfl, rfl⟩ := HZ.out
      refine bodyPost_ret (v := .tuple #[cirV (.slice none 0 0), .int .i64 0, .bool false]) (by simp [results, Try.results51, go_sem, y1]) rfl ⟨_, rfl, World.ownsRow_nil _ _ _ _, B3.out⟩
end Go.Proofs.Ytohfepcdgbgojab
