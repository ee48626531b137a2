/- Contracts of spec.CountMeeting and spec.FirstMeeting. -/
import Derived.Test.YtohfepcdgbgojabSFamily
import Derived.Test.YtohfepcdgbgojabMeets
namespace Go.Proofs.Ytohfepcdgbgojab
open Go.RowKit Go.Joins
set_option linter.unusedVariables false
/-- How many of the first k circles meet the wishes. -/
def cntMeet (L : List (List Int)) (ws : List Wi) : Nat → Nat
  | 0 => 0
  | k + 1 => if meetB (lAt L k) ws = true then cntMeet L ws k + 1 else cntMeet L ws k
theorem cntMeet_le (L : List (List Int)) (ws : List Wi) : ∀ k, cntMeet L ws k ≤ k
  | 0 => Nat.le_refl _
  | k + 1 => by have := cntMeet_le L ws k; unfold cntMeet; split <;> omega
/-- spec.Meets of the family's circle at a place. -/
theorem meets_at {w : World} {B : Nat} {v : Value} {us : List Value} {L : List (List Int)} (h : CsRaw w B v us L) {k : Nat} (hk : k < L.length) (hx : (lAt L k).length ≤ 2000000) {b' : Nat} {e' : TypeId} {v' : Value} {ws : List Wi} (hl' : ws.length ≤ 2000000) (h' : w.ownsRow b' e' 2 v' ws.length (wiCs ws)) :
    Calls Try.prog 26 #[cirV (uAt us k), v'] w fun en w' => en = .returned (.bool (meetB (lAt L k) ws)) ∧ Below w.heap.size w w' :=
  meets_spec w B 3 (uAt us k) (lAt L k) b' e' v' ws hx hl' (h.els k hk) h'
set_option maxRecDepth 100000 in
set_option maxHeartbeats 2000000 in
theorem count_spec (p : Int) (w : World) (b' : Nat) (e' : TypeId) (v' : Value) (ws : List Wi) (hl' : ws.length ≤ 2000000) (h' : w.ownsRow b' e' 2 v' ws.length (wiCs ws)) :
    Calls Try.prog 31 #[.int .i64 p, v'] w fun en w' => en = .returned (.int .i64 (cntMeet (famOf p) ws (famOf p).length : Nat)) ∧ Below w.heap.size w w' := by
  have FSP := Lib.hid (family_spec p w)
  have LN := famOf_len p
  have LE := Lib.hid (famOf_each p)
  have HW := Lib.hid h'
  generalize famOf p = L at FSP LN LE ⊢
  obtain ⟨n, hn⟩ : ∃ n, n = L.length := ⟨_, rfl⟩
  rw [← hn] at LN
  have HN := Lib.hid hn
  obtain ⟨pw, cw, rfl⟩ := ownW_slice h'
  clear h' hn
  go_enter Try.func31, Try.ntmps31
  go_wp2_with fail
  refine FSP.out.mono ?_
  rintro e1 w1 ⟨g, c, us, rfl, k1, b1⟩
  rw [← HN.out] at k1 ⊢
  have K1 := Lib.hid k1
  have B1 := Lib.hid b1
  have HG := Lib.hid (fun (h : 0 < n) => (k1.row.lt g rfl).2)
  clear k1 b1 FSP
  go_wp2_with fail
  go_loopw [5, 7] (fun s i wr => ∃ (k z : Nat), k ≤ n ∧ Hid (z = cntMeet L ws k) ∧ s = .int .i64 (z : Int) ∧ i = .int .i64 (k : Int) ∧ Hid (Below w1.heap.size w1 wr)) (fun _ i _ => n - (intOf i).toNat)
  case atStart => exact ⟨0, 0, Nat.zero_le _, Lib.hid rfl, rfl, rfl, Lib.hid (Below.refl _ _)⟩
  case round =>
    obtain ⟨k, z, hk, HZ, rfl, rfl, HB⟩ := hrel
    have hz : z ≤ 5000 := by have := cntMeet_le L ws k; have := HZ.out; omega
    by_cases hlt : k < n
    · have q3 : (k : Int) < n := by omega
      have K := K1.out.below HB.out
      have c1 := cs_cell K HN.out hlt
      have MT := Lib.hid (meets_at K (show k < L.length from by rw [← HN.out]; exact hlt) (by rw [LE.out k (by rw [← HN.out]; exact hlt)]; omega) hl' (ownW_below HW.out (B1.out.trans (HB.out.mono B1.out.size))))
      obtain ⟨y, hy⟩ : ∃ y, y = meetB (lAt L k) ws := ⟨_, rfl⟩
      rw [← hy] at MT
      have HY := Lib.hid hy
      have HLT := Lib.hid hlt
      have o1 := K.els k (by rw [← HN.out]; exact hlt)
      obtain ⟨p1, k1, hu⟩ := own_slice o1
      rw [hu] at c1 MT
      clear hy K o1 hu
      cases y
      · go_wp2_with fail
        refine MT.out.mono ?_
        rintro e2 w2 ⟨rfl, b2⟩
        have B2 := Lib.hid (HB.out.trans (b2.mono HB.out.size))
        clear b2 HB MT c1
        go_wp2_with fail
        go_roundw
        case rel => exact ⟨k + 1, z, HLT.out, Lib.hid (by rw [HZ.out]; show _ = if meetB (lAt L k) ws = true then _ else _; rw [← HY.out]; rfl), rfl, by go_num, B2⟩
        case measure => simp [intOf]; omega
      · go_wp2_with fail
        refine MT.out.mono ?_
        rintro e2 w2 ⟨rfl, b2⟩
        have B2 := Lib.hid (HB.out.trans (b2.mono HB.out.size))
        clear b2 HB MT c1
        go_wp2_with fail
        go_roundw
        case rel => exact ⟨k + 1, z + 1, HLT.out, Lib.hid (by rw [HZ.out]; show _ = if meetB (lAt L k) ws = true then _ else _; rw [← HY.out]; rfl), by go_num, by go_num, B2⟩
        case measure => simp [intOf]; omega
    · have q3 : ¬ (k : Int) < n := by omega
      obtain rfl : k = n := by omega
      go_wp2_with fail
      go_ret
      exact ⟨ret_int (by rw [HZ.out, ← HN.out]), B1.out.trans (HB.out.mono B1.out.size)⟩
/-- The first of the circles from k on that meets the wishes. -/
def FirstAt (L : List (List Int)) (ws : List Wi) (xs : List Int) (z : Bool) : Prop :=
  (z = false ∧ xs = [] ∧ ∀ j, j < L.length → meetB (lAt L j) ws = false) ∨ (z = true ∧ ∃ k, k < L.length ∧ xs = lAt L k ∧ meetB (lAt L k) ws = true ∧ ∀ j, j < k → meetB (lAt L j) ws = false)
theorem first_ex (L : List (List Int)) (ws : List Wi) : ∃ xs z, FirstAt L ws xs z := by
  have go : ∀ n, n ≤ L.length → (∀ j, j < n → meetB (lAt L j) ws = false) ∨ ∃ k, k < n ∧ meetB (lAt L k) ws = true ∧ ∀ j, j < k → meetB (lAt L j) ws = false := by
    intro n
    induction n with
    | zero => exact fun _ => .inl (fun j hj => by omega)
    | succ n ih =>
      intro hn
      rcases ih (by omega) with h | ⟨k, h1, h2, h3⟩
      · cases hb : meetB (lAt L n) ws
        · exact .inl (fun j hj => (show j < n ∨ j = n from by omega).elim (h j) (fun e => e ▸ hb))
        · exact .inr ⟨n, by omega, hb, h⟩
      · exact .inr ⟨k, by omega, h2, h3⟩
  rcases go L.length (Nat.le_refl _) with h | ⟨k, h1, h2, h3⟩
  · exact ⟨_, _, .inl ⟨rfl, rfl, h⟩⟩
  · exact ⟨_, _, .inr ⟨rfl, k, h1, rfl, h2, h3⟩⟩
theorem first_unique {L : List (List Int)} {ws : List Wi} {xs ys : List Int} {z y : Bool} (h : FirstAt L ws xs z) (g : FirstAt L ws ys y) : xs = ys ∧ z = y := by
  rcases h with ⟨rfl, rfl, h1⟩ | ⟨rfl, k, hk, rfl, h1, h2⟩
  · rcases g with ⟨rfl, rfl, _⟩ | ⟨rfl, j, hj, rfl, g1, _⟩
    · exact ⟨rfl, rfl⟩
    · rw [h1 j hj] at g1; cases g1
  · rcases g with ⟨rfl, rfl, g1⟩ | ⟨rfl, j, hj, rfl, g1, g2⟩
    · rw [g1 k hk] at h1; cases h1
    · rcases (show k < j ∨ k = j ∨ j < k from by omega) with q | rfl | q
      · rw [g2 k q] at h1; cases h1
      · exact ⟨rfl, rfl⟩
      · rw [h2 j q] at g1; cases g1
/-- What a function that answers a circle and a bool leaves. -/
def CirB (xs : List Int) (z : Bool) (w : World) (e : Ending) (w' : World) : Prop :=
  ∃ v, e = .returned (.tuple #[cirV v, .bool z]) ∧ w'.ownsRow w.heap.size 3 1 v xs.length (intCs xs) ∧ Below w.heap.size w w'
set_option maxRecDepth 100000 in
set_option maxHeartbeats 2000000 in
theorem first_spec {p : Int} {xs : List Int} {zb : Bool} (w : World) (b' : Nat) (e' : TypeId) (v' : Value) (ws : List Wi) (hf : FirstAt (famOf p) ws xs zb) (hl' : ws.length ≤ 2000000) (h' : w.ownsRow b' e' 2 v' ws.length (wiCs ws)) :
    Calls Try.prog 32 #[.int .i64 p, v'] w (CirB xs zb w) := by
  have FSP := Lib.hid (family_spec p (w.alloc (.cells #[.slice none 0 0] 29)))
  have LN := famOf_len p
  have LE := Lib.hid (famOf_each p)
  have HW := Lib.hid h'
  generalize famOf p = L at FSP LN LE hf
  have HF := Lib.hid hf
  obtain ⟨n, hn⟩ : ∃ n, n = L.length := ⟨_, rfl⟩
  rw [← hn] at LN
  have HN := Lib.hid hn
  obtain ⟨pw, cw, rfl⟩ := ownW_slice h'
  have X0 := Lib.hid (one_alloc (w := w) (v := .slice none 0 0) (t := 29))
  have B0 := Lib.hid (below_alloc1 w (.cells #[.slice none 0 0] 29))
  have HS := Lib.hid (show (w.alloc (.cells #[.slice none 0 0] 29)).heap.size = w.heap.size + 1 from by simp)
  clear h' hn hf
  go_enter Try.func32, Try.ntmps32
  go_upto_region 1 with fail
  obtain ⟨W0, hW⟩ : ∃ W, W = w.alloc (.cells #[.slice none 0 0] 29) := ⟨_, rfl⟩
  obtain ⟨m, hm⟩ : ∃ m, m = w.heap.size := ⟨_, rfl⟩
  rw [← hW] at FSP X0 B0 HS ⊢
  rw [← hm] at X0 HS ⊢
  have HM := Lib.hid hm
  clear hW hm
  go_wp2_with fail
  refine FSP.out.mono ?_
  rintro e1 w1 ⟨g, c, us, rfl, k1, b1⟩
  rw [← HN.out] at k1 ⊢
  have K1 := Lib.hid k1
  have B1 := Lib.hid (B0.out.trans (b1.mono B0.out.size))
  have X1 := Lib.hid (one_keep b1 X0.out)
  clear k1 b1 FSP X0
  go_wp2_with fail
  go_loopw [7] (fun i wr => ∃ k : Nat, k ≤ n ∧ i = .int .i64 (k : Int) ∧ Hid (∀ j, j < k → meetB (lAt L j) ws = false) ∧ Hid (Below w1.heap.size w1 wr)) (fun i _ => n - (intOf i).toNat)
  case atStart => exact ⟨0, Nat.zero_le _, rfl, Lib.hid (fun j hj => by omega), Lib.hid (Below.refl _ _)⟩
  case round =>
    obtain ⟨k, hk, rfl, HA, HB⟩ := hrel
    by_cases hlt : k < n
    · have q3 : (k : Int) < n := by omega
      have hkL : k < L.length := by rw [← HN.out]; exact hlt
      have K := K1.out.below HB.out
      have c1 := cs_cell K HN.out hlt
      have MT := Lib.hid (meets_at K hkL (by rw [LE.out k hkL]; omega) hl' (ownW_below HW.out (B1.out.trans (HB.out.mono B1.out.size))))
      obtain ⟨y, hy⟩ : ∃ y, y = meetB (lAt L k) ws := ⟨_, rfl⟩
      rw [← hy] at MT
      have HY := Lib.hid hy
      have HLT := Lib.hid hlt
      have o1 := K.els k hkL
      have HO := Lib.hid o1
      have GL : g < wr.heap.size := (K.row.lt g rfl).2
      obtain ⟨p1, k1, hu⟩ := own_slice o1
      rw [hu] at c1 MT HO
      clear hy K o1 hu
      cases y
      · go_wp2_with fail
        refine MT.out.mono ?_
        rintro e2 w2 ⟨rfl, b2⟩
        have B2 := Lib.hid (HB.out.trans (b2.mono HB.out.size))
        clear b2 HB MT c1 HO
        go_wp2_with fail
        go_roundw
        case rel => exact ⟨k + 1, HLT.out, by go_num, Lib.hid (fun j hj => (show j < k ∨ j = k from by omega).elim (HA.out j) (fun h => by rw [h]; exact HY.out.symm)), B2⟩
        case measure => simp [intOf]; omega
      · have HX : Hid (xs = lAt L k ∧ zb = true) := Lib.hid (first_unique HF.out (.inr ⟨rfl, k, hkL, rfl, HY.out.symm, HA.out⟩))
        go_wp2_with fail
        refine MT.out.mono ?_
        rintro e2 w2 ⟨rfl, b2⟩
        have c2 := (b2.cell (p := ⟨g, k, none⟩) GL).trans c1
        obtain ⟨x2l, x2, x2f⟩ := one_keep (HB.out.trans (b2.mono HB.out.size)) X1.out
        obtain ⟨l, hl⟩ : ∃ l, l = (lAt L k).length := ⟨_, rfl⟩
        rw [← hl] at c2 HO
        have O3 := Lib.hid (ownsRow_setCell_below (own_below HO.out b2) (a := ⟨m, 0, none⟩) (by have := HS.out; simp only; omega) (.slice p1 l k1))
        have B3 := Lib.hid ((B1.out.trans ((HB.out.trans (b2.mono HB.out.size)).mono B1.out.size)).setCell (p := ⟨m, 0, none⟩) (by have := HM.out; simp only; omega) (.slice p1 l k1))
        obtain ⟨_, y3, _⟩ := one_set (u := .slice p1 l k1) (⟨x2l, x2, x2f⟩ : One m (.slice none 0 0) w2)
        have HLL := Lib.hid hl
        clear b2 HB MT c1 HO hl
        go_wp2_with fail
        obtain ⟨e1, e2⟩ := HX.out
        subst e2
        refine bodyPost_ret (v := .tuple #[cirV (.slice p1 l k1), .bool true]) (by simp [results, Try.results32, go_sem, y3]) rfl ⟨_, rfl, ?_, B3.out⟩
        rw [e1, ← HLL.out]
        exact own_base O3.out (by have := HS.out; have := HM.out; omega)
    · have q3 : ¬ (k : Int) < n := by omega
      obtain rfl : k = n := by omega
      have HX : Hid (xs = [] ∧ zb = false) := Lib.hid (first_unique HF.out (.inl ⟨rfl, rfl, fun j hj => HA.out j (by rw [HN.out]; exact hj)⟩))
      obtain ⟨x2l, x2, x2f⟩ := one_keep HB.out X1.out
      obtain ⟨_, y3, _⟩ := one_set (u := .slice none 0 0) (⟨x2l, x2, x2f⟩ : One m (.slice none 0 0) wr)
      have B3 := Lib.hid ((B1.out.trans (HB.out.mono B1.out.size)).setCell (p := ⟨m, 0, none⟩) (by have := HM.out; simp only; omega) (.slice none 0 0))
      go_wp2_with fail
      obtain ⟨e1, e2⟩ := HX.out
      subst e2
      subst e1
      refine bodyPost_ret (v := .tuple #[cirV (.slice none 0 0), .bool false]) (by simp [results, Try.results32, go_sem, y3]) rfl ⟨_, rfl, World.ownsRow_nil _ _ _ _, B3.out⟩
end Go.Proofs.Ytohfepcdgbgojab
