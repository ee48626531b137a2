/- The circles with two parts; contracts of spec.l14Family and spec.FamilyOf. -/
import Derived.Test.YtohfepcdgbgojabCirRows
namespace Go.Proofs.Ytohfepcdgbgojab
open Go.RowKit Go.Joins
set_option linter.unusedVariables false
/-- The circles with the given first parts, k places being left. -/
def famL (p : Int) : Nat → List Int → Int → List (List Int)
  | 0, h, left => if 0 < left then [] else [h]
  | k + 1, h, left => famL p k (h ++ [0]) left ++ (if p ≤ left then famL p k (h ++ [p]) (left - p) else [])
theorem famL_len (p : Int) : ∀ k h left, (famL p k h left).length ≤ 2 ^ k
  | 0, h, left => by unfold famL; split <;> simp
  | k + 1, h, left => by
    have a := famL_len p k (h ++ [0]) left
    have b := famL_len p k (h ++ [p]) (left - p)
    unfold famL
    rw [List.length_append, Nat.pow_succ]
    split
    · omega
    · simp; omega
theorem pow_12 {k : Nat} (h : k ≤ 12) : 2 ^ k ≤ 4096 := Nat.pow_le_pow_right (n := 2) (by omega) h
theorem infoCir : (Try.prog.info? 29).map (fun i => (i.zero, i.size, i.bytes)) = some (some (cirV (.slice none 0 0)), 1, 24) := by kernel_rfl
theorem cs_oneCell {w : World} {B : Nat} {v : Value} {us : List Value} {L : List (List Int)} (h : CsRaw w B v us L) : ∀ u ∈ us, u.oneCell' = true := fun u hu => by
  obtain ⟨i, hi, rfl⟩ := List.getElem_of_mem hu
  have hl := h.len
  have o := h.els i (by omega)
  have e : uAt us i = us[i] := by unfold uAt; rw [List.getD_eq_getElem?_getD, List.getElem?_eq_getElem hi]; rfl
  rw [e] at o
  obtain ⟨p, c, h2⟩ := own_slice o
  rw [h2]
  rfl
theorem cs_cells {w : World} {B g n cap : Nat} {us : List Value} {L : List (List Int)} (h : CsRaw w B (.slice (some ⟨g, 0, none⟩) n cap) us L) (hn : n = L.length) : ∀ j u, us[j]? = some u → w.cell? ((⟨g, 0, none⟩ : Addr).add j) = some u := fun j u hu => by
  have hj : j < us.length := by
    rcases Nat.lt_or_ge j us.length with q | q
    · exact q
    · rw [List.getElem?_eq_none q] at hu; cases hu
  have hl := h.len
  rw [add_noneC, Nat.zero_add, cs_cell h hn (by omega)]
  unfold uAt
  rw [List.getD_eq_getElem?_getD, hu]
  rfl
/-- What a call leaves. -/
def FamPost (L : List (List Int)) (w : World) (e : Ending) (w' : World) : Prop :=
  ∃ g c us, e = .returned (.slice (some ⟨g, 0, none⟩) L.length c) ∧ CsRaw w' w.heap.size (.slice (some ⟨g, 0, none⟩) L.length c) us L ∧ Below w.heap.size w w'
def FamSays (p : Int) (k : Nat) : Prop := ∀ (n : Nat) (h : List Int) (left : Int) (w : World) (b : Nat) (e : TypeId) (g cap : Nat), n = h.length → n + k = 12 → 0 ≤ left → left ≤ 12 → w.ownsRow b e 1 (.slice (some ⟨g, 0, none⟩) n cap) n (intCs h) → g < w.heap.size →
    Calls Try.prog 87 #[.int .i64 p, .slice (some ⟨g, 0, none⟩) n cap, .int .i64 left] w (FamPost (famL p k h left) w)
/-- A copy of the first parts. -/
theorem copy_n {n : Nat} {h : List Int} {w : World} {b : Nat} {e : TypeId} {g cap : Nat} (hn : n = h.length) (h12 : n ≤ 12) (o : w.ownsRow b e 1 (.slice (some ⟨g, 0, none⟩) n cap) n (intCs h)) (hg : g < w.heap.size) :
    Calls Try.prog 95 #[.slice (some ⟨g, 0, none⟩) n cap] w fun e w' => ∃ v, e = .returned v ∧ w'.ownsRow w.heap.size 3 1 v n (intCs h) ∧ Below w.heap.size w w' := by
  subst hn
  exact scopy_any w b e g cap h (by omega) o hg
theorem fam_zero {p : Int} (hp : 2 ≤ p ∧ p ≤ 12) : FamSays p 0 := by
  intro n h left w b e g cap hn hk h0 h1 o hg
  obtain rfl : n = 12 := by omega
  have t0 : (((12 : Nat) : Int) == 12) = true := by simp
  by_cases hl : 0 < left
  · have e0 : famL p 0 h left = [] := by unfold famL; rw [if_pos hl]
    rw [e0]
    have H := Lib.hid hl
    have R := Lib.hid (csRaw_nil w (Nat.le_refl _))
    clear o hg hn e0 hk
    go_enter Try.func87, Try.ntmps87
    go_wp2_with fail
    go_ret
    exact ⟨_, _, _, rfl, R.out, below_alloc1 w _⟩
  · have e0 : famL p 0 h left = [h] := by unfold famL; rw [if_neg hl]
    rw [e0]
    have C := Lib.hid (copy_n hn (by omega) o hg)
    have HN := Lib.hid hn
    clear o hg hn e0 hk
    go_enter Try.func87, Try.ntmps87
    go_wp2_with fail
    refine C.out.mono ?_
    rintro e1 w1 ⟨v, rfl, o1, b1⟩
    have hs := b1.size
    rw [HN.out] at o1
    have R := Lib.hid ((csRaw_one o1 (by rw [← HN.out]; omega) hs))
    rw [← HN.out] at o1
    have B1 := Lib.hid (b1.alloc hs (.cells #[v] 29))
    obtain ⟨q, c, rfl⟩ := own_slice o1
    clear o1 b1 hs C
    go_wp2_with fail
    go_ret
    exact ⟨_, _, _, rfl, R.out, B1.out⟩
theorem snoc_int {w : World} {B g cap n : Nat} {e : TypeId} {h : List Int} {x : Int} (o : w.ownsRow B e 1 (.slice (some ⟨g, 0, none⟩) (n + 1) cap) (n + 1) (intCs h ++ [.int .i64 x])) : w.ownsRow B e 1 (.slice (some ⟨g, 0, none⟩) (n + 1) cap) (n + 1) (intCs (h ++ [x])) := by
  rw [intCs_app]; exact o
set_option maxRecDepth 100000 in
set_option maxHeartbeats 8000000 in
theorem fam_step {p : Int} (hp : 2 ≤ p ∧ p ≤ 12) {k : Nat} (IH : FamSays p k) : FamSays p (k + 1) := by
  intro n h left w b e g cap hn hk h0 h1 o hg
  obtain ⟨i0, hif, hz0, hz1, hz2⟩ := info_parts infoInt
  obtain ⟨i1, hic, hc0, hc1, hc2⟩ := info_parts infoCir
  have t0 : ((n : Int) == 12) = false := by simp; omega
  have HI := Lib.hid IH
  have HN := Lib.hid hn
  have HO := Lib.hid o
  have HG := Lib.hid hg
  have C := Lib.hid (copy_n hn (by omega) o hg)
  obtain ⟨L1, hL1⟩ : ∃ L, L = famL p k (h ++ [0]) left := ⟨_, rfl⟩
  have len1 : L1.length ≤ 4096 := by rw [hL1]; exact Nat.le_trans (famL_len _ _ _ _) (pow_12 (by omega))
  have HL1 := Lib.hid hL1
  have HK := Lib.hid hk
  have hn11 : n ≤ 11 := by omega
  clear o hg IH hn hL1 hk
  go_enter Try.func87, Try.ntmps87
  go_wp2_with fail
  refine C.out.mono ?_
  rintro e1 w1 ⟨v1, rfl, o1, b1⟩
  have O1 := Lib.hid o1
  have B1 := Lib.hid b1
  clear o1 b1 C
  go_wp2_with (at_builtin; refine wpList_append_lies _ rfl (.tmp 20) (.tmp 21) 24 rfl w.heap.size 3 i0 (.int .i64 0) 1 8 Try.underlying24 hif hz0 hz1 hz2 rfl (by decide) _ n _ rfl (O1.out.alloc _) ⟨_, 0, none⟩ 1 1 _ rfl rfl (World.news_of_block (heap_alloc_new _ _)) (by simp [Value.oneCell']) (by decide) (by unfold maxLen; omega) (by omega) (by have := B1.out.size; simp; omega) _ rfl ?_; intro g1 cap1 w2 hown' hgrow hat hgt)
  have B2 := Lib.hid ((B1.out.alloc B1.out.size _).grown hgrow (Nat.le_trans B1.out.size (by simp)) (fun j hj => (O1.out.lt j hj).1))
  have R1 := Lib.hid (HI.out (n + 1) (h ++ [0]) left w2 _ _ g1 cap1 (by rw [List.length_append, ← HN.out]; rfl) (by have := HK.out; omega) h0 h1 (snoc_int hown') hgt)
  rw [← HL1.out] at R1
  clear hown' hgrow hat hgt O1 B1
  go_wp2_with fail
  refine R1.out.mono ?_
  rintro e3 w3 ⟨g3, c3, us3, rfl, k3, b3⟩
  have K3 := Lib.hid k3
  have S2 := Lib.hid B2.out.size
  have S3 := Lib.hid b3.size
  have B3 := Lib.hid (B2.out.trans (b3.mono B2.out.size))
  clear k3 b3 R1 B2
  by_cases hpl : p ≤ left
  · obtain ⟨L2, hL2⟩ : ∃ L, L = famL p k (h ++ [p]) (left - p) := ⟨_, rfl⟩
    have len2 : L2.length ≤ 4096 := by rw [hL2]; exact Nat.le_trans (famL_len _ _ _ _) (pow_12 (by have := HK.out; omega))
    have HE := Lib.hid (show famL p (k + 1) h left = L1 ++ L2 from by rw [HL1.out, hL2]; show _ ++ (if p ≤ left then _ else _) = _; rw [if_pos hpl])
    have HL2 := Lib.hid hL2
    have C := Lib.hid (copy_n HN.out (by omega) (own_below HO.out B3.out) (Nat.lt_of_lt_of_le HG.out B3.out.size))
    clear hL2
    go_wp2_with fail
    refine C.out.mono ?_
    rintro e4 w4 ⟨v4, rfl, o4, b4⟩
    have O4 := Lib.hid o4
    have B4 := Lib.hid b4
    clear o4 b4 C
    go_wp2_with (at_builtin; refine wpList_append_lies _ rfl (.tmp 31) (.tmp 33) 24 rfl w3.heap.size 3 i0 (.int .i64 0) 1 8 Try.underlying24 hif hz0 hz1 hz2 rfl (by decide) _ n _ rfl (O4.out.alloc _) ⟨_, 0, none⟩ 1 1 _ rfl rfl (World.news_of_block (heap_alloc_new _ _)) (by simp [Value.oneCell']) (by decide) (by unfold maxLen; omega) (by omega) (by have := B4.out.size; simp; omega) _ rfl ?_; intro g5 cap5 w5 hown' hgrow hat hgt)
    have B5 := Lib.hid ((B4.out.alloc B4.out.size _).grown hgrow (Nat.le_trans B4.out.size (by simp)) (fun j hj => (O4.out.lt j hj).1))
    have R5 := Lib.hid (HI.out (n + 1) (h ++ [p]) (left - p) w5 _ _ g5 cap5 (by rw [List.length_append, ← HN.out]; rfl) (by have := HK.out; omega) (by omega) (by omega) (snoc_int hown') hgt)
    rw [← HL2.out] at R5
    have vl : IntKind.i64.wrap (left - p) = left - p := IntWalk.i64_in _ (by omega)
    clear hown' hgrow hat hgt O4 B4
    go_wp2_with fail
    refine R5.out.mono ?_
    rintro e6 w6 ⟨g6, c6, us6, rfl, k6, b6⟩
    have K6 := Lib.hid k6
    have B6 := Lib.hid (B5.out.trans (b6.mono B5.out.size))
    have S5 := Lib.hid B5.out.size
    have K36 := Lib.hid (K3.out.below B6.out)
    clear k6 b6 R5 B5 vl
    go_wp2_with (at_builtin; refine wpList_append_own_at _ rfl (.tmp 28) (.tmp 38) 26 rfl w2.heap.size 29 i1 (cirV (.slice none 0 0)) 1 24 Try.underlying26 hic hc0 hc1 hc2 (by decide) (by decide) _ L1.length _ rfl K36.out.row ⟨g6, 0, none⟩ L2.length c6 us6 rfl (by rw [K6.out.len]; omega) (cs_cells K6.out rfl) (cs_oneCell K6.out) (by unfold maxLen; omega) (by omega) (by have := S3.out; have := B6.out.size; omega) ?_; intro v7 w7 hown' hgrow hnil hat)
    have K7 := csRaw_app K3.out B6.out K6.out S5.out S3.out hown' hgrow hat
    have hlen : (L1 ++ L2).length = L1.length + L2.length := List.length_append
    have B7 := Lib.hid ((B3.out.trans (B6.out.mono B3.out.size)).grown hgrow (Nat.le_trans B3.out.size B6.out.size) (fun j hj => by have := (K36.out.row.lt j hj).1; have := S2.out; omega))
    obtain ⟨q7, c7, hv7⟩ := own_slice hown'
    have hsome : ∃ g7, v7 = .slice (some ⟨g7, 0, none⟩) (L1.length + L2.length) c7 := by
      rcases own_shape hown' with ⟨h2, _⟩ | ⟨g7, c, h2, _⟩
      · exact absurd (hnil.1 h2).1 (fun e => by injection e with e1; cases e1)
      · rw [hv7] at h2
        simp only [Value.slice.injEq, true_and] at h2
        exact ⟨g7, by rw [hv7, h2.1]⟩
    obtain ⟨g7, rfl⟩ := hsome
    have K8 := Lib.hid (K7.base S2.out)
    clear hown' hgrow hnil hat K7 hv7
    go_wp2_with fail
    go_ret
    rw [HE.out]
    refine ⟨g7, c7, us3 ++ us6, ?_, ?_, B7.out⟩
    · show Ending.returned (Value.slice (some ⟨g7, 0, none⟩) (L1.length + L2.length) c7) = Ending.returned (Value.slice (some ⟨g7, 0, none⟩) (L1 ++ L2).length c7)
      rw [hlen]
    · rw [hlen]
      exact K8.out
  · have HE := Lib.hid (show famL p (k + 1) h left = L1 from by rw [HL1.out]; show _ ++ (if p ≤ left then _ else _) = _; rw [if_neg hpl, List.append_nil])
    go_wp2_with fail
    go_ret
    rw [HE.out]
    exact ⟨g3, c3, us3, rfl, K3.out.base S2.out, B3.out⟩
theorem fam_all {p : Int} (hp : 2 ≤ p ∧ p ≤ 12) : ∀ k, FamSays p k
  | 0 => fam_zero hp
  | k + 1 => fam_step hp (fam_all hp k)
/-- The parts that make a family. -/
def FamOk (p : Int) : Prop := (2 ≤ p ∧ p ≤ 12) ∧ (12 : Int).tmod p = 0
instance (p : Int) : Decidable (FamOk p) := by unfold FamOk; infer_instance
def famOf (p : Int) : List (List Int) := if FamOk p then famL p 12 [] 12 else []
theorem famL_each (p : Int) : ∀ k h left, ∀ x ∈ famL p k h left, x.length = h.length + k
  | 0, h, left, x, hx => by
    unfold famL at hx
    split at hx
    · simp at hx
    · simp at hx; subst hx; rfl
  | k + 1, h, left, x, hx => by
    unfold famL at hx
    rcases List.mem_append.1 hx with q | q
    · have := famL_each p k _ _ x q
      rw [List.length_append] at this
      simp at this; omega
    · split at q
      · have := famL_each p k _ _ x q
        rw [List.length_append] at this
        simp at this; omega
      · simp at q
theorem famOf_len (p : Int) : (famOf p).length ≤ 4096 := by
  unfold famOf
  split
  · exact Nat.le_trans (famL_len _ _ _ _) (pow_12 (by omega))
  · simp
theorem famOf_each (p : Int) : ∀ i, i < (famOf p).length → (lAt (famOf p) i).length = 12 := fun i hi => by
  have e : lAt (famOf p) i = (famOf p)[i] := by unfold lAt; rw [List.getD_eq_getElem?_getD, List.getElem?_eq_getElem hi]; rfl
  rw [e]
  have hm : (famOf p)[i] ∈ famOf p := List.getElem_mem hi
  generalize (famOf p)[i] = x at hm
  unfold famOf at hm
  split at hm
  · exact famL_each p 12 [] 12 x hm
  · simp at hm
theorem tmod_wrap {p : Int} (hp : 2 ≤ p ∧ p ≤ 12) : IntKind.i64.wrap ((12 : Int).tmod p) = (12 : Int).tmod p := by
  have h1 := Int.tmod_lt_of_pos (12 : Int) (show 0 < p from by omega)
  have h2 := Int.tmod_nonneg p (show (0 : Int) ≤ 12 from by omega)
  exact IntWalk.i64_in _ (by omega)
set_option maxRecDepth 100000 in
set_option maxHeartbeats 2000000 in
theorem family_spec (p : Int) (w : World) : Calls Try.prog 69 #[.int .i64 p] w (FamPost (famOf p) w) := by
  have HT := Lib.hid (inT_any p 2 12)
  by_cases hp : 2 ≤ p ∧ p ≤ 12
  · rw [decide_eq_true hp] at HT
    have v0 := tmod_wrap hp
    have h0 : ¬ p = 0 := by omega
    have h0' : (p == 0) = false := by simp; omega
    obtain ⟨r, hr⟩ : ∃ r, r = (12 : Int).tmod p := ⟨_, rfl⟩
    rw [← hr] at v0
    by_cases hz : r = 0
    · have e0 : famOf p = famL p 12 [] 12 := by unfold famOf; rw [if_pos ⟨hp, by rw [← hr]; exact hz⟩]
      rw [e0]
      have t0 : (r != 0) = false := by simp [hz]
      have F := Lib.hid (fam_all hp 12)
      have O := Lib.hid (World.ownsRow_lit (base := 0) (e := 3) (size := 1) w #[] 0 (Nat.zero_le _) (by unfold maxLen; omega) rfl)
      have HR := Lib.hid hr
      have hr' : (12 : Int).tmod p = r := hr.symm
      clear hr hz e0
      go_enter Try.func69, Try.ntmps69
      go_wp2_with fail
      refine (HT.out _).mono ?_
      rintro e1 w1 ⟨rfl, rfl⟩
      go_wp2_with fail
      refine (F.out 0 [] 12 _ _ _ _ _ rfl rfl (by omega) (by omega) O.out (by simp)).mono ?_
      rintro e2 w2 ⟨g, c, us, rfl, k2, b2⟩
      have K2 := Lib.hid (k2.base (B' := w.heap.size) (by simp))
      have B2 := Lib.hid ((below_alloc1 w (.cells #[] 3)).trans (b2.mono (by simp)))
      clear k2 b2
      go_wp2_with fail
      go_ret
      exact ⟨_, _, _, rfl, K2.out, B2.out⟩
    · have e0 : famOf p = [] := by unfold famOf; rw [if_neg (fun h => hz (by rw [hr]; exact h.2))]
      rw [e0]
      have t0 : (r != 0) = true := by simp [hz]
      have hr' : (12 : Int).tmod p = r := hr.symm
      have R := Lib.hid (csRaw_nil w (Nat.le_refl _))
      clear hr hz e0
      go_enter Try.func69, Try.ntmps69
      go_wp2_with fail
      refine (HT.out _).mono ?_
      rintro e1 w1 ⟨rfl, rfl⟩
      go_wp2_with fail
      go_ret
      exact ⟨_, _, _, rfl, R.out, below_alloc1 w _⟩
  · rw [decide_eq_false hp] at HT
    have e0 : famOf p = [] := by unfold famOf; rw [if_neg (fun h => hp h.1)]
    rw [e0]
    have R := Lib.hid (csRaw_nil w (Nat.le_refl _))
    clear e0 hp
    go_enter Try.func69, Try.ntmps69
    go_wp2_with fail
    refine (HT.out _).mono ?_
    rintro e1 w1 ⟨rfl, rfl⟩
    go_wp2_with fail
    go_ret
    exact ⟨_, _, _, rfl, R.out, below_alloc1 w _⟩
/-- The program's FamilyOf answers as the model's; a row of no circles may be nil. -/
def FamImpl : Prop := ∀ (p : Int) (w : World), Calls Try.prog 15 #[.int .i64 p] w fun e w' => ∃ v us, e = .returned v ∧ CsRaw w' w.heap.size v us (famOf p) ∧ Below w.heap.size w w'
end Go.Proofs.Ytohfepcdgbgojab
