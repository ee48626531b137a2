/- The circles of a family as the program makes them: contracts of math/bits.OnesCount, impl.isFamilyPart and impl.chosenCircle. -/
import Derived.Test.YtohfepcdgbgojabSFamily
import Derived.WalkSmall
namespace Go.Proofs.Ytohfepcdgbgojab
open Go.RowKit Go.Joins
set_option linter.unusedVariables false
/-- The steps of the count of ones. -/
def one1 (x : Int) : Int := IntKind.u64.wrap (bits BinOp.and IntKind.u64 (x / 2) 6148914691236517205 + bits BinOp.and IntKind.u64 x 6148914691236517205)
def one2 (x : Int) : Int := IntKind.u64.wrap (bits BinOp.and IntKind.u64 (x / 4) 3689348814741910323 + bits BinOp.and IntKind.u64 x 3689348814741910323)
def one3 (x : Int) : Int := bits BinOp.and IntKind.u64 (IntKind.u64.wrap (x / 16 + x)) 1085102592571150095
def oneN (d x : Int) : Int := IntKind.u64.wrap (x + x / d)
def onesF (x : Int) : Int := bits BinOp.and IntKind.i64 (wrap64 (oneN 4294967296 (oneN 65536 (oneN 256 (one3 (one2 (one1 x))))))) 127
set_option maxRecDepth 100000 in
set_option maxHeartbeats 2000000 in
theorem ones64_any (x : Int) (w : World) : Calls Try.prog 90 #[.int .u64 x] w fun e w' => e = .returned (.int .i64 (onesF x)) ∧ w = w' := by
  obtain ⟨x1, h1⟩ : ∃ y, y = one1 x := ⟨_, rfl⟩
  obtain ⟨x2, h2⟩ : ∃ y, y = one2 x1 := ⟨_, rfl⟩
  obtain ⟨x3, h3⟩ : ∃ y, y = one3 x2 := ⟨_, rfl⟩
  obtain ⟨x4, h4⟩ : ∃ y, y = oneN 256 x3 := ⟨_, rfl⟩
  obtain ⟨x5, h5⟩ : ∃ y, y = oneN 65536 x4 := ⟨_, rfl⟩
  obtain ⟨x6, h6⟩ : ∃ y, y = oneN 4294967296 x5 := ⟨_, rfl⟩
  have HE := Lib.hid (show onesF x = bits BinOp.and IntKind.i64 (wrap64 x6) 127 from by rw [h6, h5, h4, h3, h2, h1]; rfl)
  unfold one1 at h1
  unfold one2 at h2
  unfold one3 at h3
  unfold oneN at h4 h5 h6
  have H1 := Lib.hid h1
  have H2 := Lib.hid h2
  have H3 := Lib.hid h3
  have H4 := Lib.hid h4
  have H5 := Lib.hid h5
  have H6 := Lib.hid h6
  clear h1 h2 h3 h4 h5 h6
  go_enter Try.func90, Try.ntmps90
  go_upto_region 2 with fail
  rw [← H1.out]
  go_upto_region 3 with fail
  rw [← H2.out]
  go_upto_region 4 with fail
  rw [← H3.out]
  go_upto_region 5 with fail
  rw [← H4.out]
  go_upto_region 6 with fail
  rw [← H5.out]
  go_upto_region 7 with fail
  rw [← H6.out]
  go_wp2_with fail
  go_ret
  exact ⟨ret_int HE.out.symm, rfl⟩
theorem ones_any (x : Int) (w : World) : Calls Try.prog 81 #[.int .u64 x] w fun e w' => e = .returned (.int .i64 (onesF x)) ∧ w = w' := by
  have C := Lib.hid (ones64_any x)
  go_enter Try.func81, Try.ntmps81
  go_wp2_with fail
  refine (C.out _).mono ?_
  rintro e w1 ⟨rfl, rfl⟩
  go_wp2_with fail
  go_ret
  exact ⟨rfl, rfl⟩
theorem famOk_iff (p : Int) : FamOk p ↔ p = 2 ∨ p = 3 ∨ p = 4 ∨ p = 6 ∨ p = 12 := by
  constructor
  · rintro ⟨⟨h1, h2⟩, h⟩
    rcases (show p = 2 ∨ p = 3 ∨ p = 4 ∨ p = 5 ∨ p = 6 ∨ p = 7 ∨ p = 8 ∨ p = 9 ∨ p = 10 ∨ p = 11 ∨ p = 12 from by omega) with rfl | rfl | rfl | rfl | rfl | rfl | rfl | rfl | rfl | rfl | rfl <;> first | (exfalso; revert h; decide) | omega
  · rintro (rfl | rfl | rfl | rfl | rfl) <;> decide
set_option maxRecDepth 100000 in
set_option maxHeartbeats 2000000 in
theorem family_any (n : Int) (w : World) : Calls Try.prog 80 #[.int .i64 n] w fun e w' => e = .returned (.bool (decide (FamOk n))) ∧ w = w' := by
  by_cases h : FamOk n
  · have HY := Lib.hid (decide_eq_true h)
    rcases (famOk_iff n).1 h with rfl | rfl | rfl | rfl | rfl <;>
    · clear h
      go_enter Try.func80, Try.ntmps80
      go_wp2
      go_ret
      exact ⟨ret_boolT HY.out.symm, rfl⟩
  · have HY := Lib.hid (decide_eq_false h)
    have q : n ≠ 2 ∧ n ≠ 3 ∧ n ≠ 4 ∧ n ≠ 6 ∧ n ≠ 12 := ⟨fun e => h ((famOk_iff n).2 (by omega)), fun e => h ((famOk_iff n).2 (by omega)), fun e => h ((famOk_iff n).2 (by omega)), fun e => h ((famOk_iff n).2 (by omega)), fun e => h ((famOk_iff n).2 (by omega))⟩
    obtain ⟨q1, q2, q3, q4, q5⟩ := q
    have t1 : (n == 2) = false := by simpa using q1
    have t2 : (n == 3) = false := by simpa using q2
    have t3 : (n == 4) = false := by simpa using q3
    have t4 : (n == 6) = false := by simpa using q4
    have t5 : (n == 12) = false := by simpa using q5
    clear h q1 q2 q3 q4 q5
    go_enter Try.func80, Try.ntmps80
    go_wp2
    go_ret
    exact ⟨ret_boolT HY.out.symm, rfl⟩
/-- The bit of a choice for a place, and the first k parts. -/
def bitOf (c i : Nat) : Nat := c / 2 ^ (11 - i) % 2
def choL (p : Int) (c k : Nat) : List Int := (List.range k).map fun i => (bitOf c i : Int) * p
theorem cho_len (p : Int) (c k : Nat) : (choL p c k).length = k := by simp [choL]
theorem cho_succ (p : Int) (c k : Nat) : choL p c (k + 1) = choL p c k ++ [(bitOf c k : Int) * p] := by simp [choL, List.range_succ]
theorem cho_set (p : Int) (c k : Nat) (hk : k < 12) : (intCs (choL p c k ++ List.replicate (12 - k) 0)).set k (.int .i64 ((bitOf c k : Int) * p)) = intCs (choL p c (k + 1) ++ List.replicate (12 - (k + 1)) 0) := by
  obtain ⟨m, hm⟩ : ∃ m, 12 - k = m + 1 := ⟨11 - k, by omega⟩
  rw [hm, show 12 - (k + 1) = m from by omega, cho_succ, List.replicate_succ]
  have hl := cho_len p c k
  unfold intCs
  rw [List.map_append, List.set_append_right _ _ (by rw [List.length_map, hl]; omega), List.length_map, hl, Nat.sub_self]
  simp
theorem bit_le (c k : Nat) : bitOf c k ≤ 1 := by unfold bitOf; omega
theorem bit_val (c k : Nat) (hc : c < 4096) : bits BinOp.and IntKind.u64 ((c : Int) / 2 ^ (11 - k)) 1 = (bitOf c k : Int) := by
  have e : (c : Int) / 2 ^ (11 - k) = ((c / 2 ^ (11 - k) : Nat) : Int) := by simp
  have h : c / 2 ^ (11 - k) ≤ c := Nat.div_le_self _ _
  rw [e]
  unfold bitOf
  generalize c / 2 ^ (11 - k) = d at h
  rw [and_one_u64 _ (by omega) (by omega)]
  omega
theorem bit_wrap {z p : Int} (hz : 0 ≤ z ∧ z ≤ 1) (hp : 2 ≤ p ∧ p ≤ 12) : wrap64 (z * p) = z * p := by
  obtain ⟨d, hd⟩ : ∃ d, d = z * p := ⟨_, rfl⟩
  have h : 0 ≤ d ∧ d ≤ 12 := by
    rcases (show z = 0 ∨ z = 1 from by omega) with rfl | rfl
    · rw [hd]; omega
    · rw [hd]; omega
  rw [← hd]
  unfold wrap64
  omega
set_option maxRecDepth 100000 in
set_option maxHeartbeats 2000000 in
theorem chosen_any (p : Int) (hp : 2 ≤ p ∧ p ≤ 12) (c : Nat) (hc : c < 4096) (w : World) : Calls Try.prog 82 #[.int .u64 (c : Int), .int .i64 p] w (CirPost (choL p c 12) w) := by
  obtain ⟨i0, hif, hz0, hz1, hz2⟩ := info_parts infoInt
  obtain ⟨x, hx⟩ : ∃ x : Int, x = (c : Int) := ⟨_, rfl⟩
  have HX := Lib.hid hx
  rw [← hx]
  have B0 := Lib.hid (below_alloc1 w (.cells #[.slice none 0 0] 29))
  have Z0 := Lib.hid (one_alloc (w := w) (v := .slice none 0 0) (t := 29))
  go_enter Try.func82, Try.ntmps82
  go_upto_region 1 with fail
  obtain ⟨W0, hW⟩ : ∃ W, W = w.alloc (.cells #[.slice none 0 0] 29) := ⟨_, rfl⟩
  obtain ⟨m, hm⟩ : ∃ m, m = w.heap.size := ⟨_, rfl⟩
  have hmw : W0.heap.size = m + 1 := by rw [hW, hm]; simp
  rw [← hW] at B0 Z0 ⊢
  rw [← hm] at Z0 ⊢
  have HM := Lib.hid hm
  have HMW := Lib.hid hmw
  clear hW hx hm hmw
  go_upto_region 2 with (at_make; refine wpList_make_full _ rfl _ _ 24 rfl W0.heap.size 3 i0 (.int .i64 0) 1 Try.underlying24 hif hz0 hz1 _ _ _ _ 12 rfl rfl rfl rfl (by rw [hz2]; omega) (by unfold maxLen; omega) (Nat.le_refl _) ?_; intro w2 hown1 hgrow1)
  have b2 : Below W0.heap.size W0 w2 := (Below.refl W0.heap.size W0).grown hgrow1 (Nat.le_refl _) (by simp)
  have O2 : Hid (w2.ownsRow W0.heap.size 3 1 (.slice (some ⟨W0.heap.size, 0, none⟩) 12 12) 12 (intCs (choL p c 0 ++ List.replicate (12 - 0) 0))) := Lib.hid (by simpa [choL, intCs, toList_madeCells_one, Value.cells] using hown1)
  have B2 := Lib.hid b2
  obtain ⟨g, hg⟩ : ∃ g, g = W0.heap.size := ⟨_, rfl⟩
  rw [← hg] at O2 ⊢
  rw [← hg] at B2 HMW
  clear hown1 hgrow1 b2 hz0 hz1 hz2 hif i0
  have HG := Lib.hid hg
  clear hg
  go_wp2_with fail
  go_loopw [11] (fun i wr => ∃ k : Nat, k ≤ 12 ∧ i = .int .i64 (k : Int) ∧ Hid (wr.ownsRow g 3 1 (.slice (some ⟨g, 0, none⟩) 12 12) 12 (intCs (choL p c k ++ List.replicate (12 - k) 0))) ∧ Hid (Below g w2 wr)) (fun i _ => 12 - (intOf i).toNat)
  case atStart => exact ⟨0, Nat.zero_le _, by go_num, O2, Lib.hid (Below.refl _ _)⟩
  case round =>
    obtain ⟨k, hk, rfl, HO, HB⟩ := hrel
    by_cases hlt : k < 12
    · have q3 : (k : Int) < 12 := by omega
      have q1 := own_icell HO.out k hlt
      have q2 := HO.out.frozenAt k
      go_upto_region 6 with fail
      obtain ⟨z, hz⟩ : ∃ z, z = bits BinOp.and IntKind.u64 (x / 2 ^ (11 - k)) 1 := ⟨_, rfl⟩
      have hz2 : z = (bitOf c k : Int) := by rw [hz, HX.out]; exact bit_val c k hc
      have hz3 : 0 ≤ z ∧ z ≤ 1 := by rw [hz2]; have := bit_le c k; omega
      rw [← hz]
      have t0 : wrap64 (z * p) = z * p := bit_wrap hz3 hp
      have R1 := (HO.out.stored k (.int .i64 ((bitOf c k : Int) * p))).1
      rw [cho_set p c k hlt, ← hz2] at R1
      have HR := Lib.hid R1
      have HB2 : Hid (Below g w2 (wr.setCell ⟨g, k, none⟩ (.int .i64 (z * p)))) := Lib.hid (HB.out.setCell (p := ⟨g, k, none⟩) (Nat.le_refl _) _)
      generalize (choL p c k ++ List.replicate (12 - k) 0).getD k 0 = y at q1
      clear hz hz2 R1 HO HB
      go_wp2_with fail
      go_roundw
      case rel => exact ⟨k + 1, by omega, by go_num, HR, HB2⟩
      case measure => simp [intOf]; omega
    · have q3 : ¬ (k : Int) < 12 := by omega
      obtain rfl : k = 12 := by omega
      have BB : Below W0.heap.size W0 wr := by rw [← HG.out]; exact B2.out.trans HB.out
      have Z4 := Lib.hid (one_keep BB Z0.out)
      have hgm : g ≠ m := by have := HMW.out; omega
      obtain ⟨_, x0, xf⟩ := Z4.out
      obtain ⟨_, x1, _⟩ := one_set (u := .slice (some ⟨g, 0, none⟩) 12 12) Z4.out
      have BW := Lib.hid (B0.out.trans (BB.mono B0.out.size))
      have O5 : Hid ((wr.setCell ⟨m, 0, none⟩ (.slice (some ⟨g, 0, none⟩) 12 12)).ownsRow g 3 1 (.slice (some ⟨g, 0, none⟩) 12 12) 12 (intCs (choL p c 12))) :=
        Lib.hid (ownsRow_setCell_below (by simpa using HO.out) (a := ⟨m, 0, none⟩) (by have := HMW.out; simp only; omega) (.slice (some ⟨g, 0, none⟩) 12 12))
      have B5 := Lib.hid (BW.out.setCell (p := ⟨m, 0, none⟩) (by have := HM.out; simp only; omega) (.slice (some ⟨g, 0, none⟩) 12 12))
      clear HO BB Z4 HB BW
      go_wp2_with fail
      refine bodyPost_ret (v := cirV (.slice (some ⟨g, 0, none⟩) 12 12)) (by simp [results, Try.results82, go_sem, x1]) rfl ⟨_, rfl, ?_, B5.out⟩
      rw [cho_len]
      exact own_base O5.out (by have := HMW.out; have := HM.out; omega)
end Go.Proofs.Ytohfepcdgbgojab
/- The family of a part is what the choices of twelve bits make of it, in their order (by the kernel). -/
namespace Go.Proofs.Ytohfepcdgbgojab
open Go.RowKit Go.Joins
set_option linter.unusedVariables false
/-- The ones of a choice, and the family as the choices make it. -/
def popC (c : Nat) : Nat := (List.range 12).foldl (fun s i => s + c / 2 ^ i % 2) 0
def onesChk (c : Nat) : Bool := decide (onesF (c : Int) = (popC c : Int)) && decide (popC c ≤ 12)
theorem ones_chk : (List.range 4096).all onesChk = true := by decide +kernel
theorem ones_pop {c : Nat} (hc : c < 4096) : onesF (c : Int) = (popC c : Int) ∧ popC c ≤ 12 := by
  have h := List.all_eq_true.1 ones_chk c (List.mem_range.2 hc)
  unfold onesChk at h
  simp only [Bool.and_eq_true, decide_eq_true_eq] at h
  exact h
/-- Whether a choice is taken, and the circles of the first n choices. -/
def takenC (p : Int) (c : Nat) : Bool := (popC c : Int) * p == 12
def oneC (p : Int) (c : Nat) : List (List Int) := if takenC p c = true then [choL p c 12] else []
def chosR (p : Int) (a : Nat) : Nat → List (List Int)
  | 0 => []
  | n + 1 => chosR p a n ++ oneC p (a + n)
theorem chosR_add (p : Int) (a n : Nat) : ∀ m, chosR p a (n + m) = chosR p a n ++ chosR p (a + n) m
  | 0 => by simp [chosR]
  | m + 1 => by
    show chosR p a (n + m) ++ oneC p (a + (n + m)) = chosR p a n ++ (chosR p (a + n) m ++ oneC p (a + n + m))
    rw [chosR_add p a n m, List.append_assoc, Nat.add_assoc]
def chosB (p : Int) : Nat → Nat → List (List Int)
  | 0, c => oneC p c
  | k + 1, c => chosB p k (2 * c) ++ chosB p k (2 * c + 1)
theorem chosB_eq (p : Int) : ∀ k c, chosB p k c = chosR p (c * 2 ^ k) (2 ^ k)
  | 0, c => by simp [chosB, chosR]
  | k + 1, c => by
    unfold chosB
    rw [chosB_eq p k (2 * c), chosB_eq p k (2 * c + 1), Nat.pow_succ, show 2 ^ k * 2 = 2 ^ k + 2 ^ k from by omega, chosR_add]
    rw [show 2 * c * 2 ^ k = c * (2 ^ k + 2 ^ k) from by rw [Nat.mul_add, Nat.mul_comm 2 c, Nat.mul_assoc, Nat.two_mul, Nat.mul_add], show (2 * c + 1) * 2 ^ k = c * (2 ^ k + 2 ^ k) + 2 ^ k from by rw [Nat.add_mul, Nat.one_mul, Nat.mul_comm 2 c, Nat.mul_assoc, Nat.two_mul]]
def chosL (p : Int) (n : Nat) : List (List Int) := chosR p 0 n
theorem chos_fam (p : Int) (hp : FamOk p) : chosL p 4096 = famOf p := by
  have e : famOf p = famL p 12 [] 12 := by unfold famOf; rw [if_pos hp]
  have b := chosB_eq p 12 0
  unfold chosL
  rw [e, show (4096 : Nat) = 2 ^ 12 from rfl, ← Nat.zero_mul (2 ^ 12), ← b]
  clear e b
  rcases (famOk_iff p).1 hp with rfl | rfl | rfl | rfl | rfl <;> clear hp <;> decide +kernel
end Go.Proofs.Ytohfepcdgbgojab
