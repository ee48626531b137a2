/- What laws.FnHidden calls, told without a look inside. -/
import Derived.Test.YtfhefakacjkmiaaDoorSharedSay
import Derived.Test.YtfhefakacjkmiaaDoorDivHide
import Derived.Test.YtfhefakacjkmiaaDoorHidComs
import Derived.Test.YtfhefakacjkmiaaDoorConImpl
import Derived.Test.YtfhefakacjkmiaaDoorHasInts
namespace Go.Proofs.YtfhefakacjkmiaaDoor
open Go.RowKit Go.Joins
set_option linter.unusedVariables false
/-- The division into twelve. -/
theorem best12 : ∃ c, BestAt 12 12 19 c ∧ c = 28 := by
  obtain ⟨a, b, c, hb⟩ := bestAt_ex 12
  have hi := best_chk 11 (by decide)
  unfold bestChk at hi
  simp only [Bool.and_eq_true] at hi
  have e := (best_okM hb (by omega)).1
  subst e
  have hb' := hb
  rcases hb' with ⟨_, _, ⟨_, h1⟩, _, h2⟩ | ⟨h0, _⟩
  · have e1 := nearB_is h1 hi.1
    have e2 := nearB_is h2 hi.2
    have e3 : (bestT 11).1 = 19 := by decide
    have e4 : (bestT 11).2 = 28 := by decide
    rw [e3] at e1
    rw [e4] at e2
    subst e1
    exact ⟨c, hb, e2⟩
  · exact absurd ⟨by omega, by omega⟩ (of_decide_eq_false h0)
theorem best_twelve : BestAt 12 12 19 28 := by
  obtain ⟨c, h, rfl⟩ := best12
  exact h
/-- Where the best map is known, so is what it hides. -/
theorem best_one {n a b c a' b' c' : Int} (h : BestAt n a b c) (k : BestAt n a' b' c') : a = a' ∧ b = b' ∧ c = c' := by
  rcases h with ⟨_, h0, ⟨_, h1⟩, _, h2⟩ | ⟨hx, h0, h1, h2⟩ <;> rcases k with ⟨_, k0, ⟨_, k1⟩, _, k2⟩ | ⟨kx, k0, k1, k2⟩
  · exact ⟨h0.trans k0.symm, near_one h1 k1, near_one h2 k2⟩
  · simp_all
  · simp_all
  · exact ⟨h0.trans k0.symm, h1.trans k1.symm, h2.trans k2.symm⟩
theorem hidesAt_val {a b c t h f : Int} {y : Bool} (hm : okM a b c = true) (hi : okI t h f 1 = true) (H : HidesAt a b c t h f 1 y) : y = (a * t + b * h + c * f == 0) := by
  obtain ⟨z, u, hst, hy⟩ := H
  rcases hst with ⟨_, _, _, ⟨p, q, r, hp⟩, rfl⟩ | ⟨h1, _⟩ | ⟨_, h1, _⟩ | ⟨_, _, h1, _⟩
  · rw [hy, hp.z0, ← hp.p0, ← hp.q0, ← hp.r0]; rfl
  · rw [hm] at h1; cases h1
  · rw [hi] at h1; cases h1
  · exact absurd rfl h1
theorem mem_divTo {p : Int → Bool} {x : Int} : ∀ k, x ∈ divTo p k ↔ 1 ≤ x ∧ x ≤ (k : Int) ∧ p x = true
  | 0 => by
    constructor
    · intro h; cases h
    · intro h; exfalso; have := h.1; have := h.2.1; omega
  | k + 1 => by
    have ih := mem_divTo (p := p) (x := x) k
    cases hk : p ((k : Int) + 1)
    · rw [divTo_no hk, ih]
      constructor
      · intro h; exact ⟨h.1, by omega, h.2.2⟩
      · intro h
        refine ⟨h.1, ?_, h.2.2⟩
        rcases (show x ≤ (k : Int) ∨ x = (k : Int) + 1 from by omega) with q | q
        · exact q
        · rw [q, hk] at h; cases h.2.2
    · rw [divTo_yes hk, List.mem_append, ih]
      constructor
      · intro h
        rcases h with h | h
        · exact ⟨h.1, by omega, h.2.2⟩
        · have e : x = (k : Int) + 1 := by simpa using h
          exact ⟨by omega, by omega, by rw [e]; exact hk⟩
      · intro h
        rcases (show x ≤ (k : Int) ∨ x = (k : Int) + 1 from by omega) with q | q
        · exact .inl ⟨h.1, q, h.2.2⟩
        · exact .inr (by rw [q]; simp)
/-- The commas within 4 that twelve hides. -/
def hid4 : List Iv := [⟨11, -4, -2, 1⟩, ⟨7, 0, -3, 1⟩, ⟨3, 4, -4, 1⟩, ⟨-4, 4, -1, 1⟩]
def hidQ (x : Iv) : Bool := 12 * x.two + 19 * x.three + 28 * x.five == 0
theorem com4_ok : ∀ k, k < 6 → (okI (ivAt (comTo 4 9) k).two (ivAt (comTo 4 9) k).three (ivAt (comTo 4 9) k).five 1 && ((ivAt (comTo 4 9) k).root == 1)) = true := by decide +kernel
def nums (x : Iv) : List Int := [x.two, x.three, x.five, x.root]
theorem nums_inj {x y : Iv} (h : nums x = nums y) : x = y := by
  cases x; cases y
  simp only [nums, List.cons.injEq, and_true] at h
  obtain ⟨rfl, rfl, rfl, rfl⟩ := h
  rfl
theorem com4_num : (((comTo 4 9).filter hidQ).map nums) = hid4.map nums := by decide +kernel
theorem map_inj {α β : Type} {g : α → β} (hg : ∀ x y, g x = g y → x = y) : ∀ {l m : List α}, l.map g = m.map g → l = m
  | [], [], _ => rfl
  | [], y :: m, h => by simp at h
  | x :: l, [], h => by simp at h
  | x :: l, y :: m, h => by
    simp only [List.map_cons, List.cons.injEq] at h
    rw [hg x y h.1, map_inj hg h.2]
theorem com4_hid : (comTo 4 9).filter hidQ = hid4 := map_inj (fun _ _ => nums_inj) com4_num
theorem ok12 : okM 12 19 28 = true := by decide
theorem hid_four {p : Iv → Bool} (hp : HidP 12 19 28 p) : (comList 4).filter p = hid4 := by
  have e : comList 4 = comTo 4 9 := comList_yes (L := 4) (by decide)
  rw [e, ← com4_hid]
  refine List.filter_congr fun x hx => ?_
  obtain ⟨j, hj, ej⟩ := List.getElem_of_mem hx
  have hl := com4_len
  have hx2 : ivAt (comTo 4 9) j = x := by unfold ivAt; rw [List.getD, List.getElem?_eq_getElem hj]; exact ej
  have k := com4_ok j (by omega)
  rw [hx2] at k
  simp only [Bool.and_eq_true, beq_iff_eq] at k
  have hh := hp x
  rw [k.2] at hh
  exact hidesAt_val ok12 k.1 hh
/-- Hides, of a map and an interval. -/
def HidQ (a b c t h f : Int) (z : Bool) : Prop := ∀ w, Calls Tryd.prog 13 #[mapV a b c, ivV t h f 1] w fun e w' => e = .returned (.bool z) ∧ Below w.heap.size w w'
theorem hidQ_run {a b c t h f : Int} {z : Bool} (hq : HidQ a b c t h f z) (w : World) : Calls Tryd.prog 13 #[mapV a b c, ivV t h f 1] w fun e w' => e = .returned (.bool z) ∧ Below w.heap.size w w' := hq w
/-- has, of a row and a number, behind the world V. -/
def HasQ (V : World) (v : Value) (n : Int) (z : Bool) : Prop := ∀ w, Below V.heap.size V w → Calls Tryd.prog 20 #[v, .int .i64 n] w fun e w' => e = .returned (.bool z) ∧ Below w.heap.size w w'
theorem hasQ_run {V : World} {v : Value} {n : Int} {z : Bool} (hq : HasQ V v n z) {w : World} (hb : Below V.heap.size V w) : Calls Tryd.prog 20 #[v, .int .i64 n] w fun e w' => e = .returned (.bool z) ∧ Below V.heap.size V w' := calls_fromF hb (hq w hb)
theorem hasQ_mk {V : World} {B : Nat} {v : Value} {xs : List Int} {n : Int} {z : Bool} (hl : xs.length ≤ 40) (ho : V.ownsRow B 3 1 v xs.length (intCs xs)) (hz : decide (n ∈ xs) = z) : HasQ V v n z := fun w hb => by
  have k := has_any w B 3 v xs n (by omega) (own_below ho hb)
  rw [hz] at k
  exact k
/-- What the law's calls answer. -/
structure HidSay (A : Addr) (k n t h f a b c : Int) (xs : List Int) (z : Bool) : Prop where
  m12 : ∀ w, Calls Tryd.prog 15 #[.int .i64 12] w fun e w' => e = .returned (mapV 12 19 28) ∧ Below w.heap.size w w'
  com : ∀ w, Calls Tryd.prog 18 #[.int .i64 k] w fun e w' => e = .returned (ivV t h f 1) ∧ Below w.heap.size w w'
  div : ∀ w, Calls Tryd.prog 17 #[ivV t h f 1, .int .i64 20] w (OwnPost 3 xs w)
  hid : ∀ w, SenAt A w → Calls Tryd.prog 19 #[mapV 12 19 28, .int .i64 4] w fun e w' => (∃ v, e = .returned v ∧ OwnC w.heap.size v hid4 w') ∧ Below w.heap.size w w'
  q1 : HidQ 12 19 28 t h f true
  len : xs.length ≤ 40
  i12 : decide (12 ∈ xs) = true
  inn : decide (n ∈ xs) = z
  bm : ∀ w, Calls Tryd.prog 15 #[.int .i64 n] w fun e w' => e = .returned (mapV a b c) ∧ Below w.heap.size w w'
  q2 : HidQ a b c t h f z
  con : ∀ w, Calls Tryd.prog 21 #[mapV 12 19 28] w fun e w' => e = .returned (.bool true) ∧ Below w.heap.size w w'
theorem com_of_six {j : Nat} (h1 : 1 ≤ j) (h2 : j ≤ 6) : ∃ a b c L, ComAt (j : Int) a b c 1 L ∧ okI a b c 1 = true ∧ 12 * a + 19 * b + 28 * c = 0 := by
  rcases (show j = 1 ∨ j = 2 ∨ j = 3 ∨ j = 4 ∨ j = 5 ∨ j = 6 by omega) with rfl | rfl | rfl | rfl | rfl | rfl
  · exact ⟨_, _, _, _, .inl ⟨rfl, rfl, rfl, rfl, rfl, rfl⟩, by decide, by decide⟩
  · exact ⟨_, _, _, _, .inr (.inl ⟨rfl, rfl, rfl, rfl, rfl, rfl⟩), by decide, by decide⟩
  · exact ⟨_, _, _, _, .inr (.inr (.inl ⟨rfl, rfl, rfl, rfl, rfl, rfl⟩)), by decide, by decide⟩
  · exact ⟨_, _, _, _, .inr (.inr (.inr (.inl ⟨rfl, rfl, rfl, rfl, rfl, rfl⟩))), by decide, by decide⟩
  · exact ⟨_, _, _, _, .inr (.inr (.inr (.inr (.inl ⟨rfl, rfl, rfl, rfl, rfl, rfl⟩)))), by decide, by decide⟩
  · exact ⟨_, _, _, _, .inr (.inr (.inr (.inr (.inr (.inl ⟨rfl, rfl, rfl, rfl, rfl, rfl⟩))))), by decide, by decide⟩
theorem con12 {z : Bool} (h : ConAt 12 19 28 z) : z = true := by
  rcases h with ⟨_, K, _, hk, hz⟩ | ⟨hx, _⟩
  · have e := nearB_is (k := 9) hk (by decide +kernel)
    rw [hz, e]
    decide
  · rw [ok12] at hx; cases hx
theorem hidSay_ex (A : Addr) {j : Nat} {n : Int} (h1 : 1 ≤ j) (h2 : j ≤ 6) (n1 : 1 ≤ n) (n2 : n ≤ 20) : ∃ t h f a b c xs z, HidSay A (j : Int) n t h f a b c xs z := by
  obtain ⟨t, h, f, L, hc, hi, hz⟩ := com_of_six h1 h2
  obtain ⟨p, hp⟩ := hideN_pick t h f 1
  obtain ⟨a, b, c, hb, hh⟩ := hp n
  obtain ⟨q, hq⟩ := hidP_ex 12 19 28
  obtain ⟨y, hy⟩ := conAt_ex 12 19 28
  have hpure : pure9 t h f 1 = true := by unfold pure9; rw [hi]; rfl
  have hd : DivAt t h f 1 20 (divTo p 20) := .inl ⟨hpure, by omega, p, hp, rfl⟩
  refine ⟨t, h, f, a, b, c, divTo p 20, p n, fun w => best_impl best_twelve w, fun w => comma_impl hc w, fun w => div_impl hd w, fun w hs => ?_, fun w => hides_yes ok12 hi hz w, divAt_len hd, ?_, ?_, fun w => best_impl hb w, fun w => hides_impl hh w, fun w => ?_⟩
  · have k := hidden_impl A hq 4 w hs
    unfold HidAt at k
    rw [hid_four hq] at k
    exact k
  · refine decide_eq_true ((mem_divTo 20).2 ⟨by omega, by omega, ?_⟩)
    obtain ⟨a', b', c', hb', hh'⟩ := hp 12
    obtain ⟨rfl, rfl, rfl⟩ := best_one hb' best_twelve
    rw [hidesAt_val ok12 hi hh', hz]
    rfl
  · cases hv : p n
    · exact decide_eq_false (fun hm => by rw [((mem_divTo 20).1 hm).2.2] at hv; cases hv)
    · exact decide_eq_true ((mem_divTo 20).2 ⟨n1, by omega, hv⟩)
  · have k := con_impl hy w
    rw [con12 hy] at k
    exact k
end Go.Proofs.YtfhefakacjkmiaaDoor
