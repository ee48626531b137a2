/- Contract of impl.ConflictOf: the strictest wish for a key, the sum of the three of a group. -/
import Derived.Test.YtohfepcdgbgojabWishesLaw
import Derived.Test.YtohfepcdgbgojabMeetsImpl
import Derived.Test.YtohfepcdgbgojabToneWalks
namespace Go.Proofs.Ytohfepcdgbgojab
open Go.RowKit Go.Joins
set_option linter.unusedVariables false
/-- The strictest of the first n wishes for a key, if there is one. -/
def StrictAt (ws : List Wi) (key : Int) (n : Nat) (s : Int) (f : Bool) : Prop :=
  ((-1000 ≤ s ∧ s ≤ 1000) ∧ (f = false → s = -1000)) ∧ (∀ j, j < n → (wiAt ws j).key = key → clampK (wiAt ws j).least ≤ s ∧ f = true) ∧ (f = true → ∃ j, j < n ∧ (wiAt ws j).key = key ∧ s = clampK (wiAt ws j).least)
def StrictPost (ws : List Wi) (key : Int) (n : Nat) (w : World) (en : Ending) (w' : World) : Prop := ∃ s f, en = .returned (.tuple #[.int .i64 s, .bool f]) ∧ StrictAt ws key n s f ∧ Below w.heap.size w w'
theorem strict_zero (ws : List Wi) (key : Int) : StrictAt ws key 0 (-1000) false := ⟨⟨by omega, fun _ => rfl⟩, fun j hj => by omega, fun h => by cases h⟩
theorem strict_other {ws : List Wi} {key : Int} {n : Nat} {s : Int} {f : Bool} (h : StrictAt ws key n s f) (hn : (wiAt ws n).key ≠ key) : StrictAt ws key (n + 1) s f := by
  obtain ⟨h1, h2, h3⟩ := h
  refine ⟨h1, fun j hj hk => (show j < n ∨ j = n from by omega).elim (fun q => h2 j q hk) (fun q => absurd hk (q ▸ hn)), fun hf => ?_⟩
  obtain ⟨j, hj, hk, hs⟩ := h3 hf
  exact ⟨j, by omega, hk, hs⟩
theorem strict_this {ws : List Wi} {key : Int} {n : Nat} {s : Int} {f : Bool} (h : StrictAt ws key n s f) (hn : (wiAt ws n).key = key) : StrictAt ws key (n + 1) (max s (clampK (wiAt ws n).least)) true := by
  obtain ⟨h1, h2, h3⟩ := h
  have hc : -1000 ≤ clampK (wiAt ws n).least ∧ clampK (wiAt ws n).least ≤ 1000 := by unfold clampK; omega
  refine ⟨⟨by omega, fun h => by cases h⟩, fun j hj hk => ⟨(show j < n ∨ j = n from by omega).elim (fun q => by have := (h2 j q hk).1; omega) (fun q => by rw [q]; omega), rfl⟩, fun _ => ?_⟩
  rcases (show s ≤ clampK (wiAt ws n).least ∨ clampK (wiAt ws n).least < s from by omega) with q | q
  · exact ⟨n, by omega, hn, by omega⟩
  · cases hf : f
    · have := h1.2 hf
      omega
    · obtain ⟨j, hj, hk, hs⟩ := h3 hf
      exact ⟨j, by omega, hk, by omega⟩
theorem clamp_is (x : Int) : clampI x (-1000) 1000 = clampK x := by
  unfold clampI clampK
  omega
set_option maxRecDepth 100000 in
set_option maxHeartbeats 4000000 in
theorem strict_any (w : World) (b' : Nat) (e' : TypeId) (v' : Value) (ws : List Wi) (key : Int) (hl' : ws.length ≤ 2000000) (h' : w.ownsRow b' e' 2 v' ws.length (wiCs ws)) :
    Calls Try.prog 85 #[v', .int .i64 key] w (StrictPost ws key ws.length w) := by
  obtain ⟨n, hn⟩ : ∃ n, n = ws.length := ⟨_, rfl⟩
  rw [← hn] at h' hl' ⊢
  have HN := Lib.hid hn
  clear hn
  obtain ⟨p', c', rfl⟩ := ownW_slice h'
  have HW := Lib.hid h'
  clear h'
  go_enter Try.func85, Try.ntmps85
  go_wp2_with fail
  go_loopw [6, 7, 12] (fun s f x wr => ∃ (k : Nat) (s' : Int) (f' : Bool), k ≤ n ∧ s = .int .i64 s' ∧ f = .bool f' ∧ x = .int .i64 (k : Int) ∧ Hid (StrictAt ws key k s' f') ∧ Hid (Below w.heap.size w wr)) (fun _ _ x _ => n - (intOf x).toNat)
  case atStart => exact ⟨0, -1000, false, Nat.zero_le _, rfl, rfl, by go_num, Lib.hid (strict_zero ws key), Lib.hid (Below.refl _ _)⟩
  case round =>
    obtain ⟨k, s, f, hk, rfl, rfl, rfl, HS, HB⟩ := hrel
    by_cases hlt : k < n
    · have q3 : (k : Int) < n := by omega
      obtain ⟨g, cg, hg, _, hgl⟩ := ownW_pos HW.out (by omega)
      simp only [Value.slice.injEq, true_and] at hg
      obtain ⟨rfl, rfl⟩ := hg
      obtain ⟨X, hX⟩ : ∃ X, X = wiAt ws k := ⟨_, rfl⟩
      have r1 := own_wi (ownW_below HW.out HB.out) HN.out k hlt
      rw [← hX] at r1
      obtain ⟨ra, rb⟩ := r1
      have HX := Lib.hid hX
      have HLT := Lib.hid hlt
      clear hX hgl
      go_upto_region 5 with fail
      obtain ⟨W0, hW0⟩ : ∃ W0, W0 = wr.alloc (.cells #[.int .i64 X.key, .int .i64 X.least] 76) := ⟨_, rfl⟩
      obtain ⟨g0, hg0⟩ : ∃ g0, g0 = wr.heap.size := ⟨_, rfl⟩
      have wa : W0.cell? ⟨g0, 0, none⟩ = some (.int .i64 X.key) ∧ W0.cell? ⟨g0, 1, none⟩ = some (.int .i64 X.least) := by rw [hW0, hg0]; exact ⟨by simp [go_sem], by simp [go_sem]⟩
      have B0 : Hid (Below wr.heap.size wr W0) := Lib.hid (by rw [hW0]; exact below_alloc1 wr _)
      rw [← hW0, ← hg0]
      have HB0 := Lib.hid (HB.out.trans (B0.out.mono HB.out.size))
      obtain ⟨wa, wb⟩ := wa
      clear hW0 hg0 ra rb B0 HB
      by_cases hkey : X.key = key
      · have t0 : (X.key == key) = true := by simp [hkey]
        have CL := Lib.hid (clamp_impl X.least (-1000) 1000)
        rw [clamp_is] at CL
        obtain ⟨y, hy⟩ : ∃ y, y = clampK X.least := ⟨_, rfl⟩
        rw [← hy] at CL
        have HY := Lib.hid hy
        have HK := Lib.hid hkey
        clear hy hkey
        have S1 : Hid (StrictAt ws key (k + 1) (max s y) true) := Lib.hid (by
          have := strict_this HS.out (by rw [← HX.out]; exact HK.out)
          rwa [← HX.out, ← HY.out] at this)
        go_wp2_with fail
        refine (CL.out _).mono ?_
        rintro e w1 ⟨rfl, rfl⟩
        go_wp2_with fail
        go_roundw
        case rel => exact ⟨k + 1, max s y, true, HLT.out, by rw [show (if s < y then y else s) = max s y from by split <;> omega], rfl, by go_num, S1, HB0⟩
        case measure => simp [intOf]; omega
      · have t0 : (X.key == key) = false := by simp [hkey]
        have S1 : Hid (StrictAt ws key (k + 1) s f) := Lib.hid (strict_other HS.out (by rw [← HX.out]; exact hkey))
        clear hkey
        go_wp2_with fail
        go_roundw
        case rel => exact ⟨k + 1, s, f, HLT.out, rfl, rfl, by go_num, S1, HB0⟩
        case measure => simp [intOf]; omega
    · have q3 : ¬ (k : Int) < n := by omega
      obtain rfl : k = n := by omega
      go_wp2_with fail
      go_ret2
      exact ⟨s, f, rfl, HS.out, HB.out⟩
/-- The sum of the strictest wishes for three keys, if there is one for each. -/
def GroupAt (ws : List Wi) (k : Int) (s : Int) (f : Bool) : Prop :=
  (f = true ∧ ∃ a b c, StrictAt ws k ws.length a true ∧ StrictAt ws (k + 4) ws.length b true ∧ StrictAt ws (k + 8) ws.length c true ∧ s = a + b + c) ∨
  (f = false ∧ s = 0 ∧ ∃ t d, (t = k ∨ t = k + 4 ∨ t = k + 8) ∧ StrictAt ws t ws.length d false)
def GroupPost (ws : List Wi) (k : Int) (w : World) (en : Ending) (w' : World) : Prop := ∃ s f, en = .returned (.tuple #[.int .i64 s, .bool f]) ∧ GroupAt ws k s f ∧ Below w.heap.size w w'
/-- What the first rounds have added. -/
def PartSum (ws : List Wi) (k : Int) : Nat → Int → Prop
  | 0, s => s = 0
  | j + 1, s => ∃ s' a, PartSum ws k j s' ∧ StrictAt ws (k + 4 * j) ws.length a true ∧ s = s' + a
theorem part_bd {ws : List Wi} {k : Int} : ∀ {j : Nat} {s : Int}, PartSum ws k j s → -1000 * j ≤ s ∧ s ≤ 1000 * j
  | 0, s, h => by simp only [PartSum] at h; omega
  | j + 1, s, ⟨s', a, h, ha, hs⟩ => by
    have h1 := part_bd h
    have h2 := ha.1.1
    omega
set_option maxRecDepth 100000 in
set_option maxHeartbeats 4000000 in
theorem group_any (w : World) (b' : Nat) (e' : TypeId) (v' : Value) (ws : List Wi) (k : Nat) (hk : k < 4) (hl' : ws.length ≤ 2000000) (h' : w.ownsRow b' e' 2 v' ws.length (wiCs ws)) :
    Calls Try.prog 61 #[v', .int .i64 (k : Int)] w (GroupPost ws k w) := by
  have ST := Lib.hid (fun w' key (hb : Below w.heap.size w w') => strict_any w' b' e' v' ws key hl' (ownW_below h' hb))
  obtain ⟨p', c', rfl⟩ := ownW_slice h'
  obtain ⟨n, hn⟩ : ∃ n, n = ws.length := ⟨_, rfl⟩
  rw [← hn] at ST
  rw [← hn]
  have HN := Lib.hid hn
  clear h' hn hl'
  go_enter Try.func61, Try.ntmps61
  go_wp2_with fail
  go_loopw [6, 7] (fun s x wr => ∃ (j : Nat) (s' : Int), j ≤ 3 ∧ s = .int .i64 s' ∧ x = .int .i64 ((k : Int) + 4 * j) ∧ Hid (PartSum ws k j s') ∧ Hid (Below w.heap.size w wr)) (fun _ x _ => 12 - (intOf x).toNat)
  case atStart => exact ⟨0, 0, by omega, rfl, by simp, Lib.hid rfl, Lib.hid (Below.refl _ _)⟩
  case round =>
    obtain ⟨j, s, hj, rfl, rfl, HP, HB⟩ := hrel
    obtain ⟨t, ht⟩ : ∃ t : Int, t = (k : Int) + 4 * j := ⟨_, rfl⟩
    have hb := part_bd HP.out
    rw [← ht]
    by_cases hlt : j < 3
    · have q3 : t < 12 := by omega
      have q4 : 0 ≤ t := by omega
      have SB := Lib.hid (ST.out wr t HB.out)
      have HT := Lib.hid ht
      have hs : -3000 ≤ s ∧ s ≤ 3000 := by omega
      clear ht hb
      go_wp2_with fail
      refine SB.out.mono ?_
      rintro e w1 ⟨a, f, rfl, h1, b1⟩
      have B1 := Lib.hid (HB.out.trans (b1.mono HB.out.size))
      have ha := h1.1.1
      have H1 := Lib.hid h1
      clear h1 b1 HB SB
      cases f
      · go_wp2_with fail
        go_ret2
        refine ⟨0, false, rfl, .inr ⟨rfl, rfl, t, a, ?_, by rw [← HN.out]; exact H1.out⟩, B1.out⟩
        have := HT.out
        omega
      · go_wp2_with fail
        go_roundw
        case rel =>
          refine ⟨j + 1, s + a, by omega, rfl, ?_, Lib.hid ⟨s, a, HP.out, ?_, rfl⟩, B1⟩
          · rw [HT.out]; congr 1
          · rw [← HN.out, ← HT.out]; exact H1.out
        case measure => simp [intOf]; omega
    · have q3 : ¬ t < 12 := by omega
      obtain rfl : j = 3 := by omega
      clear hb ht
      go_wp2_with fail
      go_ret2
      refine ⟨s, true, rfl, .inl ⟨rfl, ?_⟩, HB.out⟩
      obtain ⟨s2, c, ⟨s1, b, ⟨s0, a, h0, h1, e1⟩, h2, e2⟩, h3, e3⟩ := HP.out
      simp only [PartSum] at h0
      exact ⟨a, b, c, by simpa using h1, by simpa using h2, by simpa using h3, by omega⟩
theorem strict_ex (ws : List Wi) (key : Int) : ∀ n, ∃ s f, StrictAt ws key n s f
  | 0 => ⟨_, _, strict_zero ws key⟩
  | n + 1 => by
    obtain ⟨s, f, h⟩ := strict_ex ws key n
    by_cases hk : (wiAt ws n).key = key
    · exact ⟨_, _, strict_this h hk⟩
    · exact ⟨_, _, strict_other h hk⟩
theorem strict_unique {ws : List Wi} {key : Int} {n : Nat} {s s' : Int} {f f' : Bool} (h : StrictAt ws key n s f) (g : StrictAt ws key n s' f') : s = s' ∧ f = f' := by
  cases f <;> cases f'
  · exact ⟨by rw [h.1.2 rfl, g.1.2 rfl], rfl⟩
  · obtain ⟨j, hj, hk, _⟩ := g.2.2 rfl
    have := (h.2.1 j hj hk).2
    cases this
  · obtain ⟨j, hj, hk, _⟩ := h.2.2 rfl
    have := (g.2.1 j hj hk).2
    cases this
  · obtain ⟨j, hj, hk, e⟩ := h.2.2 rfl
    obtain ⟨i, hi, ki, e'⟩ := g.2.2 rfl
    have a := (h.2.1 i hi ki).1
    have b := (g.2.1 j hj hk).1
    exact ⟨by omega, rfl⟩
theorem group_unique {ws : List Wi} {k s s' : Int} {f : Bool} (h : GroupAt ws k s f) (g : GroupAt ws k s' true) : s = s' ∧ f = true := by
  rcases g with ⟨_, a, b, c, ha, hb, hc, rfl⟩ | ⟨h, _⟩
  · rcases h with ⟨rfl, a', b', c', ha', hb', hc', rfl⟩ | ⟨_, _, t, d, ht, hd⟩
    · exact ⟨by rw [(strict_unique ha ha').1, (strict_unique hb hb').1, (strict_unique hc hc').1], rfl⟩
    · rcases ht with rfl | rfl | rfl
      · have := (strict_unique hd ha).2; cases this
      · have := (strict_unique hd hb).2; cases this
      · have := (strict_unique hd hc).2; cases this
  · cases h
theorem strict_of {ws : List Wi} {key : Int} {j : Nat} (hj : j < ws.length) (hk : (wiAt ws j).key = key) : ∃ s, StrictAt ws key ws.length s true ∧ clampK (wiAt ws j).least ≤ s := by
  obtain ⟨s, f, h⟩ := strict_ex ws key ws.length
  obtain ⟨h1, h2⟩ := h.2.1 j hj hk
  exact ⟨s, h2 ▸ h, h1⟩
/-- A group in conflict. -/
theorem conf_iff (ws : List Wi) : Conf ws ↔ ∃ k : Nat, k < 4 ∧ ∃ s, GroupAt ws (k : Int) s true ∧ 12 < s := by
  constructor
  · rintro ⟨a, ha, b, hb, c, hc, hk, hkb, hkc, hs⟩
    obtain ⟨k, hk'⟩ : ∃ k : Nat, (wiAt ws a).key = (k : Int) := ⟨(wiAt ws a).key.toNat, by omega⟩
    obtain ⟨x, hx, lx⟩ := strict_of ha hk'
    obtain ⟨y, hy, ly⟩ := strict_of hb (key := (k : Int) + 4) (by omega)
    obtain ⟨z, hz, lz⟩ := strict_of hc (key := (k : Int) + 8) (by omega)
    exact ⟨k, by omega, x + y + z, .inl ⟨rfl, x, y, z, hx, hy, hz, rfl⟩, by omega⟩
  · rintro ⟨k, hk, s, h, hs⟩
    rcases h with ⟨_, a, b, c, h1, h2, h3, rfl⟩ | ⟨h, _⟩
    · obtain ⟨i, hi, ki, ei⟩ := h1.2.2 rfl
      obtain ⟨j, hj, kj, ej⟩ := h2.2.2 rfl
      obtain ⟨l, hl, kl, el⟩ := h3.2.2 rfl
      exact ⟨i, hi, j, hj, l, hl, by rw [ki]; omega, by rw [kj, ki], by rw [kl, ki], by rw [← ei, ← ej, ← el]; exact hs⟩
    · cases h
def ConfPost (ws : List Wi) (w : World) (en : Ending) (w' : World) : Prop := ∃ y, en = .returned (.bool y) ∧ (y = true ↔ Conf ws) ∧ Below w.heap.size w w'
theorem group_lt {ws : List Wi} {k s : Int} {f : Bool} (h : GroupAt ws k s f) : -3000 ≤ s ∧ s ≤ 3000 := by
  rcases h with ⟨_, a, b, c, ha, hb, hc, rfl⟩ | ⟨_, rfl, _⟩
  · have := ha.1.1; have := hb.1.1; have := hc.1.1; omega
  · omega
set_option maxRecDepth 100000 in
set_option maxHeartbeats 4000000 in
theorem conf_impl : ConfImpl := by
  intro w b' e' v' ws hl' h'
  show Calls _ _ _ w (ConfPost ws w)
  have GR := Lib.hid (fun w' k (hk : k < 4) (hb : Below w.heap.size w w') => group_any w' b' e' v' ws k hk hl' (ownW_below h' hb))
  obtain ⟨p', c', rfl⟩ := ownW_slice h'
  generalize ws.length = n at GR hl'
  clear h' hl'
  go_enter Try.func22, Try.ntmps22
  go_wp2_with fail
  go_loopw [6] (fun x wr => ∃ k : Nat, k ≤ 4 ∧ x = .int .i64 (k : Int) ∧ Hid (∀ j : Nat, j < k → ∀ s, GroupAt ws (j : Int) s true → s ≤ 12) ∧ Hid (Below w.heap.size w wr)) (fun x _ => 4 - (intOf x).toNat)
  case atStart => exact ⟨0, by omega, by go_num, Lib.hid (fun j hj => by omega), Lib.hid (Below.refl _ _)⟩
  case round =>
    obtain ⟨k, hk, rfl, HA, HB⟩ := hrel
    by_cases hlt : k < 4
    · have q3 : (k : Int) < 4 := by omega
      have GB := Lib.hid (GR.out wr k hlt HB.out)
      have HLT := Lib.hid hlt
      go_wp2_with fail
      refine GB.out.mono ?_
      rintro e w1 ⟨s, f, rfl, h1, b1⟩
      have B1 := Lib.hid (HB.out.trans (b1.mono HB.out.size))
      have hs := group_lt h1
      have H1 := Lib.hid h1
      clear h1 b1 HB GB hlt
      cases f
      · go_wp2_with fail
        go_roundw
        case rel =>
          refine ⟨k + 1, HLT.out, by go_num, Lib.hid (fun j hj t ht => (show j < k ∨ j = k from by omega).elim (fun h => HA.out j h t ht) (fun h => ?_)), B1⟩
          subst h
          have := (group_unique H1.out ht).2
          cases this
        case measure => simp [intOf]; omega
      · by_cases h12 : 12 < s
        · have H12 := Lib.hid h12
          go_wp2_with fail
          go_ret
          exact ⟨true, rfl, ⟨fun _ => (conf_iff ws).2 ⟨k, HLT.out, s, H1.out, H12.out⟩, fun _ => rfl⟩, B1.out⟩
        · have H12 := Lib.hid h12
          go_wp2_with fail
          go_roundw
          case rel =>
            refine ⟨k + 1, HLT.out, by go_num, Lib.hid (fun j hj t ht => (show j < k ∨ j = k from by omega).elim (fun h => HA.out j h t ht) (fun h => ?_)), B1⟩
            subst h
            rw [← (group_unique H1.out ht).1]
            exact H12.out
          case measure => simp [intOf]; omega
    · have q3 : ¬ (k : Int) < 4 := by omega
      obtain rfl : k = 4 := by omega
      go_wp2_with fail
      go_ret
      refine ⟨false, rfl, ⟨fun h => (nomatch h), fun h => ?_⟩, HB.out⟩
      obtain ⟨j, hj, s, h1, h2⟩ := (conf_iff ws).1 h
      have := HA.out j hj s h1
      omega
end Go.Proofs.Ytohfepcdgbgojab
