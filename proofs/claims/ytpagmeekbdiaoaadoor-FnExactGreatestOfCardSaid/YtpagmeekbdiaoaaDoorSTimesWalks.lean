/- Contract of spec.TimesBig. -/
import Derived.Test.YtpagmeekbdiaoaaDoorTimesWalks
namespace Go.Proofs.YtpagmeekbdiaoaaDoor
open Go.RowKit
set_option linter.unusedVariables false
theorem own_lower {w : World} {base base' : Nat} {e : TypeId} {v : Value} {n : Nat} {xs : List Value} (h : w.ownsRow base e 1 v n xs) (hb : base' ≤ base) : w.ownsRow base' e 1 v n xs := by
  obtain ⟨h1, h2⟩ := h
  refine ⟨h1, ?_⟩
  rcases h2 with h2 | ⟨g, cap, cur, hv, hg, r⟩
  · exact .inl h2
  · exact .inr ⟨g, cap, cur, hv, Nat.le_trans hb hg, r⟩
set_option maxHeartbeats 1500000 in
theorem stimesBig_any (w : World) (b : Nat) (e : TypeId) (v : Value) (xs : List Int) (N : Int) (hx : xs.length ≤ 2000000) (h : w.ownsRow b e 1 v xs.length (intCs xs)) :
    Calls Tryd.prog 55 #[v, .int .i64 N] w (OwnPostB 3 (TimesR xs N).1 (TimesR xs N).2 w) := by
  have hA : (w.alloc (.cells #[] 3)).ownsRow b e 1 v xs.length (intCs xs) := h.alloc _
  have O0 := own_zero_lit w 3
  have B0 : Below w.heap.size w (w.alloc (.cells #[] 3)) := (Below.refl _ _).alloc (Nat.le_refl _) _
  by_cases hok : OkB xs
  · have d1 : decide (OkB xs) = true := decide_eq_true hok
    by_cases hin : 0 ≤ N ∧ N ≤ 1000
    · have d2 : decide (0 ≤ N ∧ N ≤ 1000) = true := decide_eq_true hin
      obtain ⟨n0, n1⟩ := hin
      by_cases hN : N = 0
      · subst hN
        have Y := Lib.hid (timesR_yes (n := 0) ⟨hok, n0, n1⟩ (by unfold timesB; simp))
        clear hok
        go_enter Tryd.func55, Tryd.ntmps55
        go_wp2_with (first | (go_at_call 70; refine (sok_any _ b e v xs hx hA).mono ?_; rintro e1 w1 ⟨rfl, rfl⟩; rw [d1]) | (go_at_call 65; refine (in_any _ _ _ _).mono ?_; rintro e1 w1 ⟨rfl, rfl⟩; rw [d2]))
        go_ret2
        exact ret_own Y.out (by simpa [timesB] using O0) B0
      · obtain ⟨i0, hi, hz0, hz1, hz2⟩ := info_parts infoInt
        have t0 : (N == 0) = false := by simp [hN]
        have HT := Lib.hid (show timesB xs N = mulB N xs 0 from by unfold timesB; rw [if_neg hN])
        have hl := hok.1
        have HX := Lib.hid hok.2.1
        have HO := Lib.hid hok
        have hmA : ∀ y : Nat, y ≤ 121 → y + 1 ≤ maxLen := fun y hy => by unfold maxLen; omega
        obtain ⟨p, cp, rfl⟩ := slice_own h
        obtain ⟨n, hn⟩ : ∃ n, n = xs.length := ⟨_, rfl⟩
        rw [← hn] at h hl hA hx ⊢
        have HN := Lib.hid hn
        have HH := Lib.hid h
        clear hok hN h
        have HA := Lib.hid (own_eq hA rfl hn)
        clear hn hA
        go_enter Tryd.func55, Tryd.ntmps55
        go_wp2_with (first | (go_at_call 70; refine (sok_any _ b e _ xs (by have := HN.out; omega) HA.out).mono ?_; rintro e1 w1 ⟨rfl, rfl⟩; rw [d1]) | (go_at_call 65; refine (in_any _ _ _ _).mono ?_; rintro e1 w1 ⟨rfl, rfl⟩; rw [d2]))
        go_loopw [6, 7, 8, 9] (fun v c i _ wr => ∃ (k : Nat) (out : List Int) (y : Int), k ≤ n ∧ i = .int .i64 k ∧ c = .int .i64 y ∧ MulTo N xs out k y ∧ wr.ownsRow w.heap.size 3 1 v k (intCs out) ∧ Below w.heap.size w wr) (fun _ _ i _ _ => n - (intOf i).toNat)
        case atStart => exact ⟨0, [], 0, Nat.zero_le _, rfl, rfl, mulTo_zero N xs, O0, B0⟩
        case round =>
          obtain ⟨k, out, c, hk, rfl, rfl, hto, hown, hb⟩ := hrel
          have c0 := hto.2.1
          have c1 := hto.2.2.1
          have HTO := Lib.hid hto
          clear hto O0 B0
          by_cases hlt : k < n
          · have hin := own_below HH.out hb
            obtain ⟨g, cap, hv, _, _⟩ := own_pos hin (by omega)
            cases hv
            have q1 := own_icell hin k hlt
            have q3 : (k : Int) < n := by omega
            have hb1 := mul_bdT (HX.out k (by have := HN.out; omega)).1 (HX.out k (by have := HN.out; omega)).2 n0 n1
            obtain ⟨x, hxk⟩ : ∃ x, x = xs.getD k 0 := ⟨_, rfl⟩
            rw [← hxk] at q1 hb1
            obtain ⟨y, hy⟩ : ∃ y, x * N = y := ⟨_, rfl⟩
            rw [hy] at hb1
            obtain ⟨y0, y1⟩ := hb1
            have STEP := Lib.hid (mulTo_step HTO.out (by have := HN.out; omega) hxk hy y0 y1)
            clear hxk hin
            go_wp2_with (at_builtin; refine wpList_append_lies _ rfl (.tmp 37) (.tmp 40) 24 rfl w.heap.size 3 i0 (.int .i64 0) 1 8 Tryd.underlying24 hi hz0 hz1 hz2 rfl (by decide) _ k _ rfl (hown.alloc _) ⟨wr.heap.size, 0, none⟩ 1 1 _ rfl rfl (World.news_of_block (heap_alloc_new wr _)) (by simp [Value.oneCell']) (by decide) (by unfold maxLen; omega) (by omega) (by have := hb.size; simp; omega) _ rfl ?_; intro g1 cap1 w1 hown' hgrow hat hgt)
            have R1 := isnoc HTO.out.1.symm hown'
            have R2 : Below w.heap.size w w1 := (hb.alloc hb.size _).grown hgrow (Nat.le_trans hb.size (by simp)) (fun j hj => (hown.lt j hj).1)
            rw [List.length_append, HTO.out.1] at R1
            clear hown' hgrow hat hgt hown hb
            go_wp2
            go_roundw
            case rel => exact ⟨k + 1, _, _, by omega, by go_num, rfl, STEP.out, R1, R2⟩
            case measure => simp [intOf]; omega
          · have q3 : ¬ (k : Int) < n := by omega
            obtain rfl : k = n := by omega
            have HE := Lib.hid (mulTo_end (by have := HTO.out; rwa [HN.out] at this))
            by_cases hc : 0 < c
            · have E : out ++ [c] = timesB xs N := by rw [HT.out, HE.out, if_pos hc]
              have EL : (timesB xs N).length = k + 1 := by rw [← E, List.length_append, HTO.out.1]; rfl
              by_cases h120 : k + 1 ≤ 120
              · have q5 : ¬ (120 : Int) < (k : Int) + 1 := by omega
                have Y := Lib.hid (timesR_yes ⟨HO.out, n0, n1⟩ (by rw [EL]; exact h120))
                have HE' := Lib.hid E
                clear E EL h120
                go_wp2_with (at_builtin; refine wpList_append_lies _ rfl (.tmp 46) (.tmp 48) 24 rfl w.heap.size 3 i0 (.int .i64 0) 1 8 Tryd.underlying24 hi hz0 hz1 hz2 rfl (by decide) _ k _ rfl (hown.alloc _) ⟨wr.heap.size, 0, none⟩ 1 1 _ rfl rfl (World.news_of_block (heap_alloc_new wr _)) (by simp [Value.oneCell']) (by decide) (by unfold maxLen; omega) (by omega) (by have := hb.size; simp; omega) _ rfl ?_; intro g1 cap1 w1 hown' hgrow hat hgt)
                have R1 := isnoc HTO.out.1.symm hown'
                have R2 : Below w.heap.size w w1 := (hb.alloc hb.size _).grown hgrow (Nat.le_trans hb.size (by simp)) (fun j hj => (hown.lt j hj).1)
                rw [HE'.out] at R1
                clear hown' hgrow hat hgt hown hb
                go_wp2
                go_ret2
                exact ret_own Y.out R1 R2
              · have q5 : (120 : Int) < (k : Int) + 1 := by omega
                have Y := Lib.hid (timesR_long (xs := xs) (n := N) (by rw [EL]; exact h120))
                clear E EL h120
                go_wp2_with (at_builtin; refine wpList_append_lies _ rfl (.tmp 46) (.tmp 48) 24 rfl w.heap.size 3 i0 (.int .i64 0) 1 8 Tryd.underlying24 hi hz0 hz1 hz2 rfl (by decide) _ k _ rfl (hown.alloc _) ⟨wr.heap.size, 0, none⟩ 1 1 _ rfl rfl (World.news_of_block (heap_alloc_new wr _)) (by simp [Value.oneCell']) (by decide) (by unfold maxLen; omega) (by omega) (by have := hb.size; simp; omega) _ rfl ?_; intro g1 cap1 w1 hown' hgrow hat hgt)
                have R2 : Below w.heap.size w w1 := (hb.alloc hb.size _).grown hgrow (Nat.le_trans hb.size (by simp)) (fun j hj => (hown.lt j hj).1)
                clear hown' hgrow hat hgt hown hb
                go_wp2
                go_ret2
                exact ret_own Y.out (own_lower (own_zero_lit _ _) R2.size) (R2.alloc R2.size _)
            · have E : out = timesB xs N := by rw [HT.out, HE.out, if_neg hc, List.append_nil]
              have EL : (timesB xs N).length = k := by rw [← E]; exact HTO.out.1
              have q5 : ¬ (120 : Int) < (k : Int) := by omega
              have Y := Lib.hid (timesR_yes ⟨HO.out, n0, n1⟩ (by rw [EL]; exact hl))
              have R1 := own_eq hown E EL.symm
              obtain ⟨pp, cc, rfl⟩ := slice_own hown
              clear hown E EL
              go_wp2
              go_ret2
              exact ret_own Y.out R1 hb
    · have d2 : decide (0 ≤ N ∧ N ≤ 1000) = false := decide_eq_false hin
      have Y := Lib.hid (timesR_no (xs := xs) (n := N) (fun h => hin h.2))
      clear hin hok
      go_enter Tryd.func55, Tryd.ntmps55
      go_wp2_with (first | (go_at_call 70; refine (sok_any _ b e v xs hx hA).mono ?_; rintro e1 w1 ⟨rfl, rfl⟩; rw [d1]) | (go_at_call 65; refine (in_any _ _ _ _).mono ?_; rintro e1 w1 ⟨rfl, rfl⟩; rw [d2]))
      go_ret2
      exact ret_own Y.out O0 B0
  · have d1 : decide (OkB xs) = false := decide_eq_false hok
    have Y := Lib.hid (timesR_no (xs := xs) (n := N) (fun h => hok h.1))
    clear hok
    go_enter Tryd.func55, Tryd.ntmps55
    go_wp2_with (go_at_call 70; refine (sok_any _ b e v xs hx hA).mono ?_; rintro e1 w1 ⟨rfl, rfl⟩; rw [d1])
    go_ret2
    exact ret_own Y.out O0 B0
end Go.Proofs.YtpagmeekbdiaoaaDoor
