/- The walk of laws.FnFieldsAgain over the contracts. -/
import Derived.Test.YthkhoocnkjdabaaDoorDrawSpl
import Derived.Test.YthkhoocnkjdabaaDoorAgainMath
import Derived.Test.YthkhoocnkjdabaaDoorSSplWalks
import Derived.Test.YthkhoocnkjdabaaDoorSameTexts
import Derived.Test.YthkhoocnkjdabaaDoorItoaWalks
namespace Go.Proofs.YthkhoocnkjdabaaDoor
open Go.RowKit
set_option linter.unusedVariables false
theorem split_list (l : List UInt8) (w : World) (h : l.length ≤ 100000) : Calls Tryd.prog 15 #[.string ⟨l.toArray⟩] w (SplPost 9 l w) :=
  split_any ⟨l.toArray⟩ w (by unfold maxLen; simp [ByteArray.size]; omega)
theorem ssplit_list (l : List UInt8) (w : World) (h : l.length ≤ 100000) : Calls Tryd.prog 16 #[.string ⟨l.toArray⟩] w (SplPost 9 l w) :=
  ssplit_any ⟨l.toArray⟩ w (by unfold maxLen; simp [ByteArray.size]; omega)
theorem itoa_m3 : Lib.itoa (-3) = [45, 51] := by rw [show (-3 : Int) = -((3 : Nat) : Int) from rfl, Lib.itoa_neg 3 (by omega), Lib.decDigits_one (by omega)]; rfl
theorem join_len (fs : List (List UInt8)) (h : ∀ f ∈ fs, f.length ≤ 600) : (joinSp fs).length ≤ 601 * fs.length := by
  induction fs with
  | nil => simp [joinSp]
  | cons f fs ih =>
    have e : joinSp (f :: fs) = (f ++ [32]) ++ joinSp fs := by simp [joinSp]
    have := ih (fun g hg => h g (List.mem_cons_of_mem _ hg))
    have := h f (List.mem_cons_self ..)
    rw [e, List.length_append, List.length_append, List.length_cons]
    simp
    omega
theorem join_take (fs : List (List UInt8)) (k : Nat) (h : k < fs.length) : joinSp (fs.take (k + 1)) = joinSp (fs.take k) ++ fs[k] ++ [32] := by
  rw [List.take_succ_eq_append_getElem h, joinSp_snoc]; simp
theorem str_join (x y : List UInt8) : Value.string (⟨x.toArray⟩ ++ ⟨y.toArray⟩ ++ ⟨#[32]⟩) = Value.string ⟨(x ++ y ++ [32]).toArray⟩ := by
  rw [ByteArray.mk_append_mk x y]; exact congrArg Value.string (ByteArray.mk_append_mk (x ++ y) [32])
theorem strOf_get (fs : List (List UInt8)) (k : Nat) (h : k < (strOf fs).length) : (strOf fs)[k] = ⟨(fs[k]'(by simpa [strOf] using h)).toArray⟩ := by simp [strOf]
theorem bigD_any (a : Option Addr) (len cap : Nat) (w : World) (h : len ≤ 9223372036854775807) : Calls Tryd.prog 7 #[.slice a len cap] w fun e w' => e = .returned (.bool (decide (1048576 < (len : Int)))) ∧ w = w' := by
  go_enter Tryd.func7, Tryd.ntmps7
  go_wp2
  go_ret
  exact ⟨rfl, rfl⟩
theorem rowD_len {k : IntKind} {W : World} {a : Option Addr} {len cap : Nat} {zs : List Int} (hr : IsRow k W a len cap zs) : len ≤ 9223372036854775807 := by
  rcases hr with ⟨_, h1, _⟩ | ⟨x, _, h1, h2, _⟩
  · omega
  · unfold maxLen at h2; omega
set_option maxHeartbeats 2000000 in
theorem walk_FnFieldsAgain (a0 : Option Addr) (len0 cap0 : Nat) (z0 : List Int) (w : World) (ht : ItoaTab w) (hr : IsRow .u8 w a0 len0 cap0 z0) :
    Calls Tryd.prog 5 #[.slice a0 len0 cap0] w fun e w' => e = .returned (.bool true) ∧ Below w.heap.size w w' := by
  have hlen := rowD_len hr
  by_cases hbig : 1048576 < len0
  · have t0 : decide (1048576 < (len0 : Int)) = true := by simp; omega
    go_enter Tryd.func5, Tryd.ntmps5
    go_wp2_with fail
    refine (bigD_any _ _ _ _ hlen).mono ?_
    rintro e w' ⟨rfl, rfl⟩
    go_wp2_with fail
    go_ret
    exact ⟨rfl, Below.refl _ _⟩
  · have t0 : decide (1048576 < (len0 : Int)) = false := by simp; omega
    have HT := Lib.hid ht
    clear ht
    go_enter Tryd.func5, Tryd.ntmps5
    go_wp2_with fail
    refine (bigD_any _ _ _ _ hlen).mono ?_
    rintro e w' ⟨rfl, rfl⟩
    go_wp2_with fail
    refine (drawSplit_any hr).mono ?_
    rintro e w1 ⟨l, hl, rfl, hb1⟩
    have HT1 := Lib.hid (HT.out.below hb1 HT.out.lt)
    go_wp2_with fail
    refine (split_list l _ (by omega)).mono ?_
    rintro e w2 ⟨vp, rfl, hp2, hb2⟩
    go_wp2_with fail
    refine (ssplit_list l _ (by omega)).mono ?_
    rintro e w3 ⟨vw, rfl, hw3, hb3⟩
    have hp3 := own_below hp2 hb3
    have HT3 := Lib.hid ((HT1.out.below hb2 HT1.out.lt).below hb3 (HT1.out.below hb2 HT1.out.lt).lt)
    have hfin := (hb1.trans (hb2.mono hb1.size)).trans (hb3.mono (Nat.le_trans hb1.size hb2.size))
    clear hp2 hw3 hb2 hb3 hb1 HT HT1 hr
    rcases hv : splV l with ⟨fs, ok⟩
    rw [hv] at hp3
    cases ok
    · have hfs : fs = [] := by
        unfold splV at hv
        split at hv
        · simp at hv
        · exact (congrArg Prod.fst hv).symm
      subst hfs
      obtain ⟨pp, cc, hpv⟩ := own_slice hp3
      subst hpv
      have it := itoa_m3
      have HP := Lib.hid hp3
      clear hp3
      go_wp2_with fail
      refine (format_any (-3) (by omega) (by omega) w3 HT3.out).mono ?_
      rintro e w4 ⟨rfl, hb4⟩
      go_wp2_with fail
      go_ret
      exact ⟨rfl, hfin.trans (hb4.mono hfin.size)⟩
    · have hok := splOk hv
      have h24 := hok.cnt
      have HV := Lib.hid hv
      have HOK := Lib.hid hok
      have HJ := Lib.hid (join_len fs hok.len)
      clear hv hok
      have hn : (strOf fs).length = fs.length := strOf_len fs
      have HN := Lib.hid hn
      clear hn
      rcases Nat.eq_zero_or_pos fs.length with h0 | h0
      · obtain rfl : fs = [] := List.eq_nil_of_length_eq_zero h0
        obtain ⟨pp, cc, hpv⟩ := own_slice hp3
        subst hpv
        have HP := Lib.hid hp3
        clear hp3
        go_wp2_with fail
        refine wp_loop_rounds 1 ?_
        rw [rounds_succ]
        go_wp2_with fail
        refine (split_list [] _ (by simp)).mono ?_
        rintro e w5 ⟨vq, rfl, hq5, hb5⟩
        have hp5 := own_below HP.out hb5
        have hfin5 := hfin.trans (hb5.mono hfin.size)
        have hag : splV [] = ([], true) := HOK.out.again (by simp [joinSp])
        rw [hag] at hq5
        go_wp2_with fail
        refine (sameTexts_eq w5 _ _ _ _ _ vq 0 (strOf []) rfl (by omega) hp5 hq5).mono ?_
        rintro e w6 ⟨rfl, hb6⟩
        go_wp2_with fail
        go_ret
        exact ⟨rfl, hfin5.trans (hb6.mono hfin5.size)⟩
      · obtain ⟨g, cc, hpv, _, hgl⟩ := own_pos hp3 h0
        subst hpv
        have HP := Lib.hid hp3
        clear hp3
        go_wp2_with fail
        go_loop [8, 9] (fun t i => ∃ k : Nat, k ≤ fs.length ∧ i = .int .i64 k ∧ t = .string ⟨(joinSp (fs.take k)).toArray⟩) (fun _ i => fs.length - (intOf i).toNat)
        case atStart => exact ⟨0, Nat.zero_le _, rfl, rfl⟩
        case round =>
          obtain ⟨k, hk, rfl, rfl⟩ := hrel
          by_cases hlt : k < fs.length
          · have q1 : (k : Int) < fs.length := by omega
            have q2 : w3.cell? ⟨g, k, none⟩ = some (.string ⟨(fs[k]).toArray⟩) := by rw [own_cell HP.out HN.out k hlt, strOf_get]
            have q3 : fs[k].length ≤ 600 := HOK.out.len _ (List.getElem_mem _)
            have q4 : (joinSp (fs.take k)).length ≤ 601 * 24 := by
              have := join_len (fs.take k) (fun f hf => HOK.out.len f (List.mem_of_mem_take hf))
              rw [List.length_take] at this
              omega
            have HJT := Lib.hid (join_take fs k hlt)
            generalize fs[k] = f at q2 q3 HJT
            generalize joinSp (fs.take k) = jt at q4 HJT ⊢
            go_wp2_with fail
            go_round
            case rel => exact ⟨k + 1, by omega, by go_num, by rw [HJT.out]; exact str_join jt f⟩
            case measure => simp [intOf]; omega
          · obtain rfl : k = fs.length := by omega
            have q1 : ¬ ((fs.length : Nat) : Int) < fs.length := by omega
            rw [List.take_of_length_le (Nat.le_refl _)]
            go_wp2_with fail
            have hjl : (joinSp fs).length ≤ 100000 := by have := HJ.out; omega
            refine (split_list (joinSp fs) _ hjl).mono ?_
            rintro e w5 ⟨vq, rfl, hq5, hb5⟩
            have hp5 := own_below HP.out hb5
            have hfin5 := hfin.trans (hb5.mono hfin.size)
            by_cases h6 : (joinSp fs).length ≤ 600
            · have hag := HOK.out.again h6
              rw [hag] at hq5
              have q6 : ¬ (600 : Int) < ((joinSp fs).length : Int) := by omega
              go_wp2_with fail
              refine (sameTexts_eq w5 _ _ _ _ _ vq fs.length (strOf fs) HN.out (by omega) hp5 hq5).mono ?_
              rintro e w6 ⟨rfl, hb6⟩
              go_wp2_with fail
              go_ret
              exact ⟨rfl, hfin5.trans (hb6.mono hfin5.size)⟩
            · have q6 : (600 : Int) < ((joinSp fs).length : Int) := by omega
              go_wp2_with fail
              go_ret
              exact ⟨rfl, hfin5⟩
end Go.Proofs.YthkhoocnkjdabaaDoor
