/- Contracts of impl.appendField and impl.SplitFields. -/
import Derived.Test.YthkhoocnkjdabaaDoorProg
import Derived.Test.YthkhoocnkjdabaaDoorSplMath
import Derived.WalkKit
import Derived.Below
import Derived.Lib.Hide
import Derived.Deep.AppendLies
import Derived.Deep.LoopGhost
import Derived.Outline
namespace Go.Proofs.YthkhoocnkjdabaaDoor
open Go.RowKit
set_option linter.unusedVariables false
theorem infoStr : (Tryd.prog.info? 9).map (fun i => (i.zero, i.size, i.bytes)) = some (some (.string ⟨#[]⟩), 1, 16) := by kernel_rfl
theorem appendField_nil (v : Value) (f : ByteArray) (w : World) (hf : f.size = 0) : Calls Tryd.prog 28 #[v, .string f] w fun e w' => e = .returned v ∧ w = w' := by
  have t1 := tl_nil f hf
  clear hf
  go_enter Tryd.func28, Tryd.ntmps28
  go_wp2
  go_ret
  exact ⟨rfl, rfl⟩
def AppPost (T : TypeId) (base n : Nat) (xs : List Value) (f : ByteArray) (w : World) (e : Ending) (w' : World) : Prop :=
  ∃ v', e = .returned v' ∧ w'.ownsRow base T 1 v' (n + 1) (xs ++ [.string f]) ∧ Below base w w'
theorem appendField_add (v : Value) (f : ByteArray) (w : World) (base n : Nat) (xs : List Value) (hf : 0 < f.size) (hown : w.ownsRow base 9 1 v n xs) (hb : base ≤ w.heap.size) (hn : n ≤ 1000000) :
    Calls Tryd.prog 28 #[v, .string f] w (AppPost 9 base n xs f w) := by
  obtain ⟨i0, hi, hz0, hz1, hz2⟩ := info_parts infoStr
  have t1 := tl_ne f hf
  have t2 := tl_ne' f hf
  have n1 : n + 1 ≤ maxLen := by unfold maxLen; omega
  have n2 : (n + 1) * 16 ≤ 140737488355328 := by omega
  have n3 : ∀ o, base ≤ (w.alloc o).heap.size := fun o => by simp; omega
  clear hf
  go_enter Tryd.func28, Tryd.ntmps28
  go_wp2_with (at_builtin; refine wpList_append_lies _ rfl (.tmp 8) (.tmp 10) 31 rfl base 9 i0 (.string ⟨#[]⟩) 1 16 Tryd.underlying31 hi hz0 hz1 hz2 rfl (by decide) v n _ rfl (hown.alloc _) ⟨w.heap.size, 0, none⟩ 1 1 _ rfl rfl (World.news_of_block (heap_alloc_new w _)) (by simp [Value.oneCell']) (by decide) n1 n2 (n3 _) _ rfl ?_; intro g cap w1 hown' hgrow hat hgt)
  go_ret
  exact ⟨_, rfl, by assumption, ((Below.refl _ _).alloc hb _).grown (by assumption) (Nat.le_trans hb (by simp)) (fun j hj => (hown.lt j hj).1)⟩
/-- What splitting leaves: a slice of strings of the call's own, and whether the line was split. -/
def SplPost (T : TypeId) (l : List UInt8) (w : World) (e : Ending) (w' : World) : Prop :=
  ∃ v, e = .returned (.tuple #[v, .bool (splV l).2]) ∧ w'.ownsRow w.heap.size T 1 v (splV l).1.length ((strOf (splV l).1).map Value.string) ∧ Below w.heap.size w w'
theorem split_no {T : TypeId} {l : List UInt8} {w w' : World} (h : splV l = ([], false)) (hb : Below w.heap.size w w') : SplPost T l w (.returned (.tuple #[.slice none 0 0, .bool false])) w' :=
  ⟨_, by rw [h], by rw [h]; exact World.ownsRow_nil _ _ _ _, hb⟩
theorem split_yes {T : TypeId} {l : List UInt8} {w w' : World} {v : Value} {fs : List (List UInt8)} (h : splV l = (fs, true)) (hown : w'.ownsRow w.heap.size T 1 v fs.length ((strOf fs).map Value.string)) (hb : Below w.heap.size w w') : SplPost T l w (.returned (.tuple #[v, .bool true])) w' :=
  ⟨v, by rw [h], by rw [h]; exact hown, hb⟩
theorem own_slice {w : World} {base : Nat} {e : TypeId} {v : Value} {n : Nat} {xs : List Value} (h : w.ownsRow base e 1 v n xs) : ∃ p c, v = .slice p n c := by
  rcases h.2 with ⟨rfl, h0⟩ | ⟨g, cap, cur, hv, _⟩
  · exact ⟨_, _, by rw [h0]⟩
  · exact ⟨_, _, hv⟩
theorem sizeL (l : List UInt8) : (⟨l.toArray⟩ : ByteArray).size = l.length := by simp [ByteArray.size]
theorem strOf_snoc (fs : List (List UInt8)) (cur : List UInt8) : (strOf (fs ++ [cur])).map Value.string = (strOf fs).map Value.string ++ [.string ⟨cur.toArray⟩] := by simp [strOf]
theorem own_snoc {w : World} {base : Nat} {e : TypeId} {v : Value} {fs : List (List UInt8)} {cur : List UInt8} {n : Nat} (hn : n = fs.length + 1) (h : w.ownsRow base e 1 v n ((strOf fs).map Value.string ++ [.string ⟨cur.toArray⟩])) : w.ownsRow base e 1 v (fs ++ [cur]).length ((strOf (fs ++ [cur])).map Value.string) := by
  rw [strOf_snoc]; simpa [hn] using h
set_option maxHeartbeats 2000000 in
theorem split_any (s : ByteArray) (w : World) (hs : s.size ≤ maxLen) : Calls Tryd.prog 15 #[.string s] w (SplPost 9 s.data.toList w) := by
  unfold maxLen at hs
  by_cases h6 : 600 < s.size
  · have Hf := Lib.hid (splV_no (spl_long h6))
    go_enter Tryd.func15, Tryd.ntmps15
    go_wp2
    go_step3
    go_wp2
    rw [Exit.noGoto_ret]
    go_ret2
    exact split_no Hf.out (Below.refl _ _)
  · go_enter Tryd.func15, Tryd.ntmps15
    go_wp2
    go_step3
    go_wp2
    go_step3
    go_wp2
    go_loopw [4, 5, 6] (fun v b i wr => ∃ (k st : Nat) (fs : List (List UInt8)) (cur : List UInt8), k ≤ s.size ∧ i = .int .i64 k ∧ b = .int .i64 st ∧ SplTo s k st fs cur ∧ wr.ownsRow w.heap.size 9 1 v fs.length ((strOf fs).map Value.string) ∧ Below w.heap.size w wr) (fun _ _ i _ => s.size - (intOf i).toNat)
    case atStart => exact ⟨0, 0, [], [], Nat.zero_le _, rfl, rfl, splTo_zero s, World.ownsRow_nil _ _ _ _, Below.refl _ _⟩
    case round =>
      obtain ⟨k, st, fs, cur, hk, rfl, rfl, hto, hown, hb⟩ := hrel
      have hst := hto.le
      have hcnt : fs.length ≤ 1000000 := by have := hto.cnt; omega
      have hst' : (st : Int) ≤ k := by omega
      have hk' : (k : Int) ≤ s.size := by omega
      by_cases hlt : k < s.size
      · have hlt' : (k : Int) < s.size := by omega
        rcases (show (s[k].toNat < 32 ∨ 126 < s[k].toNat) ∨ s[k].toNat = 32 ∨ (32 < s[k].toNat ∧ s[k].toNat ≤ 126) from by omega) with hc | hc | hc
        · have Hf := Lib.hid (splV_no (spl_bad hlt hc))
          rcases hc with hc | hc
          all_goals
            go_wp2
            (try rw [Exit.noGoto_ret])
            go_ret2
            exact split_no Hf.out hb
        · have t1 : ((s[k].toNat : Int) == 32) = true := by simp; omega
          have t2 : (s[k].toNat : Int) ≤ 32 := by omega
          have t3 : (32 : Int) ≤ (s[k].toNat : Int) := by omega
          by_cases hl : st < k
          · have hto' := hto.space hlt hc hl
            have hstr := Lib.hid hto.str
            have hsz : 0 < (s.extract st k).size := by rw [hto.str, sizeL]; have := hto.cur_len hk; omega
            clear hc
            go_wp2_with (go_at_call 28; refine (appendField_add _ _ _ w.heap.size fs.length _ hsz hown hb.size hcnt).mono ?_; rintro e w1 ⟨v', rfl, hown', hb'⟩; rw [hstr.out] at hown'; have R1 := own_snoc rfl hown'; have R2 := hb.trans hb'; clear hown' hb')
            go_roundw
            case rel => exact ⟨k + 1, k + 1, fs ++ [cur], [], by omega, by go_num, by go_num, hto', by assumption, by assumption⟩
            case measure => simp [intOf]; omega
          · have hto' := hto.space0 hlt hc hl
            have hsz : (s.extract st k).size = 0 := by rw [hto.str, sizeL]; have := hto.cur_len hk; omega
            clear hc
            have HSZ := Lib.hid hsz
            clear hsz
            go_wp2_with (go_at_call 28; refine (appendField_nil _ _ _ HSZ.out).mono ?_; rintro e w1 ⟨rfl, rfl⟩)
            go_roundw
            case rel => exact ⟨k + 1, k + 1, fs, [], by omega, by go_num, by go_num, hto', hown, hb⟩
            case measure => simp [intOf]; omega
        · have hto' := hto.char hlt (by omega) (by omega)
          have t1 : ((s[k].toNat : Int) == 32) = false := by simp; omega
          have t2 : (s[k].toNat : Int) ≤ 126 := by omega
          have t3 : (32 : Int) < (s[k].toNat : Int) := by omega
          go_wp2
          go_roundw
          case rel => exact ⟨k + 1, st, fs, cur ++ [s[k]], by omega, by go_num, rfl, hto', hown, hb⟩
          case measure => simp [intOf]; omega
      · obtain rfl : k = s.size := by omega
        have Hok := Lib.hid (hto.okS rfl (by omega))
        by_cases hl : st < s.size
        · have Hfin := Lib.hid (hto.fin rfl (fs ++ [cur]) (by rw [if_pos hl]))
          have hstr := Lib.hid hto.str
          have hsz : 0 < (s.extract st s.size).size := by rw [hto.str, sizeL]; have := hto.cur_len hk; omega
          by_cases h24 : fs.length + 1 ≤ 24
          · have Hf := Lib.hid (splV_yes (l := s.data.toList) (by rw [Hok.out, Hfin.out]; simp; omega))
            have h24' : ¬ (24 : Int) < (fs.length : Int) + 1 := by omega
            go_wp2_with (go_at_call 28; refine (appendField_add _ _ _ w.heap.size fs.length _ hsz hown hb.size hcnt).mono ?_; rintro e w1 ⟨v', rfl, hown', hb'⟩; obtain ⟨pp, cc, hv⟩ := own_slice hown'; subst hv; rw [hstr.out] at hown'; have R1 := own_snoc rfl hown'; have R2 := hb.trans hb'; clear hown' hb')
            (try rw [Exit.noGoto_ret])
            go_ret2
            exact split_yes (by rw [Hf.out, Hfin.out]) (by assumption) (by assumption)
          · have Hf := Lib.hid (splV_no (l := s.data.toList) (by rw [Hok.out, Hfin.out]; simp; omega))
            have h24' : (24 : Int) < (fs.length : Int) + 1 := by omega
            go_wp2_with (go_at_call 28; refine (appendField_add _ _ _ w.heap.size fs.length _ hsz hown hb.size hcnt).mono ?_; rintro e w1 ⟨v', rfl, hown', hb'⟩; obtain ⟨pp, cc, hv⟩ := own_slice hown'; subst hv; have R2 := hb.trans hb'; clear hown' hb')
            (try rw [Exit.noGoto_ret])
            go_ret2
            exact split_no Hf.out (by assumption)
        · have Hfin := Lib.hid (hto.fin rfl fs (by rw [if_neg hl]))
          have hsz : (s.extract st s.size).size = 0 := by rw [hto.str, sizeL]; have := hto.cur_len hk; omega
          have HSZ := Lib.hid hsz
          clear hsz
          obtain ⟨pp, cc, hv⟩ := own_slice hown
          subst hv
          by_cases h24 : fs.length ≤ 24
          · have Hf := Lib.hid (splV_yes (l := s.data.toList) (by rw [Hok.out, Hfin.out]; simpa using h24))
            have h24' : ¬ (24 : Int) < (fs.length : Int) := by omega
            go_wp2_with (go_at_call 28; refine (appendField_nil _ _ _ HSZ.out).mono ?_; rintro e w1 ⟨rfl, rfl⟩)
            (try rw [Exit.noGoto_ret])
            go_ret2
            exact split_yes (by rw [Hf.out, Hfin.out]) hown hb
          · have Hf := Lib.hid (splV_no (l := s.data.toList) (by rw [Hok.out, Hfin.out]; simp; omega))
            have h24' : (24 : Int) < (fs.length : Int) := by omega
            go_wp2_with (go_at_call 28; refine (appendField_nil _ _ _ HSZ.out).mono ?_; rintro e w1 ⟨rfl, rfl⟩)
            (try rw [Exit.noGoto_ret])
            go_ret2
            exact split_no Hf.out hb
end Go.Proofs.YthkhoocnkjdabaaDoor
