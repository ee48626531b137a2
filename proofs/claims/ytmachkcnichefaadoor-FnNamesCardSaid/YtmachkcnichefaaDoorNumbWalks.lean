/- Contracts of impl.NoteNumber and spec.NoteNumber. -/
import Derived.Test.YtmachkcnichefaaDoorSNoteWalks
namespace Go.Proofs.YtmachkcnichefaaDoor
open Go.RowKit
set_option linter.unusedVariables false
theorem bytes_list (s : ByteArray) : s = ⟨s.data.toList.toArray⟩ := by
  apply ByteArray.ext
  simp
set_option maxHeartbeats 1000000 in
theorem number_impl {L : List UInt8} {n : Int} {y : Bool} (h : NumAt L n y) (w : World) (ht : LetTab w) :
    Calls Tryd.prog 8 #[.string ⟨L.toArray⟩] w fun e w' => e = .returned (.tuple #[.int .i64 n, .bool y]) ∧ Below w.heap.size w w' := by
  have H := Lib.hid h
  have T := Lib.hid ht
  clear h ht
  go_enter Tryd.func8, Tryd.ntmps8
  go_wp2
  go_loopw [4] (fun i wr => ∃ v : Int, -15 ≤ v ∧ v ≤ 20 ∧ i = .int .i64 v ∧ Hid (∀ m, HasN m → m < v → nameL m ≠ L) ∧ Hid (Below w.heap.size w wr)) (fun i _ => (20 - intOf i).toNat)
  case atStart => exact ⟨-15, by omega, by omega, rfl, Lib.hid (fun m h1 h2 => absurd h1.1 (by omega)), Lib.hid (Below.refl _ _)⟩
  case round =>
    obtain ⟨v, v0, v1, rfl, hno, hb⟩ := hrel
    by_cases h20 : v = 20
    · subst h20
      have E := Lib.hid (numAt_end H.out (fun m hm => hno.out m hm (by have := hm.2; omega)))
      clear hno
      go_wp2
      refine bodyPost_ret (v := .tuple #[.int .i64 0, .bool false]) (by simp [results, Tryd.results8, go_sem]) rfl ⟨by rw [E.out.1, E.out.2], hb.out⟩
    · have hv : HasN v := ⟨v0, by omega⟩
      by_cases e : nameL v = L
      · have E := Lib.hid (numAt_hit H.out hv e)
        have t0 : (nameL v == L) = true := by rw [e]; exact beq_self_eq_true L
        clear hno hv
        go_wp2_with fail
        refine (name_impl _ _ (T.out.below hb.out)).mono ?_
        rintro e w1 ⟨rfl, hb1⟩
        go_wp2_with fail
        refine bodyPost_ret (v := .tuple #[.int .i64 v, .bool true]) (by simp [results, Tryd.results8, go_sem]) rfl ⟨by rw [E.out.1, E.out.2], hb.out.trans (hb1.mono hb.out.size)⟩
      · have t0 : (nameL v == L) = false := by simpa using e
        have E := Lib.hid e
        clear hv e
        go_wp2_with fail
        refine (name_impl _ _ (T.out.below hb.out)).mono ?_
        rintro e w1 ⟨rfl, hb1⟩
        go_wp2_with fail
        go_roundw
        case rel => exact ⟨v + 1, by omega, by omega, rfl, Lib.hid (fun m hm h2 => by
          by_cases hmv : m = v
          · subst hmv; exact E.out
          · exact hno.out m hm (by omega)), Lib.hid (hb.out.trans (hb1.mono hb.out.size))⟩
        case measure => simp [intOf]; omega
set_option maxHeartbeats 1000000 in
theorem number_spec {L : List UInt8} {n : Int} {y : Bool} (h : NumAt L n y) (w : World) :
    Calls Tryd.prog 15 #[.string ⟨L.toArray⟩] w fun e w' => e = .returned (.tuple #[.int .i64 n, .bool y]) ∧ Below w.heap.size w w' := by
  have H := Lib.hid h
  clear h
  go_enter Tryd.func15, Tryd.ntmps15
  go_wp2
  go_loopw [4] (fun i wr => ∃ v : Int, -15 ≤ v ∧ v ≤ 20 ∧ i = .int .i64 v ∧ Hid (∀ m, HasN m → m < v → nameL m ≠ L) ∧ Hid (Below w.heap.size w wr)) (fun i _ => (20 - intOf i).toNat)
  case atStart => exact ⟨-15, by omega, by omega, rfl, Lib.hid (fun m h1 h2 => absurd h1.1 (by omega)), Lib.hid (Below.refl _ _)⟩
  case round =>
    obtain ⟨v, v0, v1, rfl, hno, hb⟩ := hrel
    by_cases h20 : v = 20
    · subst h20
      have E := Lib.hid (numAt_end H.out (fun m hm => hno.out m hm (by have := hm.2; omega)))
      clear hno
      go_wp2
      refine bodyPost_ret (v := .tuple #[.int .i64 0, .bool false]) (by simp [results, Tryd.results15, go_sem]) rfl ⟨by rw [E.out.1, E.out.2], hb.out⟩
    · have hv : HasN v := ⟨v0, by omega⟩
      by_cases e : nameL v = L
      · have E := Lib.hid (numAt_hit H.out hv e)
        have t0 : (nameL v == L) = true := by rw [e]; exact beq_self_eq_true L
        clear hno hv
        go_wp2_with fail
        refine (name_spec _ _).mono ?_
        rintro e w1 ⟨rfl, hb1⟩
        go_wp2_with fail
        refine bodyPost_ret (v := .tuple #[.int .i64 v, .bool true]) (by simp [results, Tryd.results15, go_sem]) rfl ⟨by rw [E.out.1, E.out.2], hb.out.trans (hb1.mono hb.out.size)⟩
      · have t0 : (nameL v == L) = false := by simpa using e
        have E := Lib.hid e
        clear hv e
        go_wp2_with fail
        refine (name_spec _ _).mono ?_
        rintro e w1 ⟨rfl, hb1⟩
        go_wp2_with fail
        go_roundw
        case rel => exact ⟨v + 1, by omega, by omega, rfl, Lib.hid (fun m hm h2 => by
          by_cases hmv : m = v
          · subst hmv; exact E.out
          · exact hno.out m hm (by omega)), Lib.hid (hb.out.trans (hb1.mono hb.out.size))⟩
        case measure => simp [intOf]; omega
end Go.Proofs.YtmachkcnichefaaDoor
