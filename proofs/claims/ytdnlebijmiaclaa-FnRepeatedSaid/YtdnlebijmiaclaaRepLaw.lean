/- The walk of laws.FnRepeated. -/
import Derived.Test.YtdnlebijmiaclaaDrawTone
import Derived.Test.YtdnlebijmiaclaaTonesMath
import Derived.Test.YtdnlebijmiaclaaToneWalks
import Derived.Test.YtdnlebijmiaclaaBigWalk
namespace Go.Proofs.Ytdnlebijmiaclaa
open Go.RowKit Go.Joins
set_option linter.unusedVariables false
theorem four_drew {w : World} {m : Nat} {p q r s : Int} (h : Four m p q r s w) : Four m p q r s w.drew := h
theorem four_al {w : World} {m : Nat} {p q r s : Int} {o : Obj} (h : Four m p q r s w) : Four m p q r s (w.alloc o) := four_keep (below_alloc1 w o) h
set_option maxHeartbeats 4000000 in
theorem walk_FnRepeated (a0 : Option Addr) (len0 cap0 : Nat) (z0 : List Int) (w : World) (hr : IsRow .u8 w a0 len0 cap0 z0) :
    Calls Try.prog 4 #[.slice a0 len0 cap0] w fun e w' => e = .returned (.bool true) ∧ Below w.heap.size w w' := by
  have hlen := (row_len hr).2
  by_cases hbig : 1048576 < len0
  · have t0 : decide (1048576 < (len0 : Int)) = true := by simp; omega
    go_enter Try.func4, Try.ntmps4
    go_wp2_with fail
    refine (bigW_any _ _ _ _ hlen).mono ?_
    rintro e w' ⟨rfl, rfl⟩
    go_wp2_with fail
    go_ret
    exact ⟨rfl, Below.refl _ _⟩
  · have t0 : decide (1048576 < (len0 : Int)) = false := by simp; omega
    have HR := Lib.hid hr
    clear hr
    go_enter Try.func4, Try.ntmps4
    go_wp2_with fail
    refine (bigW_any _ _ _ _ hlen).mono ?_
    rintro e w' ⟨rfl, rfl⟩
    go_wp2_with fail
    refine (drawTones_any HR.out).mono ?_
    rintro e w1 ⟨a, b, c, d, a', b', c', d', a'', b'', c'', d'', hT, _, _, rfl, hb1⟩
    obtain ⟨p, q, r, s, t, u, v, x, hh⟩ := rep_facts a b c d (ti_loose hT)
    have HH := Lib.hid hh
    have HB1 : Hid (Below w.heap.size w (((w1.alloc (.cells #[.int .i64 a, .int .i64 b, .int .i64 c, .int .i64 d] 25)).alloc (.cells #[.int .i64 a', .int .i64 b', .int .i64 c', .int .i64 d'] 25)).alloc (.cells #[.int .i64 a'', .int .i64 b'', .int .i64 c'', .int .i64 d''] 25))) := Lib.hid (hb1.trans ((below_alloc3 w1 _ _ _).mono hb1.size))
    clear hh hT hb1 hbig hlen
    go_wp2_with fail
    have F0 : Hid (Four w1.heap.size a b c d (((w1.alloc (.cells #[.int .i64 a, .int .i64 b, .int .i64 c, .int .i64 d] 25)).alloc (.cells #[.int .i64 a', .int .i64 b', .int .i64 c', .int .i64 d'] 25)).alloc (.cells #[.int .i64 a'', .int .i64 b'', .int .i64 c'', .int .i64 d''] 25))) := Lib.hid (four_al (four_al four_alloc))
    refine (HH.out.1 _).mono ?_
    rintro e w2 ⟨rfl, h2⟩
    have hf := four_keep h2 F0.out
    have HB2 : Hid (Below w.heap.size w w2) := Lib.hid (HB1.out.trans (h2.mono HB1.out.size))
    have F0 := Lib.hid hf
    clear HB1 h2
    obtain ⟨n0, q0, q1, q2, q3⟩ := hf
    obtain ⟨n, hn⟩ : ∃ n, n = w1.heap.size := ⟨_, rfl⟩
    rw [← hn] at F0 n0 q0 q1 q2 q3 ⊢
    clear hn
    go_wp2_with fail
    refine (HH.out.2.1 _).mono ?_
    rintro e w3 ⟨rfl, h3⟩
    have hf := four_keep h3 (four_al F0.out)
    have hf6 : Four w2.heap.size p q r s w3 := four_keep h3 four_alloc
    have HB3 : Hid (Below w.heap.size w w3) := Lib.hid (HB2.out.trans (((below_alloc1 w2 _).trans (h3.mono (by simp))).mono HB2.out.size))
    clear HB2 h3 n0 q0 q1 q2 q3 F0
    have F0 := Lib.hid hf
    obtain ⟨n0, q0, q1, q2, q3⟩ := hf
    obtain ⟨m6, hm6⟩ : ∃ n, n = w2.heap.size := ⟨_, rfl⟩
    rw [← hm6] at hf6 ⊢
    clear hm6
    have F6 := Lib.hid hf6
    clear hf6
    go_wp2_with fail
    refine (HH.out.2.2.1 _).mono ?_
    rintro e w4 ⟨rfl, h4⟩
    have hf := four_keep h4 (four_al F0.out)
    have hf6 := four_keep h4 (four_al F6.out)
    have HB4 : Hid (Below w.heap.size w w4) := Lib.hid (HB3.out.trans (((below_alloc1 w3 _).trans (h4.mono (by simp))).mono HB3.out.size))
    clear HB3 h4 n0 q0 q1 q2 q3 F0 F6
    have F0 := Lib.hid hf
    have F6 := Lib.hid hf6
    clear hf6
    obtain ⟨n0, q0, q1, q2, q3⟩ := hf
    obtain ⟨m8, hm8⟩ : ∃ n, n = w3.heap.size := ⟨_, rfl⟩
    rw [← hm8]
    clear hm8
    go_wp2_with fail
    refine (HH.out.2.2.2 _).mono ?_
    rintro e w5 ⟨rfl, h5⟩
    have hf6 := four_keep h5 (four_al F6.out)
    have hf10 : Four w4.heap.size p q r s w5 := four_keep h5 four_alloc
    have HB5 : Hid (Below w.heap.size w w5) := Lib.hid (HB4.out.trans (((below_alloc1 w4 _).trans (h5.mono (by simp))).mono HB4.out.size))
    clear HB4 h5 n0 q0 q1 q2 q3 F0 F6 HH
    obtain ⟨m10, hm10⟩ : ∃ n, n = w4.heap.size := ⟨_, rfl⟩
    rw [← hm10] at hf10 ⊢
    clear hm10
    have F6 := Lib.hid (four_al (o := .cells #[.int .i64 0, .int .i64 0, .int .i64 0, .int .i64 1] 25) hf6)
    have F10 := Lib.hid (four_al (o := .cells #[.int .i64 0, .int .i64 0, .int .i64 0, .int .i64 1] 25) hf10)
    have F12 : Hid (Four w5.heap.size 0 0 0 1 (w5.alloc (.cells #[.int .i64 0, .int .i64 0, .int .i64 0, .int .i64 1] 25))) := Lib.hid four_alloc
    have HB6 : Hid (Below w.heap.size w (w5.alloc (.cells #[.int .i64 0, .int .i64 0, .int .i64 0, .int .i64 1] 25))) := Lib.hid (HB5.out.trans ((below_alloc1 w5 _).mono HB5.out.size))
    clear hf6 hf10 HB5
    go_wp2_with fail
    obtain ⟨m12, hm12⟩ : ∃ n, n = w5.heap.size := ⟨_, rfl⟩
    obtain ⟨w6, hw6⟩ : ∃ x, x = w5.alloc (.cells #[.int .i64 0, .int .i64 0, .int .i64 0, .int .i64 1] 25) := ⟨_, rfl⟩
    rw [← hm12] at F12 ⊢
    rw [← hw6] at F6 F10 F12 HB6 ⊢
    clear hm12 hw6
    obtain ⟨_, x0, x1, x2, x3⟩ := four_drew F6.out
    obtain ⟨_, y0, y1, y2, y3⟩ := four_drew F10.out
    obtain ⟨_, z0, z1, z2, z3⟩ := four_drew F12.out
    go_region_held3 (fun w' => w'.cell? ⟨m6, 0, none⟩ = some (.int .i64 p) ∧ w'.cell? ⟨m6, 1, none⟩ = some (.int .i64 q) ∧ w'.cell? ⟨m6, 2, none⟩ = some (.int .i64 r) ∧ w'.cell? ⟨m6, 3, none⟩ = some (.int .i64 s) ∧ w'.cell? ⟨m10, 0, none⟩ = some (.int .i64 p) ∧ w'.cell? ⟨m10, 1, none⟩ = some (.int .i64 q) ∧ w'.cell? ⟨m10, 2, none⟩ = some (.int .i64 r) ∧ w'.cell? ⟨m10, 3, none⟩ = some (.int .i64 s) ∧ w'.cell? ⟨m12, 0, none⟩ = some (.int .i64 0) ∧ w'.cell? ⟨m12, 1, none⟩ = some (.int .i64 0) ∧ w'.cell? ⟨m12, 2, none⟩ = some (.int .i64 0) ∧ w'.cell? ⟨m12, 3, none⟩ = some (.int .i64 1)) (with_reducible first | exact ⟨x0, x1, x2, x3, y0, y1, y2, y3, z0, z1, z2, z3⟩ | assumption)
      (first
        | (go_at_call 23; refine (pure_impl_yes 0 0 0 _ (by decide)).mono ?_; rintro e1 w7 ⟨rfl, hb7⟩; have gg6 := four_keep hb7 (four_drew F6.out); have gg10 := four_keep hb7 (four_drew F10.out); have gg12 := four_keep hb7 (four_drew F12.out); have gg : _ ∧ _ ∧ _ := ⟨gg6.2, gg10.2, gg12.2⟩; obtain ⟨⟨x0, x1, x2, x3⟩, ⟨y0, y1, y2, y3⟩, ⟨z0, z1, z2, z3⟩⟩ := gg))
    go_wp2_with fail
    go_ret
    exact ⟨rfl, HB6.out.drew.trans (hb7.mono HB6.out.size)⟩
end Go.Proofs.Ytdnlebijmiaclaa
