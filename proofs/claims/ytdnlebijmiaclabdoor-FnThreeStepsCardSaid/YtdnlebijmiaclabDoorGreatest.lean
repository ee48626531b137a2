/- Contract of impl.GreatestOf over a row of intervals that the call owns. -/
import Derived.Test.YtdnlebijmiaclabDoorCompareTone
import Derived.Test.YtdnlebijmiaclabDoorSameTone
import Derived.Test.YtdnlebijmiaclabDoorIvCells
namespace Go.Proofs.YtdnlebijmiaclabDoor
open Go.RowKit Go.Joins
set_option linter.unusedVariables false
/-- The greatest of the first k; none if one of them is not valid. -/
def gTo (xs : List Iv) : Nat → Option Nat
  | 0 => some 0
  | k + 1 => match gTo xs k with
    | none => none
    | some g => if okV (ivAt xs k) = true ∧ okV (ivAt xs g) = true then (if 0 < cmpV (ivAt xs k) (ivAt xs g) then some k else some g) else none
def gList (xs : List Iv) : Int := if xs.length = 0 ∨ 20 < xs.length then -1 else match gTo xs xs.length with | none => -1 | some g => (g : Int)
theorem gTo_none {xs : List Iv} {k : Nat} (h : gTo xs k = none) : ∀ m, k ≤ m → gTo xs m = none
  | 0, hm => by have : k = 0 := by omega
                subst this; exact h
  | m + 1, hm => by
    rcases (show k = m + 1 ∨ k ≤ m from by omega) with rfl | h'
    · exact h
    · unfold gTo; rw [gTo_none h m h']
theorem gTo_up {xs : List Iv} {k g : Nat} (h : gTo xs k = some g) (hok : okV (ivAt xs k) = true ∧ okV (ivAt xs g) = true) (hc : 0 < cmpV (ivAt xs k) (ivAt xs g)) : gTo xs (k + 1) = some k := by
  show (match gTo xs k with | none => none | some g => _) = _
  rw [h]; simp only; rw [if_pos hok, if_pos hc]
theorem gTo_stay {xs : List Iv} {k g : Nat} (h : gTo xs k = some g) (hok : okV (ivAt xs k) = true ∧ okV (ivAt xs g) = true) (hc : ¬ 0 < cmpV (ivAt xs k) (ivAt xs g)) : gTo xs (k + 1) = some g := by
  show (match gTo xs k with | none => none | some g => _) = _
  rw [h]; simp only; rw [if_pos hok, if_neg hc]
theorem gTo_bad {xs : List Iv} {k g : Nat} (h : gTo xs k = some g) (hok : ¬ (okV (ivAt xs k) = true ∧ okV (ivAt xs g) = true)) : gTo xs (k + 1) = none := by
  show (match gTo xs k with | none => none | some g => _) = _
  rw [h]; simp only; rw [if_neg hok]
theorem gList_bad {xs : List Iv} {k : Nat} (h : gTo xs k = none) (hk : k ≤ xs.length) : gList xs = -1 := by
  unfold gList
  rw [gTo_none h _ hk]
  split <;> rfl
theorem gList_some {xs : List Iv} {g : Nat} (h : gTo xs xs.length = some g) (h1 : 0 < xs.length) (h2 : xs.length ≤ 20) : gList xs = (g : Int) := by
  unfold gList
  rw [if_neg (by omega), h]
/-- compared, told without a look inside. -/
def CmpdPick (A : Addr) (a b c d e f g h : Int) (x : Int) (er : Value) : Prop := ∀ w, SenAt A w → Calls Tryd.prog 55 #[ivV a b c d, ivV e f g h] w fun en w' => en = .returned (.tuple #[.int .i64 x, er]) ∧ Below w.heap.size w w'
theorem cmpd_ok (A : Addr) {a b c d e f g h : Int} (hx : okI a b c d = true ∧ okI e f g h = true) : CmpdPick A a b c d e f g h (cmp8 a b c d e f g h) .nilIface := fun w hs => (compared_any A a b c d e f g h w hs).mono fun en w' hp => cmpPost_ok hx hp
theorem cmpd_bad (A : Addr) {a b c d e f g h : Int} (hx : ¬ (okI a b c d = true ∧ okI e f g h = true)) : CmpdPick A a b c d e f g h 0 (.iface 115 (.pointer (some A))) := fun w hs => (compared_any A a b c d e f g h w hs).mono fun en w' hp => cmpPost_bad hx hp
theorem cmpd_pick {A : Addr} {a b c d e f g h x : Int} {er : Value} (hh : CmpdPick A a b c d e f g h x er) (w : World) (hs : SenAt A w) : Calls Tryd.prog 55 #[ivV a b c d, ivV e f g h] w fun en w' => en = .returned (.tuple #[.int .i64 x, er]) ∧ Below w.heap.size w w' := hh w hs
/-- An interval in its own block, and one in a row. -/
def Both (m g o : Nat) (p q r s e f g' h : Int) (w : World) : Prop := Four m p q r s w ∧ g < w.heap.size ∧ w.cell? ⟨g, o, none⟩ = some (.int .i64 e) ∧ w.cell? ⟨g, o + 1, none⟩ = some (.int .i64 f) ∧ w.cell? ⟨g, o + 2, none⟩ = some (.int .i64 g') ∧ w.cell? ⟨g, o + 3, none⟩ = some (.int .i64 h)
theorem both_keep {W w : World} {m g o : Nat} {p q r s e f g' h : Int} (hb : Below W.heap.size W w) (hp : Both m g o p q r s e f g' h W) : Both m g o p q r s e f g' h w :=
  ⟨four_keep hb hp.1, Nat.lt_of_lt_of_le hp.2.1 hb.size, (hb.cell hp.2.1).trans hp.2.2.1, (hb.cell hp.2.1).trans hp.2.2.2.1, (hb.cell hp.2.1).trans hp.2.2.2.2.1, (hb.cell hp.2.1).trans hp.2.2.2.2.2⟩
theorem both_drew {w : World} {m g o : Nat} {p q r s e f g' h : Int} (hp : Both m g o p q r s e f g' h w) : Both m g o p q r s e f g' h w.drew := hp
theorem both_cells {w : World} {m g o : Nat} {p q r s e f g' h : Int} (hp : Both m g o p q r s e f g' h w) : w.cell? ⟨m, 0, none⟩ = some (.int .i64 p) ∧ w.cell? ⟨m, 1, none⟩ = some (.int .i64 q) ∧ w.cell? ⟨m, 2, none⟩ = some (.int .i64 r) ∧ w.cell? ⟨m, 3, none⟩ = some (.int .i64 s) ∧ w.cell? ⟨g, o, none⟩ = some (.int .i64 e) ∧ w.cell? ⟨g, o + 1, none⟩ = some (.int .i64 f) ∧ w.cell? ⟨g, o + 2, none⟩ = some (.int .i64 g') ∧ w.cell? ⟨g, o + 3, none⟩ = some (.int .i64 h) :=
  ⟨hp.1.2.1, hp.1.2.2.1, hp.1.2.2.2.1, hp.1.2.2.2.2, hp.2.2⟩
set_option maxRecDepth 100000 in
set_option maxHeartbeats 2000000 in
theorem greatest_impl (A : Addr) (w : World) (b : Nat) (e : TypeId) (v : Value) (xs : List Iv) (hx : xs.length ≤ 2000000) (h : w.ownsRow b e 4 v xs.length (ivCs xs)) (hs : SenAt A w) :
    Calls Tryd.prog 21 #[v] w fun en w' => en = .returned (.int .i64 (gList xs)) ∧ Below w.heap.size w w' := by
  have HS := Lib.hid hs
  obtain ⟨n, hn⟩ : ∃ n, n = xs.length := ⟨_, rfl⟩
  rw [← hn] at h hx
  have HN := Lib.hid hn
  clear hn hs
  rcases Nat.eq_zero_or_pos n with h0 | h0
  · have Y := Lib.hid (show gList xs = -1 from by unfold gList; rw [if_pos (.inl (by have := HN.out; omega))])
    obtain ⟨p1, c1, rfl⟩ := own4_zero h h0
    clear h
    go_enter Tryd.func21, Tryd.ntmps21
    go_wp2
    go_ret
    exact ⟨ret_int Y.out.symm, Below.refl _ _⟩
  · obtain ⟨g0, cap, rfl, _, hgl⟩ := own4_pos h h0
    have t0 : ((n : Int) == 0) = false := by simp; omega
    by_cases h20 : n ≤ 20
    · have t1 : ¬ (20 : Int) < n := by omega
      have HH := Lib.hid h
      have HG := Lib.hid hgl
      clear h hgl
      go_enter Tryd.func21, Tryd.ntmps21
      go_wp2
      go_loopw [3, 4, 5, 6, 7, 18] (fun gv _ _ _ _ i wr => ∃ (k gg : Nat), k ≤ n ∧ i = .int .i64 (k : Int) ∧ gv = .int .i64 (gg : Int) ∧ gTo xs k = some gg ∧ gg < n ∧ Below w.heap.size w wr) (fun _ _ _ _ _ i _ => n - (intOf i).toNat)
      case atStart => exact ⟨0, 0, Nat.zero_le _, rfl, rfl, rfl, h0, Below.refl _ _⟩
      case round =>
        obtain ⟨k, gg, hk, rfl, rfl, hto, hgg, hb⟩ := hrel
        have HTO := Lib.hid hto
        have HB := Lib.hid hb
        clear hto hb
        by_cases hlt : k < n
        · have q3 : (k : Int) < n := by omega
          have q4 : (gg : Int) < n := by omega
          have hrow := own4_below HH.out HB.out
          have r1 := own_iv hrow HN.out k hlt
          have r2 := own_iv hrow HN.out gg hgg
          obtain ⟨X, hX⟩ : ∃ X, X = ivAt xs k := ⟨_, rfl⟩
          obtain ⟨Y, hY⟩ : ∃ X, X = ivAt xs gg := ⟨_, rfl⟩
          rw [← hX] at r1
          rw [← hY] at r2
          have HXY := Lib.hid (And.intro hX hY)
          obtain ⟨x0, x1, x2, x3⟩ := r1
          have R2 := Lib.hid r2
          clear hX hY hrow r2
          have hgw : g0 < wr.heap.size := Nat.lt_of_lt_of_le HG.out HB.out.size
          go_upto_region 7 with fail
          obtain ⟨mX, hmX⟩ : ∃ m, m = wr.heap.size := ⟨_, rfl⟩
          obtain ⟨W1, hW1⟩ : ∃ y, y = wr.alloc (.cells #[.int .i64 X.two, .int .i64 X.three, .int .i64 X.five, .int .i64 X.root] 25) := ⟨_, rfl⟩
          have kb : Below wr.heap.size wr W1 := by rw [hW1]; exact below_alloc1 wr _
          have gX : Four mX X.two X.three X.five X.root W1 := by rw [hW1, hmX]; exact four_alloc
          have gY : Both mX g0 (gg * 4) X.two X.three X.five X.root Y.two Y.three Y.five Y.root W1 := ⟨gX, Nat.lt_of_lt_of_le hgw kb.size, (kb.cell hgw).trans R2.out.1, (kb.cell hgw).trans R2.out.2.1, (kb.cell hgw).trans R2.out.2.2.1, (kb.cell hgw).trans R2.out.2.2.2⟩
          have bb := HB.out.trans (kb.mono HB.out.size)
          rw [← hW1, ← hmX]
          have TB := Lib.hid gY
          have BB := Lib.hid bb
          have HS1 := Lib.hid (senAt_below HS.out bb)
          clear hW1 hmX kb gX gY bb x0 x1 x2 x3 R2 HB hgw
          by_cases hok : okV X = true ∧ okV Y = true
          · obtain ⟨C, hC⟩ : ∃ C, C = cmpV X Y := ⟨_, rfl⟩
            have PK : CmpdPick A X.two X.three X.five X.root Y.two Y.three Y.five Y.root C .nilIface := by rw [hC]; exact cmpd_ok A hok
            by_cases hc : 0 < C
            · have NX := Lib.hid (gTo_up HTO.out (by rw [← HXY.out.1, ← HXY.out.2]; exact hok) (by rw [← HXY.out.1, ← HXY.out.2, ← hC]; exact hc))
              clear hC hok
              go_region_held3 (fun w' => w'.cell? ⟨mX, 0, none⟩ = some (.int .i64 X.two) ∧ w'.cell? ⟨mX, 1, none⟩ = some (.int .i64 X.three) ∧ w'.cell? ⟨mX, 2, none⟩ = some (.int .i64 X.five) ∧ w'.cell? ⟨mX, 3, none⟩ = some (.int .i64 X.root) ∧ w'.cell? ⟨g0, gg * 4, none⟩ = some (.int .i64 Y.two) ∧ w'.cell? ⟨g0, gg * 4 + 1, none⟩ = some (.int .i64 Y.three) ∧ w'.cell? ⟨g0, gg * 4 + 2, none⟩ = some (.int .i64 Y.five) ∧ w'.cell? ⟨g0, gg * 4 + 3, none⟩ = some (.int .i64 Y.root)) (with_reducible first | exact both_cells (both_drew TB.out) | exact both_cells (both_keep (by assumption) TB.out) | exact both_cells TB.out)
                (first
                  | (go_at_call 55; refine (calls_fromS (W := W1) (by with_reducible first | assumption | exact (Below.refl _ _).drew) (cmpd_pick (by with_reducible assumption) _ (senAt_below HS1.out (by with_reducible first | assumption | exact (Below.refl _ _).drew)))).mono ?_; rintro e1 w1 ⟨rfl, hb⟩))
              have RB := Lib.hid (BB.out.trans (hb.mono BB.out.size))
              have sE := senAt_below HS.out RB.out
              unfold SenAt at sE
              clear hb
              go_wp2_with fail
              refine (is_nil A _).mono ?_
              rintro en w2 ⟨rfl, rfl⟩
              go_wp2_with fail
              go_roundw
              case rel => exact ⟨k + 1, k, by omega, by go_num, rfl, NX.out, by omega, RB.out⟩
              case measure => simp [intOf]; omega
            · have NX := Lib.hid (gTo_stay HTO.out (by rw [← HXY.out.1, ← HXY.out.2]; exact hok) (by rw [← HXY.out.1, ← HXY.out.2, ← hC]; exact hc))
              clear hC hok
              go_region_held3 (fun w' => w'.cell? ⟨mX, 0, none⟩ = some (.int .i64 X.two) ∧ w'.cell? ⟨mX, 1, none⟩ = some (.int .i64 X.three) ∧ w'.cell? ⟨mX, 2, none⟩ = some (.int .i64 X.five) ∧ w'.cell? ⟨mX, 3, none⟩ = some (.int .i64 X.root) ∧ w'.cell? ⟨g0, gg * 4, none⟩ = some (.int .i64 Y.two) ∧ w'.cell? ⟨g0, gg * 4 + 1, none⟩ = some (.int .i64 Y.three) ∧ w'.cell? ⟨g0, gg * 4 + 2, none⟩ = some (.int .i64 Y.five) ∧ w'.cell? ⟨g0, gg * 4 + 3, none⟩ = some (.int .i64 Y.root)) (with_reducible first | exact both_cells (both_drew TB.out) | exact both_cells (both_keep (by assumption) TB.out) | exact both_cells TB.out)
                (first
                  | (go_at_call 55; refine (calls_fromS (W := W1) (by with_reducible first | assumption | exact (Below.refl _ _).drew) (cmpd_pick (by with_reducible assumption) _ (senAt_below HS1.out (by with_reducible first | assumption | exact (Below.refl _ _).drew)))).mono ?_; rintro e1 w1 ⟨rfl, hb⟩))
              have RB := Lib.hid (BB.out.trans (hb.mono BB.out.size))
              have sE := senAt_below HS.out RB.out
              unfold SenAt at sE
              clear hb
              go_wp2_with fail
              refine (is_nil A _).mono ?_
              rintro en w2 ⟨rfl, rfl⟩
              go_wp2_with fail
              go_roundw
              case rel => exact ⟨k + 1, gg, by omega, by go_num, rfl, NX.out, by omega, RB.out⟩
              case measure => simp [intOf]; omega
          · have PK : CmpdPick A X.two X.three X.five X.root Y.two Y.three Y.five Y.root 0 (.iface 115 (.pointer (some A))) := cmpd_bad A hok
            have NX := Lib.hid (gTo_bad HTO.out (by rw [← HXY.out.1, ← HXY.out.2]; exact hok))
            clear hok
            go_region_held3 (fun w' => w'.cell? ⟨mX, 0, none⟩ = some (.int .i64 X.two) ∧ w'.cell? ⟨mX, 1, none⟩ = some (.int .i64 X.three) ∧ w'.cell? ⟨mX, 2, none⟩ = some (.int .i64 X.five) ∧ w'.cell? ⟨mX, 3, none⟩ = some (.int .i64 X.root) ∧ w'.cell? ⟨g0, gg * 4, none⟩ = some (.int .i64 Y.two) ∧ w'.cell? ⟨g0, gg * 4 + 1, none⟩ = some (.int .i64 Y.three) ∧ w'.cell? ⟨g0, gg * 4 + 2, none⟩ = some (.int .i64 Y.five) ∧ w'.cell? ⟨g0, gg * 4 + 3, none⟩ = some (.int .i64 Y.root)) (with_reducible first | exact both_cells (both_drew TB.out) | exact both_cells (both_keep (by assumption) TB.out) | exact both_cells TB.out)
              (first
                | (go_at_call 55; refine (calls_fromS (W := W1) (by with_reducible first | assumption | exact (Below.refl _ _).drew) (cmpd_pick (by with_reducible assumption) _ (senAt_below HS1.out (by with_reducible first | assumption | exact (Below.refl _ _).drew)))).mono ?_; rintro e1 w1 ⟨rfl, hb⟩))
            have RB := Lib.hid (BB.out.trans (hb.mono BB.out.size))
            have sE := senAt_below HS.out RB.out
            unfold SenAt at sE
            clear hb
            go_wp2_with fail
            refine (is_same A _).mono ?_
            rintro en w2 ⟨rfl, rfl⟩
            go_wp2_with fail
            go_ret
            exact ⟨ret_int (gList_bad NX.out (by have := HN.out; omega)).symm, RB.out⟩
        · have q3 : ¬ (k : Int) < n := by omega
          obtain rfl : k = n := by omega
          have Y := Lib.hid (gList_some (by rw [← HN.out]; exact HTO.out) (by have := HN.out; omega) (by have := HN.out; omega))
          go_wp2_with fail
          go_ret
          exact ⟨ret_int Y.out.symm, HB.out⟩
    · have t1 : (20 : Int) < n := by omega
      have Y := Lib.hid (show gList xs = -1 from by unfold gList; rw [if_pos (.inr (by have := HN.out; omega))])
      clear h
      go_enter Tryd.func21, Tryd.ntmps21
      go_wp2
      go_ret
      exact ⟨ret_int Y.out.symm, Below.refl _ _⟩
end Go.Proofs.YtdnlebijmiaclabDoor
