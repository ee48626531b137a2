/- A row of intervals in a block of the call's own, sorted in place: what is kept, an exchange, a comparison. -/
import Derived.Test.YtfhefakacjkmiaaDoorSortMath
import Derived.Test.YtfhefakacjkmiaaDoorCompareTone
import Derived.Test.YtfhefakacjkmiaaDoorIvRows
namespace Go.Proofs.YtfhefakacjkmiaaDoor
open Go.RowKit Go.Joins
set_option linter.unusedVariables false
/-- The elements at the places 0 to n - 1. -/
def rowL (n : Nat) (f : Nat → Iv) : List Iv := (List.range n).map f
theorem rowL_len (n : Nat) (f : Nat → Iv) : (rowL n f).length = n := by simp [rowL]
theorem rowL_at {n i : Nat} (f : Nat → Iv) (h : i < n) : ivAt (rowL n f) i = f i := by simp [ivAt, rowL, h]
theorem rowL_set {n j : Nat} (f : Nat → Iv) (x : Iv) (h : j < n) : (rowL n f).set j x = rowL n (fun t => if t = j then x else f t) := by
  refine List.ext_getElem (by simp [rowL]) fun i h1 h2 => ?_
  simp only [rowL, List.getElem_set, List.getElem_map, List.getElem_range]
  by_cases hij : j = i
  · subst hij; simp
  · rw [if_neg hij, if_neg (fun h => hij h.symm)]
theorem rowL_congr {n : Nat} {f f' : Nat → Iv} (h : ∀ t, t < n → f t = f' t) : rowL n f = rowL n f' := by
  refine List.ext_getElem (by simp [rowL]) fun i h1 h2 => ?_
  simp only [rowL, List.getElem_map, List.getElem_range]
  exact h i (by simpa [rowL] using h1)
/-- The row in block g, which the call has made since w0, where B blocks lay; below B all is as it was. -/
def Srt (w0 : World) (B g cap n : Nat) (f : Nat → Iv) (W : World) : Prop :=
  W.ownsRow B 29 4 (.slice (some ⟨g, 0, none⟩) n cap) n (ivCs (rowL n f)) ∧ Below B w0 W ∧ B ≤ w0.heap.size
section
variable {w0 W : World} {B g cap n : Nat} {f : Nat → Iv}
theorem Srt.base (h : Srt w0 B g cap n f W) : B ≤ g ∧ g < W.heap.size := by
  rcases own4_shape h.1 with ⟨h1, _⟩ | ⟨g', cap', h1, h2, h3⟩
  · simp at h1
  · simp only [Value.slice.injEq, Option.some.injEq, Addr.mk.injEq, and_true] at h1
    obtain ⟨rfl, -⟩ := h1
    exact ⟨h2, h3⟩
theorem Srt.drew (h : Srt w0 B g cap n f W) : Srt w0 B g cap n f W.drew := ⟨own4_below h.1 (Below.refl _ _).drew, h.2.1.drew, h.2.2⟩
theorem Srt.below {w' : World} (h : Srt w0 B g cap n f W) (hb : Below W.heap.size W w') : Srt w0 B g cap n f w' :=
  ⟨own4_below h.1 hb, h.2.1.trans (hb.mono (Nat.le_trans h.2.2 h.2.1.size)), h.2.2⟩
theorem Srt.congr {f' : Nat → Iv} (h : Srt w0 B g cap n f W) (e : ∀ t, t < n → f t = f' t) : Srt w0 B g cap n f' W := by
  have := rowL_congr e
  unfold Srt at h ⊢
  rw [← this]
  exact h
theorem Srt.sen {A : Addr} (h : Srt w0 B g cap n f W) (hs : SenAt A w0) (hB : 0 < B) : SenAt A W := (h.2.1.cell (p := ⟨0, 0, none⟩) hB).trans hs
/-- The four cells of the element at a place. -/
def Cell4 (g o : Nat) (x : Iv) (w : World) : Prop := w.cell? ⟨g, o, none⟩ = some (.int .i64 x.two) ∧ w.cell? ⟨g, o + 1, none⟩ = some (.int .i64 x.three) ∧ w.cell? ⟨g, o + 2, none⟩ = some (.int .i64 x.five) ∧ w.cell? ⟨g, o + 3, none⟩ = some (.int .i64 x.root)
theorem Srt.cells (h : Srt w0 B g cap n f W) {i : Nat} (hi : i < n) : Cell4 g (i * 4) (f i) W := by
  have k := own_iv h.1 (rowL_len n f).symm i hi
  rw [rowL_at f hi] at k
  exact k
theorem Srt.free (h : Srt w0 B g cap n f W) (o : Nat) : W.frozen? ⟨g, o, none⟩ = false := h.1.frozenAt o
/-- Four stores. -/
def put4 (w : World) (g o : Nat) (x : Iv) : World := (((w.setCell ⟨g, o, none⟩ (.int .i64 x.two)).setCell ⟨g, o + 1, none⟩ (.int .i64 x.three)).setCell ⟨g, o + 2, none⟩ (.int .i64 x.five)).setCell ⟨g, o + 3, none⟩ (.int .i64 x.root)
theorem Srt.put (h : Srt w0 B g cap n f W) {i : Nat} (hi : i < n) (x : Iv) : Srt w0 B g cap n (fun t => if t = i then x else f t) (put4 W g (i * 4) x) := by
  have hg := h.base.1
  have s1 := h.1.stored (i * 4) (.int .i64 x.two)
  have s2 := s1.1.stored (i * 4 + 1) (.int .i64 x.three)
  have s3 := s2.1.stored (i * 4 + 2) (.int .i64 x.five)
  have s4 := s3.1.stored (i * 4 + 3) (.int .i64 x.root)
  refine ⟨?_, (((h.2.1.setCell hg _).setCell hg _).setCell hg _).setCell hg _, h.2.2⟩
  have k := s4.1
  rw [ivCs_set _ _ _ (by rw [rowL_len]; exact hi), rowL_set f x hi] at k
  exact k
/-- Two elements exchanged. -/
theorem Srt.swap (h : Srt w0 B g cap n f W) {i j : Nat} (hi : i < n) (hj : j < n) : Srt w0 B g cap n (swF f i j) (put4 (put4 W g (i * 4) (f j)) g (j * 4) (f i)) := by
  refine ((h.put hi (f j)).put hj (f i)).congr fun t ht => ?_
  unfold swF
  by_cases h1 : t = j
  · by_cases h2 : t = i
    · rw [if_pos h1, if_pos h2, ← h2, ← h1]
    · rw [if_pos h1, if_neg h2, if_pos h1]
  · rw [if_neg h1, if_neg h1]
/-- What the exchange's two runs of stores leave, named. -/
theorem swapped (h : Srt w0 B g cap n f W) {i j : Nat} (hi : i < n) (hj : j < n) : ∃ X, X = ((((((((W.setCell ⟨g, i * 4, none⟩ (.int .i64 (f j).two)).setCell ⟨g, i * 4 + 1, none⟩ (.int .i64 (f j).three)).setCell ⟨g, i * 4 + 2, none⟩ (.int .i64 (f j).five)).setCell ⟨g, i * 4 + 3, none⟩ (.int .i64 (f j).root)).setCell ⟨g, j * 4, none⟩ (.int .i64 (f i).two)).setCell ⟨g, j * 4 + 1, none⟩ (.int .i64 (f i).three)).setCell ⟨g, j * 4 + 2, none⟩ (.int .i64 (f i).five)).setCell ⟨g, j * 4 + 3, none⟩ (.int .i64 (f i).root)).drew ∧ Srt w0 B g cap n (swF f i j) X :=
  ⟨_, rfl, (h.swap hi hj).drew⟩
end
end Go.Proofs.YtfhefakacjkmiaaDoor
/- Keys in the order of the comparison; a comparison of two elements of a row. -/
namespace Go.Proofs.YtfhefakacjkmiaaDoor
open Go.RowKit Go.Joins
set_option linter.unusedVariables false
/-- Of the elements of the row, one is less than another just if its key is. -/
def Keyd (key : Iv → Int) (n : Nat) (f : Nat → Iv) : Prop := ∀ s t, s < n → t < n → (cmpV (f s) (f t) < 0 ↔ key (f s) < key (f t))
theorem Keyd.mv {key : Iv → Int} {n a b : Nat} {f f' : Nat → Iv} (h : Keyd key n f) (hv : MV a b f f') (hb : b ≤ n) : Keyd key n f' := fun s t hs ht => by
  have v := hv.mono (Nat.zero_le a) hb
  obtain ⟨u, _, u2, u3⟩ := v.into (Nat.zero_le s) hs
  obtain ⟨x, _, x2, x3⟩ := v.into (Nat.zero_le t) ht
  rw [u3, x3]
  exact h u x u2 x2
/-- The order function, told without a look inside. -/
def CmpP (A : Addr) (a b c d e f g h C : Int) : Prop := ∀ w, SenAt A w → Calls Tryd.prog 40 #[ivV a b c d, ivV e f g h] w fun e w' => e = .returned (.int .i64 C) ∧ Below w.heap.size w w'
theorem cmpP (A : Addr) (X Y : Iv) : CmpP A X.two X.three X.five X.root Y.two Y.three Y.five Y.root (cmpV X Y) := fun w hs => compare_impl A _ _ _ _ _ _ _ _ w hs
theorem cmpP_run {A : Addr} {a b c d e f g h C : Int} (hh : CmpP A a b c d e f g h C) (w : World) (hs : SenAt A w) : Calls Tryd.prog 40 #[ivV a b c d, ivV e f g h] w fun e w' => e = .returned (.int .i64 C) ∧ Below w.heap.size w w' := hh w hs
/-- Two elements of a row. -/
def Row2 (g o p : Nat) (X Y : Iv) (w : World) : Prop := g < w.heap.size ∧ Cell4 g o X w ∧ Cell4 g p Y w
theorem row2_keep {W w : World} {g o p : Nat} {X Y : Iv} (hb : Below W.heap.size W w) (h : Row2 g o p X Y W) : Row2 g o p X Y w := by
  obtain ⟨hg, ⟨x0, x1, x2, x3⟩, ⟨y0, y1, y2, y3⟩⟩ := h
  exact ⟨Nat.lt_of_lt_of_le hg hb.size, ⟨(hb.cell hg).trans x0, (hb.cell hg).trans x1, (hb.cell hg).trans x2, (hb.cell hg).trans x3⟩, ⟨(hb.cell hg).trans y0, (hb.cell hg).trans y1, (hb.cell hg).trans y2, (hb.cell hg).trans y3⟩⟩
theorem row2_drew {w : World} {g o p : Nat} {X Y : Iv} (h : Row2 g o p X Y w) : Row2 g o p X Y w.drew := h
theorem row2_cells {w : World} {g o p : Nat} {X Y : Iv} (h : Row2 g o p X Y w) : w.cell? ⟨g, o, none⟩ = some (.int .i64 X.two) ∧ w.cell? ⟨g, o + 1, none⟩ = some (.int .i64 X.three) ∧ w.cell? ⟨g, o + 2, none⟩ = some (.int .i64 X.five) ∧ w.cell? ⟨g, o + 3, none⟩ = some (.int .i64 X.root) ∧ w.cell? ⟨g, p, none⟩ = some (.int .i64 Y.two) ∧ w.cell? ⟨g, p + 1, none⟩ = some (.int .i64 Y.three) ∧ w.cell? ⟨g, p + 2, none⟩ = some (.int .i64 Y.five) ∧ w.cell? ⟨g, p + 3, none⟩ = some (.int .i64 Y.root) :=
  ⟨h.2.1.1, h.2.1.2.1, h.2.1.2.2.1, h.2.1.2.2.2, h.2.2.1, h.2.2.2.1, h.2.2.2.2.1, h.2.2.2.2.2⟩
theorem Srt.two {w0 W : World} {B g cap n : Nat} {f : Nat → Iv} (h : Srt w0 B g cap n f W) {i j : Nat} (hi : i < n) (hj : j < n) : Row2 g (i * 4) (j * 4) (f i) (f j) W := ⟨h.base.2, h.cells hi, h.cells hj⟩
end Go.Proofs.YtfhefakacjkmiaaDoor
