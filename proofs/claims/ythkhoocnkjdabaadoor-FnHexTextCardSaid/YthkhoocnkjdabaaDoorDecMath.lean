/- Plain facts on decoding hexadecimal text, without any Go text. -/
import Derived.Test.YthkhoocnkjdabaaDoorHexMath
namespace Go.Proofs.YthkhoocnkjdabaaDoor
open Go.RowKit
/-- The value of a hexadecimal digit (0 if it is none), and whether it is one. -/
def hvN (c : Nat) : Nat := if 48 ≤ c ∧ c ≤ 57 then c - 48 else if 97 ≤ c ∧ c ≤ 102 then c - 87 else 0
def hvB (c : Nat) : Bool := decide ((48 ≤ c ∧ c ≤ 57) ∨ (97 ≤ c ∧ c ≤ 102))
theorem hvN_lt (c : Nat) : hvN c < 16 := by unfold hvN; (repeat' split) <;> omega
def decB : List UInt8 → Option (List UInt8)
  | [] => some []
  | [_] => none
  | a :: b :: r => if hvB a.toNat && hvB b.toNat then (decB r).map (UInt8.ofNat (16 * hvN a.toNat + hvN b.toNat) :: ·) else none
theorem decB_app : ∀ (p l q : List UInt8), decB p = some l → decB (p ++ q) = (decB q).map (l ++ ·)
  | [], l, q, h => by simp [decB] at h; subst h; simp
  | [_], l, q, h => by simp [decB] at h
  | a :: b :: r, l, q, h => by
    simp only [decB, List.cons_append] at h ⊢
    split at h
    · rename_i hc
      rw [if_pos hc]
      cases hr : decB r with
      | none => simp [hr] at h
      | some m =>
        simp [hr] at h
        subst h
        rw [decB_app r m q hr]
        cases decB q <;> simp
    · simp at h
theorem decB_len : ∀ (p l : List UInt8), decB p = some l → p.length = 2 * l.length
  | [], l, h => by simp [decB] at h; subst h; simp
  | [_], l, h => by simp [decB] at h
  | a :: b :: r, l, h => by
    simp only [decB] at h
    split at h
    · cases hr : decB r with
      | none => simp [hr] at h
      | some m =>
        simp [hr] at h
        subst h
        have := decB_len r m hr
        simp; omega
    · simp at h
/-- What decoding answers: the bytes and whether there are some. -/
def decV (s : ByteArray) : List UInt8 × Bool := if s.size % 2 ≠ 0 ∨ 40000 < s.size then ([], false) else match decB s.data.toList with
  | some l => (l, true)
  | none => ([], false)
theorem decV_odd (s : ByteArray) (h : s.size % 2 ≠ 0 ∨ 40000 < s.size) : decV s = ([], false) := by unfold decV; rw [if_pos h]
theorem decV_ok (s : ByteArray) (h : ¬ (s.size % 2 ≠ 0 ∨ 40000 < s.size)) (l : List UInt8) (hl : decB s.data.toList = some l) : decV s = (l, true) := by unfold decV; rw [if_neg h, hl]
theorem decV_none (s : ByteArray) (h : ¬ (s.size % 2 ≠ 0 ∨ 40000 < s.size)) (hl : decB s.data.toList = none) : decV s = ([], false) := by unfold decV; rw [if_neg h, hl]
theorem ret_dec {s : ByteArray} {p : List UInt8 × Bool} (h : decV s = p) : Ending.returned (.tuple #[.string ⟨p.1.toArray⟩, .bool p.2]) = .returned (.tuple #[.string ⟨(decV s).1.toArray⟩, .bool (decV s).2]) := by rw [h]
/-- The first j bytes decode to l. -/
def DecTo (s : ByteArray) (j : Nat) (l : List UInt8) : Prop := decB (s.data.toList.take j) = some l
theorem decTo_zero (s : ByteArray) : DecTo s 0 [] := by simp [DecTo, decB]
theorem decTo_len {s : ByteArray} {j : Nat} {l : List UInt8} (h : DecTo s j l) (hj : j ≤ s.size) : j = 2 * l.length := by
  have := decB_len _ _ h
  rw [List.length_take] at this
  have e : s.data.toList.length = s.size := by simp
  omega
theorem drop_two (s : ByteArray) (j : Nat) (h : j + 1 < s.size) : s.data.toList = s.data.toList.take j ++ s[j] :: s[j + 1] :: s.data.toList.drop (j + 2) := by
  have e : s.data.toList.length = s.size := by simp
  have e1 : s.data.toList.drop j = s[j] :: s.data.toList.drop (j + 1) := by
    rw [List.drop_eq_getElem_cons (by omega)]; rfl
  have e2 : s.data.toList.drop (j + 1) = s[j + 1] :: s.data.toList.drop (j + 2) := by
    rw [List.drop_eq_getElem_cons (by omega)]; rfl
  rw [← e2, ← e1, List.take_append_drop]
theorem take_two (s : ByteArray) (j : Nat) (h : j + 1 < s.size) : s.data.toList.take (j + 2) = s.data.toList.take j ++ [s[j], s[j + 1]] := by
  rw [show j + 2 = (j + 1) + 1 from rfl, take_snoc s (j + 1) h, take_snoc s j (by omega)]
  simp
theorem decTo_step {s : ByteArray} {j : Nat} {l : List UInt8} (h : DecTo s j l) (hj : j + 1 < s.size) (h1 : hvB s[j].toNat = true) (h2 : hvB s[j + 1].toNat = true) :
    DecTo s (j + 2) (l ++ [UInt8.ofNat (16 * hvN s[j].toNat + hvN s[j + 1].toNat)]) := by
  unfold DecTo
  rw [take_two s j hj, decB_app _ _ _ h]
  simp [decB, h1, h2]
theorem decTo_none {s : ByteArray} {j : Nat} {l : List UInt8} (h : DecTo s j l) (hj : j + 1 < s.size) (h1 : hvB s[j].toNat = false ∨ hvB s[j + 1].toNat = false) : decB s.data.toList = none := by
  have e := decB_app _ _ (s[j] :: s[j + 1] :: s.data.toList.drop (j + 2)) h
  rw [← drop_two s j hj] at e
  rw [e]
  rcases h1 with h1 | h1 <;> simp [decB, h1]
theorem decTo_all {s : ByteArray} {j : Nat} {l : List UInt8} (h : DecTo s j l) (hj : s.size ≤ j) : decB s.data.toList = some l := by
  unfold DecTo at h
  rwa [List.take_of_length_le (by simpa using hj)] at h
theorem dec_own {w1 : World} {B : Nat} {e : TypeId} {v : Value} {l : List UInt8} {a b : Nat} {x : Int} (hx : x = 16 * (hvN a : Int) + hvN b)
    (h : w1.ownsRow B e 1 v (l.length + 1) (Lib.byteCells l ++ [Value.int .u8 x])) :
    w1.ownsRow B e 1 v (l ++ [UInt8.ofNat (16 * hvN a + hvN b)]).length (Lib.byteCells (l ++ [UInt8.ofNat (16 * hvN a + hvN b)])) := by
  have e1 : Lib.byteCells [UInt8.ofNat (16 * hvN a + hvN b)] = [Value.int .u8 x] := by
    have ha := hvN_lt a
    have hb := hvN_lt b
    have : (UInt8.ofNat (16 * hvN a + hvN b)).toNat = 16 * hvN a + hvN b := by rw [UInt8.toNat_ofNat']; omega
    simp only [Lib.byteCells, List.map_cons, List.map_nil, this, hx]
    push_cast
    rfl
  rw [Lib.byteCells_append, e1, List.length_append]
  exact h
end Go.Proofs.YthkhoocnkjdabaaDoor
