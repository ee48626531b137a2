/- Plain facts on hexadecimal digits and byte lists, without any Go text. -/
import Derived.Lib.UnsafeStr
import Derived.Lib.BufferRead
import Derived.Test.YtohfepcdgbgojabDoorNumBase
namespace Go.Proofs.YtohfepcdgbgojabDoor
open Go.RowKit
/-- The character of a hexadecimal digit, as a number. -/
def figN (x : Nat) : Nat := if x < 10 then 48 + x else 87 + x
theorem figN_lt (x : Nat) (h : x < 16) : figN x < 256 := by unfold figN; split <;> omega
/-- The hexadecimal text of a list of bytes. -/
def encB (l : List UInt8) : List UInt8 := l.flatMap fun c => [UInt8.ofNat (figN (c.toNat / 16)), UInt8.ofNat (figN (c.toNat % 16))]
theorem encB_length (l : List UInt8) : (encB l).length = 2 * l.length := by
  induction l with
  | nil => rfl
  | cons a l ih => unfold encB at ih ⊢; rw [List.flatMap_cons, List.length_append, ih]; simp only [List.length_cons, List.length_nil]; omega
theorem encB_snoc (l : List UInt8) (c : UInt8) : encB (l ++ [c]) = encB l ++ [UInt8.ofNat (figN (c.toNat / 16)), UInt8.ofNat (figN (c.toNat % 16))] := by
  simp [encB, List.flatMap_append]
theorem take_snoc (s : ByteArray) (k : Nat) (h : k < s.size) : s.data.toList.take (k + 1) = s.data.toList.take k ++ [s[k]] := by
  rw [List.take_succ_eq_append_getElem (by simpa using h)]; rfl
theorem byte_fig (x : Nat) (h : x < 16) : Value.int .u8 ((UInt8.ofNat (figN x)).toNat : Int) = Value.int .u8 (figN x : Int) := by
  have := figN_lt x h
  rw [UInt8.toNat_ofNat', Nat.mod_eq_of_lt (by simpa using this)]
/-- The constant that the program takes its digits from. -/
theorem hexConst (x : Nat) (h : x < 16) : (⟨#[48, 49, 50, 51, 52, 53, 54, 55, 56, 57, 97, 98, 99, 100, 101, 102]⟩ : ByteArray)[x]'h = UInt8.ofNat (figN x) := by
  match x, h with
  | 0, _ | 1, _ | 2, _ | 3, _ | 4, _ | 5, _ | 6, _ | 7, _ | 8, _ | 9, _ | 10, _ | 11, _ | 12, _ | 13, _ | 14, _ | 15, _ => rfl
  | n + 16, h => exact absurd h (by omega)
/-- 'string(b)' of a row of bytes that the call owns. -/
theorem conv_own {P : Program} {src dst e : TypeId} (hs : P.underlying src = some (.slice e)) (he : P.underlying e = some (.int .u8)) (hd : P.underlying dst = some .string)
    {w : World} {base : Nat} {e' : TypeId} {v : Value} {n : Nat} {l : List UInt8} (h : w.ownsRow base e' 1 v n (Lib.byteCells l)) :
    (convert src dst v).run P w = .ok (.string ⟨l.toArray⟩) w := by
  obtain ⟨hl, h⟩ := h
  rw [Lib.byteCells_length] at hl
  rcases h with ⟨rfl, hn⟩ | ⟨g, cap, cur, rfl, _, hg, _, _, _, htk⟩
  · have : l = [] := List.eq_nil_of_length_eq_zero (by omega)
    subst this
    exact Lib.run_convert_nil_bytes w src dst e 0 hs he hd
  · have hn : n = l.length := by omega
    subst hn
    exact run_convert_bytes_back w src dst e _ cap l hs he hd (Lib.bytes_of_row hg (by simpa using htk))
theorem enc_own {w1 : World} {B : Nat} {e : TypeId} {v : Value} {s : ByteArray} {k n : Nat} (hlt : k < s.size) (hn : n = 2 * k + 2)
    (h : w1.ownsRow B e 1 v n (Lib.byteCells (encB (s.data.toList.take k)) ++ #[Value.int .u8 ((figN (s[k].toNat / 16) : Int) % 256), Value.int .u8 ((figN (s[k].toNat % 16) : Int) % 256)].toList)) :
    w1.ownsRow B e 1 v (2 * (k + 1)) (Lib.byteCells (encB (s.data.toList.take (k + 1)))) := by
  subst hn
  rw [take_snoc s k hlt, encB_snoc, Lib.byteCells_append]
  have e1 : Lib.byteCells [UInt8.ofNat (figN (s[k].toNat / 16)), UInt8.ofNat (figN (s[k].toNat % 16))] = #[Value.int .u8 ((figN (s[k].toNat / 16) : Int) % 256), Value.int .u8 ((figN (s[k].toNat % 16) : Int) % 256)].toList := by
    simp [Lib.byteCells]
  rw [e1]
  exact h
theorem enc_own' {w1 : World} {B : Nat} {e : TypeId} {v : Value} {s : ByteArray} {k n : Nat} (hlt : k < s.size) (hn : n = 2 * k + 2)
    (h : w1.ownsRow B e 1 v n (Lib.byteCells (encB (s.data.toList.take k)) ++ #[Value.int .u8 (figN (s[k].toNat / 16) : Int), Value.int .u8 (figN (s[k].toNat % 16) : Int)].toList)) :
    w1.ownsRow B e 1 v (2 * (k + 1)) (Lib.byteCells (encB (s.data.toList.take (k + 1)))) := by
  refine enc_own hlt hn ?_
  have h1 := figN_lt (s[k].toNat / 16) (by have := s[k].toNat_lt; omega)
  have h2 := figN_lt (s[k].toNat % 16) (by omega)
  rw [show (figN (s[k].toNat / 16) : Int) % 256 = (figN (s[k].toNat / 16) : Int) from by omega, show (figN (s[k].toNat % 16) : Int) % 256 = (figN (s[k].toNat % 16) : Int) from by omega]
  exact h
end Go.Proofs.YtohfepcdgbgojabDoor
