/-
  What is proved: plain facts on the digest. Nothing of the program.
-/
import Derived.Test.YtemlmffoehclhaaDoorPad
namespace Go.Proofs.YtemlmffoehclhaaDoor.DigestW
open Go.RowKit
open Word
open Bytes (BV)
open MixBlock (lst)
open Absorb (all)
open Pad (pad)
set_option linter.unusedVariables false

/-- The four bytes of a word. -/
def four (x : Nat) : List UInt8 := [UInt8.ofNat (x / 16777216), UInt8.ofNat (x / 65536), UInt8.ofNat (x / 256), UInt8.ofNat x]
def dig (s : St) : List UInt8 := (lst s).flatMap four
def padB (n : Nat) : ByteArray := ⟨(pad n).toArray⟩
/-- The digest. -/
def sum (s : St) (b : ByteArray) (n : Nat) : ByteArray := ⟨(dig (all s (b ++ padB n)).1).toArray⟩
theorem getD_cast (s : St) (k : Nat) (h : k < 8) : [(s.a : Int), (s.b : Int), (s.c : Int), (s.d : Int), (s.e : Int), (s.f : Int), (s.g : Int), (s.h : Int)].getD k 0 = (((lst s).getD k 0 : Nat) : Int) := by
  match k, h with
  | 0, _ => rfl
  | 1, _ => rfl
  | 2, _ => rfl
  | 3, _ => rfl
  | 4, _ => rfl
  | 5, _ => rfl
  | 6, _ => rfl
  | 7, _ => rfl
theorem flat_snoc (s : St) (k : Nat) (h : k < 8) : ((lst s).take (k + 1)).flatMap four = ((lst s).take k).flatMap four ++ four ((lst s).getD k 0) := by
  have hl : k < (lst s).length := h
  rw [List.take_add_one, List.getElem?_eq_getElem hl, List.getD_eq_getElem?_getD, List.getElem?_eq_getElem hl]
  simp only [Option.toList_some, List.flatMap_append, List.flatMap_cons, List.flatMap_nil, List.append_nil, Option.getD_some]
theorem flat_len : ∀ l : List Nat, (l.flatMap four).length = 4 * l.length
  | [] => rfl
  | x :: l => by rw [List.flatMap_cons, List.length_append, flat_len l]; simp [four]; omega
theorem flat_le (s : St) (k : Nat) : (((lst s).take k).flatMap four).length ≤ 32 := by
  rw [flat_len]
  have : ((lst s).take k).length ≤ (lst s).length := List.length_take_le' _ _
  have h8 : (lst s).length = 8 := rfl
  omega
theorem lst_lt (s : St) (h : s.ok) : ∀ x ∈ lst s, x < 4294967296 := by
  obtain ⟨h0, h1, h2, h3, h4, h5, h6, h7⟩ := h
  intro x hx
  simp only [lst, List.mem_cons, List.not_mem_nil, or_false] at hx
  rcases hx with rfl | rfl | rfl | rfl | rfl | rfl | rfl | rfl <;> assumption
theorem four_cells (m : Nat) (h : m < 4294967296) : BV (four m) = [.int .u8 ((m : Int) / 16777216), .int .u8 ((m : Int) / 65536 % 256), .int .u8 ((m : Int) / 256 % 256), .int .u8 ((m : Int) % 256)] := by
  simp only [BV, four, List.map_cons, List.map_nil, UInt8.toNat_ofNat']
  rw [Nat.mod_eq_of_lt (show m / 16777216 < 2 ^ 8 by omega)]
  rfl
theorem padB_size (n : Nat) : (padB n).size ≤ 100 := by
  show (pad n).toArray.size ≤ 100
  simp [pad, Pad.head_length, Pad.be8_length]
  have := Pad.zer_lt n
  omega

end Go.Proofs.YtemlmffoehclhaaDoor.DigestW
