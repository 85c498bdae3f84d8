/-
  What is proved: plain facts on a tag as a number: its pieces, its sum, its bytes. Nothing of the program.
-/
import Derived.Test.YtcfdnifllehbjaaDoorRows
import Derived.Test.YtcfdnifllehbjaaDoorPoly
import Derived.Test.YtcfdnifllehbjaaDoorClamp
import Derived.Test.YtcfdnifllehbjaaDoorTagBytes
namespace Go.Proofs.YtcfdnifllehbjaaDoor.PolyN
open Poly
open Word (bN bN_lt bN_at)
open Clamp (clT)
open TagBytes (bl)
set_option linter.unusedVariables false

theorem bN_zero (s : ByteArray) (j : Nat) (h : s.size ≤ j) : bN s j = 0 := by
  have h2 : s.data.toList.length ≤ j := by simpa using h
  simp [bN, List.getD_eq_getElem?_getD, List.getElem?_eq_none h2]
/-- The number that a text's bytes are. -/
def num (s : ByteArray) : Nat := le (bN s) s.size
theorem num_pad (s : ByteArray) (n : Nat) (h : s.size ≤ n) : le (bN s) n = num s := by
  have := le_zeros (f := bN s) s.size (fun j hj => bN_zero s j hj) (n - s.size)
  rw [show s.size + (n - s.size) = n by omega] at this
  exact this
def one : ByteArray := ⟨#[1]⟩
/-- Piece k of a text, with a byte 1 behind. -/
def piece (t : ByteArray) (k : Nat) : ByteArray := t.extract (16 * k) (min t.size (16 * k + 16)) ++ one
theorem piece_size (t : ByteArray) (k : Nat) : (piece t k).size = min t.size (16 * k + 16) - 16 * k + 1 := by
  unfold piece
  rw [ByteArray.size_append, ByteArray.size_extract]
  show _ + 1 = _
  omega
theorem piece_small (t : ByteArray) (k : Nat) : (piece t k).size ≤ 17 := by rw [piece_size]; omega
theorem bN_append (a b : ByteArray) (j : Nat) : bN (a ++ b) j = if j < a.size then bN a j else bN b (j - a.size) := by
  unfold bN
  rw [show (a ++ b).data.toList = a.data.toList ++ b.data.toList by rw [ByteArray.data_append]; simp]
  simp only [List.getD_eq_getElem?_getD]
  by_cases h : j < a.size
  · rw [if_pos h, List.getElem?_append_left (by simpa using h)]
  · rw [if_neg h, List.getElem?_append_right (by simpa using h)]
    simp
theorem piece_top (t : ByteArray) (k : Nat) : bN (piece t k) 16 < 4 := by
  unfold piece
  rw [bN_append]
  split
  · rename_i h
    rw [ByteArray.size_extract] at h
    omega
  · generalize 16 - _ = m
    cases m with
    | zero => decide
    | succ m =>
      rw [bN_zero one (m + 1) (show 1 ≤ m + 1 by omega)]
      omega
theorem num_lt (s : ByteArray) (h : s.size ≤ 17) (h16 : bN s 16 < 4) : num s < 1361129467683753853853498429727072845824 := by
  rw [← num_pad s 17 h]
  have h1 := le_lt (bN_lt s) 16
  show le (bN s) 16 + bN s 16 * 256 ^ 16 < _
  simp only [Nat.reducePow] at *
  omega
theorem num_lt16 (s : ByteArray) (h : s.size ≤ 16) : num s < 340282366920938463463374607431768211456 := by
  rw [← num_pad s 16 h]
  have h1 := le_lt (bN_lt s) 16
  simp only [Nat.reducePow] at *
  omega
/-- How many pieces. -/
def pcs (t : ByteArray) : Nat := (t.size + 15) / 16
def hN (r : Nat) (t : ByteArray) : Nat → Nat
  | 0 => 0
  | k + 1 => (hN r t k + num (piece t k)) * r % P
theorem hN_lt (r : Nat) (t : ByteArray) : ∀ k, hN r t k < P
  | 0 => by show 0 < P; unfold P; omega
  | k + 1 => Nat.mod_lt _ (by unfold P; omega)
/-- A step, whatever stands for the number that came. -/
theorem hN_step (r : Nat) (t : ByteArray) (k x y : Nat) (hx : x % P = hN r t k) (hy : y % P = (x + num (piece t k)) * r % P) : y % P = hN r t (k + 1) := by
  rw [hy]
  show _ = (hN r t k + num (piece t k)) * r % P
  rw [← hx]
  generalize num (piece t k) = m
  have e : (x % P + m) % P = (x + m) % P := Nat.mod_add_mod x P m
  rw [Nat.mul_mod (x + m) r, Nat.mul_mod (x % P + m) r, e]
/-- The factor, the sum and the tag. -/
def fac (key : ByteArray) : Nat := num (clT key)
def tail (key : ByteArray) : ByteArray := key.extract 16 key.size
def tagN (key t : ByteArray) : Nat := hN (fac key) t (pcs t) + num (tail key)
def tagT (key t : ByteArray) : ByteArray := ⟨(bl (tagN key t)).toArray⟩
theorem tagT_size (key t : ByteArray) : (tagT key t).size = 16 := by
  show (bl _).toArray.size = 16
  rw [List.size_toArray, TagBytes.bl_length]
end Go.Proofs.YtcfdnifllehbjaaDoor.PolyN
