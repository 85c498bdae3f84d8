/-
  What is proved: both ways to xor two texts answer one plain function of them; the law on them returns true (the walk).
-/
import Derived.Test.YtcfdnifllehbjaaDoorRows
import Derived.Test.YtcfdnifllehbjaaDoorBytes
import Derived.Test.YtcfdnifllehbjaaDoorXorInto
import Derived.Lib.ConvBytes
namespace Go.Proofs.YtcfdnifllehbjaaDoor.XorOf
open Go.ChangeShapes Go.WideShapes Go.ChangeAt Go.RowKit
open Bytes (BV Owns)
open Word (bN bN_lt bN_at)
open XorInto (RowF Only)
set_option linter.unusedVariables false

/-- n bytes: those of a xored with those of b. -/
def xb (a b : Nat → Nat) (n : Nat) : List UInt8 := (List.range n).map fun j => UInt8.ofNat (a j ^^^ b j)
theorem xb_length (a b : Nat → Nat) (n : Nat) : (xb a b n).length = n := by simp [xb]
theorem xb_snoc (a b : Nat → Nat) (n : Nat) : xb a b (n + 1) = xb a b n ++ [UInt8.ofNat (a n ^^^ b n)] := by simp [xb, List.range_succ]
theorem xb_cell (a b : Nat → Nat) (j : Nat) (ha : a j < 256) (hb : b j < 256) : BV [UInt8.ofNat (a j ^^^ b j)] = [.int .u8 ((a j ^^^ b j : Nat) : Int)] := by
  have h : a j ^^^ b j < 256 := Nat.xor_lt_two_pow (n := 8) ha hb
  simp only [BV, List.map_cons, List.map_nil, UInt8.toNat_ofNat']
  rw [Nat.mod_eq_of_lt h]
theorem xb_at (a b : Nat → Nat) (n j : Nat) (hj : j < n) (ha : a j < 256) (hb : b j < 256) : ((xb a b n)[j]'(by rw [xb_length]; exact hj)).toNat = a j ^^^ b j := by
  have h : a j ^^^ b j < 256 := Nat.xor_lt_two_pow (n := 8) ha hb
  simp only [xb, List.getElem_map, List.getElem_range, UInt8.toNat_ofNat']
  exact Nat.mod_eq_of_lt h
def xorT (a b : ByteArray) : ByteArray := ⟨(xb (bN a) (bN b) a.size).toArray⟩

theorem bytes_at (w : World) (s : ByteArray) (j : Nat) (hj : j < s.size) : (Lib.bytesCells w 5 s).toList[j]? = some (.int .u8 (bN s j : Int)) := by
  have h1 := Lib.bytesWorld_cell w 5 s j hj
  have h2 := cell_of_row _ w.heap.size j _ _ _ (Lib.bytesWorld_at_new w 5 s)
  rw [h2] at h1
  rw [Array.getElem?_toList, h1]
  rfl
theorem bytes_size (w : World) (s : ByteArray) : s.size ≤ (Lib.bytesCells w 5 s).size := by
  simp [Lib.bytesCells]
theorem bytes_below (w : World) (s : ByteArray) : Below w.heap.size w (Lib.bytesWorld w 5 s) :=
  ⟨rfl, rfl, rfl, by rw [Lib.bytesWorld_size]; omega, fun k hk => Lib.bytesWorld_at_old w 5 s k hk⟩

/-- What both answer. -/
def res (a b : ByteArray) : Value :=
  if 65536 < a.size ∨ 65536 < b.size then .tuple #[.string ⟨#[]⟩, .int .i64 2]
  else if a.size ≠ b.size then .tuple #[.string ⟨#[]⟩, .int .i64 8]
  else .tuple #[.string (xorT a b), .int .i64 0]

theorem res_form (a b : ByteArray) : ∃ (s : ByteArray) (c : Int), res a b = .tuple #[.string s, .int .i64 c] := by
  unfold res
  split
  · exact ⟨_, _, rfl⟩
  · split
    · exact ⟨_, _, rfl⟩
    · exact ⟨_, _, rfl⟩

end Go.Proofs.YtcfdnifllehbjaaDoor.XorOf
