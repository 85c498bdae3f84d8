/-
  What is proved: plain facts on a text that comes in pieces. Nothing of the program.
-/
import Derived.Test.YtemlmffoehclhaaDoorDigestW
namespace Go.Proofs.YtemlmffoehclhaaDoor.Join
open Go.RowKit
open Word
open Absorb (blkS blkS_head all all_step all_end all_size size_tail)
set_option linter.unusedVariables false

theorem head_append (a b : ByteArray) (h : 64 ≤ a.size) : (a ++ b).extract 0 64 = a.extract 0 64 := by
  apply ByteArray.ext
  have h2 : 64 ≤ a.data.size := h
  rw [ByteArray.data_extract, ByteArray.data_extract, ByteArray.data_append, Array.extract_append]
  rw [show 64 - a.data.size = 0 by omega]
  simp
theorem tail_append (a b : ByteArray) (h : 64 ≤ a.size) : (a ++ b).extract 64 (a ++ b).size = a.extract 64 a.size ++ b := by
  apply ByteArray.ext
  have h2 : 64 ≤ a.data.size := h
  have e1 : a.size = a.data.size := rfl
  have e2 : b.size = b.data.size := rfl
  rw [ByteArray.size_append, ByteArray.data_extract, ByteArray.data_append, ByteArray.data_append, ByteArray.data_extract, Array.extract_append, e1, e2]
  rw [show 64 - a.data.size = 0 by omega, show a.data.size + b.data.size - a.data.size = b.data.size by omega]
  congr 1
  · apply Array.ext
    · simp
    · intro i h1 h2; simp
  · simp
theorem blk_append (a b : ByteArray) (s : St) (h : 64 ≤ a.size) : blkS (a ++ b) s = blkS a s := by
  rw [← blkS_head (a ++ b), head_append a b h, blkS_head]
theorem all_join_n : ∀ (n : Nat) (s : St) (a b : ByteArray), a.size ≤ n → all (all s a).1 ((all s a).2 ++ b) = all s (a ++ b)
  | 0, s, a, b, h => by rw [all_end s a (by omega)]
  | n + 1, s, a, b, h => by
    by_cases h64 : 64 ≤ a.size
    · rw [← all_step s a h64, ← all_step s (a ++ b) (by rw [ByteArray.size_append]; omega), tail_append a b h64, blk_append a b s h64]
      exact all_join_n n _ _ _ (by rw [size_tail]; omega)
    · rw [all_end s a (by omega)]
/-- A text in two pieces. -/
theorem all_join (s : St) (a b : ByteArray) : all (all s a).1 ((all s a).2 ++ b) = all s (a ++ b) := all_join_n _ s a b (Nat.le_refl _)
theorem sum_size (s : St) (b : ByteArray) (n : Nat) : (DigestW.sum s b n).size = 32 := by
  show (DigestW.dig _).toArray.size = 32
  rw [List.size_toArray, DigestW.dig, DigestW.flat_len]
  rfl
theorem extract_join (t : ByteArray) (i j : Nat) (h1 : i ≤ j) (h2 : j ≤ t.size) : t.extract 0 i ++ t.extract i j ++ t.extract j t.size = t := by
  apply ByteArray.ext
  have e1 : t.size = t.data.size := rfl
  rw [ByteArray.data_append, ByteArray.data_append, ByteArray.data_extract, ByteArray.data_extract, ByteArray.data_extract, Array.extract_append_extract, Nat.max_eq_right h1, Array.extract_append_extract, Nat.max_eq_right h2, e1]
  simp
end Go.Proofs.YtemlmffoehclhaaDoor.Join
