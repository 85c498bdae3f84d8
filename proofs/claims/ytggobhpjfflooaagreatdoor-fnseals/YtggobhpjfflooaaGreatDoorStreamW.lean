/-
  What is proved: plain facts on texts xored with the stream: twice is what it was; a later part is that of the later blocks; the first 64 bytes are xored with the first block. Nothing of the program.
-/
import Derived.Test.YtggobhpjfflooaaGreatDoorStreamB
namespace Go.Proofs.YtggobhpjfflooaaGreatDoor.StreamW
open Go.RowKit
open Word (bN bN_lt bN_at bN_extract)
open ChaBlk (blkT blkT_size)
open XorOf (xb xb_length xb_at xorT)
open SpXor (ks ks_lt xorS)
set_option linter.unusedVariables false

theorem ext_bN (a b : ByteArray) (h : a.size = b.size) (hj : ∀ j, j < a.size → bN a j = bN b j) : a = b := by
  apply ByteArray.ext
  apply Array.ext
  · exact h
  · intro i h1 h2
    have e := hj i h1
    rw [← bN_at a i h1, ← bN_at b i h2] at e
    exact UInt8.toNat_inj.1 e
theorem bN_xb (a b : Nat → Nat) (n j : Nat) (hj : j < n) (ha : a j < 256) (hb : b j < 256) : bN ⟨(xb a b n).toArray⟩ j = a j ^^^ b j := by
  have hl : j < (⟨(xb a b n).toArray⟩ : ByteArray).size := by show j < (xb a b n).toArray.size; rw [List.size_toArray, xb_length]; exact hj
  rw [← bN_at _ _ hl]
  exact xb_at a b n j hj ha hb
theorem size_xb (a b : Nat → Nat) (n : Nat) : (⟨(xb a b n).toArray⟩ : ByteArray).size = n := by show (xb a b n).toArray.size = n; rw [List.size_toArray, xb_length]
theorem xorS_size (key nonce : ByteArray) (c : Nat) (t : ByteArray) : (xorS key nonce c t).size = t.size := size_xb _ _ _
theorem bN_xorS (key nonce : ByteArray) (c : Nat) (t : ByteArray) (j : Nat) (hj : j < t.size) : bN (xorS key nonce c t) j = bN t j ^^^ ks key nonce c j := bN_xb _ _ _ _ hj (bN_lt _ _) (ks_lt _ _ _ _)
theorem ks_later (key nonce : ByteArray) (c j : Nat) : ks key nonce (c + 1) j = ks key nonce c (64 + j) := by
  unfold ks
  rw [show (64 + j) / 64 = 1 + j / 64 by omega, show (64 + j) % 64 = j % 64 by omega, Nat.add_assoc]
theorem ks_first (key nonce : ByteArray) (c j : Nat) (h : j < 64) : ks key nonce c j = bN (blkT key nonce c) j := by
  unfold ks
  rw [show j / 64 = 0 by omega, show j % 64 = j by omega, Nat.add_zero]
theorem twice (key nonce : ByteArray) (c : Nat) (t : ByteArray) : xorS key nonce c (xorS key nonce c t) = t := by
  apply ext_bN
  · rw [xorS_size, xorS_size]
  · intro j hj
    rw [xorS_size, xorS_size] at hj
    rw [bN_xorS _ _ _ _ _ (by rw [xorS_size]; exact hj), bN_xorS _ _ _ _ _ hj, Nat.xor_assoc, Nat.xor_self, Nat.xor_zero]
theorem later (key nonce : ByteArray) (c : Nat) (t : ByteArray) (h : 64 ≤ t.size) : xorS key nonce (c + 1) (t.extract 64 t.size) = (xorS key nonce c t).extract 64 (xorS key nonce c t).size := by
  have s1 : (t.extract 64 t.size).size = t.size - 64 := by rw [ByteArray.size_extract]; omega
  apply ext_bN
  · rw [xorS_size, s1, ByteArray.size_extract, xorS_size]; omega
  · intro j hj
    rw [xorS_size, s1] at hj
    rw [bN_xorS _ _ _ _ _ (by rw [s1]; exact hj), bN_extract _ _ _ _ (by omega), bN_extract _ _ _ _ (by rw [xorS_size]; omega), bN_xorS _ _ _ _ _ (by omega), ks_later]
theorem head (key nonce : ByteArray) (c : Nat) (t : ByteArray) (h : 64 ≤ t.size) : xorT (blkT key nonce c) (t.extract 0 64) = (xorS key nonce c t).extract 0 64 := by
  have s2 : (blkT key nonce c).size = 64 := blkT_size _ _ _
  unfold xorT
  rw [s2]
  apply ext_bN
  · rw [size_xb, ByteArray.size_extract, xorS_size]; omega
  · intro j hj
    rw [size_xb] at hj
    rw [bN_xb _ _ _ _ hj (bN_lt _ _) (bN_lt _ _), bN_extract _ _ _ _ (by omega), bN_extract _ _ _ _ (by omega), Nat.zero_add, bN_xorS _ _ _ _ _ (by omega), ks_first _ _ _ _ hj, Nat.xor_comm]
end Go.Proofs.YtggobhpjfflooaaGreatDoor.StreamW
