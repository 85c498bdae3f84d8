/-
  What is proved: plain facts on bytes that are added one by one, and on a text with bytes 0 behind. Nothing of the program.
-/
import Derived.Test.YtcfdnifllehbjaaDoorPolyN
import Derived.Test.YtcfdnifllehbjaaDoorFlat
namespace Go.Proofs.YtcfdnifllehbjaaDoor.PolyD
open Poly PolyN
open Word (bN bN_lt bN_at)
open TagBytes (bl)
set_option linter.unusedVariables false

/-! Bytes added one by one. -/
def cy (f g : Nat → Nat) : Nat → Nat
  | 0 => 0
  | k + 1 => (cy f g k + (f k + g k)) / 256
def di (f g : Nat → Nat) (k : Nat) : Nat := (cy f g k + (f k + g k)) % 256
theorem di_lt (f g : Nat → Nat) (k : Nat) : di f g k < 256 := Nat.mod_lt _ (by omega)
theorem cy_le {f g : Nat → Nat} (hf : ∀ j, f j < 256) (hg : ∀ j, g j < 256) : ∀ k, cy f g k ≤ 1
  | 0 => by show 0 ≤ 1; omega
  | k + 1 => by
    have h1 := cy_le hf hg k
    have h2 := hf k
    have h3 := hg k
    show (cy f g k + (f k + g k)) / 256 ≤ 1
    omega
theorem add_le (f g : Nat → Nat) : ∀ n, le f n + le g n = le (di f g) n + cy f g n * 256 ^ n
  | 0 => rfl
  | n + 1 => by
    have h1 := add_le f g n
    have h2 : cy f g n + (f n + g n) = di f g n + cy f g (n + 1) * 256 := by
      show _ = (cy f g n + (f n + g n)) % 256 + (cy f g n + (f n + g n)) / 256 * 256
      omega
    show le f n + f n * 256 ^ n + (le g n + g n * 256 ^ n) = le (di f g) n + di f g n * 256 ^ n + cy f g (n + 1) * 256 ^ (n + 1)
    have h3 : (cy f g n + (f n + g n)) * 256 ^ n = di f g n * 256 ^ n + cy f g (n + 1) * 256 ^ (n + 1) := by
      rw [h2, Nat.add_mul, Nat.pow_succ, Nat.mul_assoc, Nat.mul_comm 256]
    rw [Nat.add_mul, Nat.add_mul] at h3
    omega
theorem di_byte (H : Nat) (g : Nat → Nat) (i : Nat) (hi : i < 16) : di (fun i => H / 256 ^ i % 256) g i = (H + le g 16) / 256 ^ i % 256 := by
  have h1 := add_le (fun i => H / 256 ^ i % 256) g 16
  rw [le_digits] at h1
  have h2 : H + le g 16 = le (di (fun i => H / 256 ^ i % 256) g) 16 + (cy (fun i => H / 256 ^ i % 256) g 16 + H / 256 ^ 16) * 256 ^ 16 := by
    have h3 := Nat.mod_add_div H (256 ^ 16)
    rw [Nat.add_mul, Nat.mul_comm (H / 256 ^ 16)]
    omega
  rw [h2]
  exact (le_byte (di_lt _ _) _ 16 i hi).symm
theorem tail_num (key : ByteArray) (hk : key.size = 32) : num (tail key) = le (fun i => bN key (16 + i)) 16 := by
  have hs : (tail key).size = 16 := by unfold tail; rw [ByteArray.size_extract, hk]; omega
  unfold num
  rw [hs]
  refine le_congr 16 fun j hj => ?_
  exact Flat.bN_extract key 16 key.size j (Nat.le_refl _) (by omega)
/-- The first k bytes. -/
def tgl (d : Nat → Nat) (k : Nat) : List UInt8 := (List.range k).map fun j => UInt8.ofNat (d j)
theorem tgl_length (d : Nat → Nat) (k : Nat) : (tgl d k).length = k := by simp [tgl]
theorem tgl_snoc (d : Nat → Nat) (k : Nat) : tgl d (k + 1) = tgl d k ++ [UInt8.ofNat (d k)] := by simp [tgl, List.range_succ]
theorem tgl_bl (H : Nat) (key : ByteArray) (hk : key.size = 32) : tgl (di (fun i => H / 256 ^ i % 256) (fun i => bN key (16 + i))) 16 = bl (H + num (tail key)) := by
  unfold tgl bl
  rw [tail_num key hk]
  apply List.map_congr_left
  intro j hj
  rw [di_byte H _ j (by simpa using hj)]

/-! Bytes 0 behind. -/
def zero1 : ByteArray := ⟨#[0]⟩
theorem bN_zero1 (s : ByteArray) (j : Nat) : bN (s ++ zero1) j = bN s j := by
  rw [bN_append]
  split
  · rfl
  · rename_i h
    rw [bN_zero s j (by omega)]
    generalize j - s.size = m
    cases m with
    | zero => rfl
    | succ m => exact bN_zero zero1 (m + 1) (show 1 ≤ m + 1 by omega)
theorem size_zero1 (s : ByteArray) : (s ++ zero1).size = s.size + 1 := by
  rw [ByteArray.size_append]
  rfl
/-- The model's parts of a text with bytes 0 behind. -/
theorem sp_num (s pc : ByteArray) (h : ∀ j, bN s j = bN pc j) (hp : pc.size ≤ 17) (h16 : bN pc 16 < 4) : val (sp (bN s) 17) = num pc ∧ ∀ j, sp (bN s) 17 j < 67108864 := by
  have e : bN s = bN pc := funext h
  rw [e]
  exact ⟨(sp_val (bN_lt pc) h16 17 (Nat.le_refl _)).trans (num_pad pc 17 hp), sp_lt (bN_lt pc) h16⟩
theorem fo3 {v : Nat → Nat} (h : Half v) : Half (fo (fo (fo v))) ∧ val (fo (fo (fo v))) = val v ∧ ∀ j, fo (fo (fo v)) j < 67108864 := by
  obtain ⟨h1, h2, _⟩ := fo_half h
  have e1 : fo v = dg v := funext h1
  have k1 : Half (fo v) := by rw [e1]; exact dg_half v
  obtain ⟨h3, h4, _⟩ := fo_half k1
  have e2 : fo (fo v) = dg (fo v) := funext h3
  have k2 : Half (fo (fo v)) := by rw [e2]; exact dg_half _
  obtain ⟨h5, h6, _⟩ := fo_half k2
  have e3 : fo (fo (fo v)) = dg (fo (fo v)) := funext h5
  refine ⟨by rw [e3]; exact dg_half _, by rw [h6, h4, h2], fun j => by rw [h5]; exact dg_lt _ _⟩
theorem rd_lt {v : Nat → Nat} (h : ∀ j, v j < 67108864) (j : Nat) : rd v j < 67108864 := by
  unfold rd
  split
  · exact dg_lt _ _
  · exact h j
end Go.Proofs.YtcfdnifllehbjaaDoor.PolyD
