/-
  What is proved: plain facts on how a text is taken in, block by block. Nothing of the program.
-/
import Derived.Test.YtemlmffoehclhaaDoorMixBlock
namespace Go.Proofs.YtemlmffoehclhaaDoor.Absorb
open Go.RowKit
open Word
open MixBlock (run lst blk blk_length blk_lt c64)
set_option linter.unusedVariables false

def stOf (l : List Nat) : St := ⟨l.getD 0 0, l.getD 1 0, l.getD 2 0, l.getD 3 0, l.getD 4 0, l.getD 5 0, l.getD 6 0, l.getD 7 0⟩
theorem lst_stOf : ∀ (l : List Nat), l.length = 8 → lst (stOf l) = l
  | [_, _, _, _, _, _, _, _], _ => rfl
theorem getD_lt (l : List Nat) (h : ∀ x ∈ l, x < 4294967296) (j : Nat) : l.getD j 0 < 4294967296 := by
  rw [List.getD_eq_getElem?_getD]
  cases e : l[j]? with
  | none => simp
  | some x => simp; exact h x (List.mem_of_getElem? e)
theorem stOf_ok (l : List Nat) (h : ∀ x ∈ l, x < 4294967296) : (stOf l).ok :=
  ⟨getD_lt l h 0, getD_lt l h 1, getD_lt l h 2, getD_lt l h 3, getD_lt l h 4, getD_lt l h 5, getD_lt l h 6, getD_lt l h 7⟩
/-- A block taken in. -/
def blkS (b : ByteArray) (s : St) : St := stOf (blk (mw b) s)
theorem blkS_ok (b : ByteArray) (s : St) : (blkS b s).ok := stOf_ok _ (blk_lt _ _)
theorem blkS_cells (b : ByteArray) (s : St) : c64 (blk (mw b) s) = c64 (lst (blkS b s)) := by
  unfold blkS
  rw [lst_stOf _ (blk_length _ _)]
theorem run_congr (m m' : Nat → Nat) (h : ∀ i, wd m i = wd m' i) (s : St) : ∀ k, run m s k = run m' s k
  | 0 => rfl
  | k + 1 => by simp only [run, run_congr m m' h s k, h]
theorem blk_congr (m m' : Nat → Nat) (h : ∀ i, wd m i = wd m' i) (s : St) : blk m s = blk m' s := by
  unfold blk
  rw [run_congr m m' h s 64]
theorem blkS_head (b : ByteArray) (s : St) : blkS (b.extract 0 64) s = blkS b s := by
  unfold blkS
  rw [blk_congr _ (mw b) (wd_congr _ _ fun j hj => ?_) s]
  unfold mw
  rw [bN_extract b 0 64 _ (by omega), bN_extract b 0 64 _ (by omega), bN_extract b 0 64 _ (by omega), bN_extract b 0 64 _ (by omega)]
  simp only [Nat.zero_add]

def absorb : Nat → St → ByteArray → St × ByteArray
  | 0, s, b => (s, b)
  | n + 1, s, b => if 64 ≤ b.size then absorb n (blkS b s) (b.extract 64 b.size) else (s, b)
theorem size_tail (b : ByteArray) : (b.extract 64 b.size).size = b.size - 64 := by rw [ByteArray.size_extract]; omega
theorem absorb_fuel : ∀ (n m : Nat) (s : St) (b : ByteArray), b.size ≤ n → b.size ≤ m → absorb n s b = absorb m s b
  | 0, m, s, b, h, _ => by
    cases m with
    | zero => rfl
    | succ m => simp only [absorb]; rw [if_neg (by omega)]
  | n + 1, 0, s, b, _, h => by simp only [absorb]; rw [if_neg (by omega)]
  | n + 1, m + 1, s, b, h1, h2 => by
    simp only [absorb]
    by_cases h : 64 ≤ b.size
    · rw [if_pos h, if_pos h]
      exact absorb_fuel n m _ _ (by rw [size_tail]; omega) (by rw [size_tail]; omega)
    · rw [if_neg h, if_neg h]
/-- All whole blocks of a text taken in; what is left over. -/
def all (s : St) (b : ByteArray) : St × ByteArray := absorb b.size s b
theorem all_step (s : St) (b : ByteArray) (h : 64 ≤ b.size) : all (blkS b s) (b.extract 64 b.size) = all s b := by
  unfold all
  obtain ⟨n, hn⟩ : ∃ n, b.size = n + 1 := ⟨b.size - 1, by omega⟩
  have e : absorb b.size s b = absorb n (blkS b s) (b.extract 64 b.size) := by
    rw [hn]
    simp only [absorb]
    rw [if_pos h, hn]
  rw [e]
  exact absorb_fuel _ _ _ _ (Nat.le_refl _) (by rw [size_tail]; omega)
theorem all_end (s : St) (b : ByteArray) (h : b.size < 64) : all s b = (s, b) := by
  unfold all
  cases hb : b.size with
  | zero => rfl
  | succ n => simp only [absorb]; rw [if_neg (by omega)]
theorem absorb_ok : ∀ (n : Nat) (s : St) (b : ByteArray), s.ok → (absorb n s b).1.ok
  | 0, s, b, h => h
  | n + 1, s, b, h => by
    simp only [absorb]
    split
    · exact absorb_ok n _ _ (blkS_ok _ _)
    · exact h
theorem all_ok (s : St) (b : ByteArray) (h : s.ok) : (all s b).1.ok := absorb_ok _ _ _ h
theorem absorb_size : ∀ (n : Nat) (s : St) (b : ByteArray), b.size ≤ n → (absorb n s b).2.size = b.size % 64
  | 0, s, b, h => by show b.size = _; omega
  | n + 1, s, b, h => by
    simp only [absorb]
    by_cases h64 : 64 ≤ b.size
    · rw [if_pos h64, absorb_size n _ _ (by rw [size_tail]; omega), size_tail]; omega
    · rw [if_neg h64]; show b.size = _; omega
theorem all_size (s : St) (b : ByteArray) : (all s b).2.size = b.size % 64 := absorb_size _ _ _ (Nat.le_refl _)
end Go.Proofs.YtemlmffoehclhaaDoor.Absorb
