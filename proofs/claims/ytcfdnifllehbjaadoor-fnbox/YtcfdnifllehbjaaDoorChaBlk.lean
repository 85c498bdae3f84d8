/-
  What is proved: the program's block of the stream is the plain one, with its codes (contract for the walks).
-/
import Derived.Test.YtcfdnifllehbjaaDoorRows
import Derived.Test.YtcfdnifllehbjaaDoorChaOut
import Derived.Test.YtcfdnifllehbjaaDoorChaFirst
namespace Go.Proofs.YtcfdnifllehbjaaDoor.ChaBlk
open Go.ChangeShapes Go.WideShapes Go.ChangeAt Go.RowKit
open Arr (Row)
open Bytes (BV)
open Cha
set_option linter.unusedVariables false

/-- The block of a key, a nonce and a count. -/
def blkT (key nonce : ByteArray) (count : Nat) : ByteArray := ⟨(Cha.blk (first key nonce count)).toArray⟩
theorem blkT_size (key nonce : ByteArray) (count : Nat) : (blkT key nonce count).size = 64 := by
  show (Cha.blk (first key nonce count)).toArray.size = 64
  rw [List.size_toArray, Cha.blk_length]
/-- The code of what is handed in. -/
def ask (key nonce : ByteArray) (count : Int) : Int :=
  if key.size ≠ 32 ∨ nonce.size ≠ 12 then 8 else if count < 0 ∨ 1000000000 < count then 4 else 0
def fault (key nonce : ByteArray) (count : Int) : Int :=
  if 65536 < key.size ∨ 65536 < nonce.size then 2 else ask key nonce count

theorem fault_zero {key nonce : ByteArray} {count : Int} (h : fault key nonce count = 0) : key.size = 32 ∧ nonce.size = 12 ∧ 0 ≤ count ∧ count ≤ 1000000000 := by
  unfold fault ask at h
  split at h
  · omega
  · split at h
    · omega
    · split at h
      · omega
      · omega
theorem fault_cases (key nonce : ByteArray) (count : Int) : fault key nonce count = 0 ∨ (fault key nonce count != 0) = true := by
  by_cases h : fault key nonce count = 0
  · exact .inl h
  · exact .inr (by simpa using h)
/-- What the calls of a block answer. -/
def res (key nonce : ByteArray) (count : Int) : Value :=
  if fault key nonce count = 0 then .tuple #[.string (blkT key nonce count.toNat), .int .i64 0] else .tuple #[.string ⟨#[]⟩, .int .i64 (fault key nonce count)]

theorem kept_string (w : World) (us : List UInt8) (g : Nat) (hl : us.length = 64) (hr : Row w g 54 (BV us)) :
    (convert 22 9 (.slice (some ⟨g, 0, none⟩) 64 64)).run Tryd.prog w = .ok (.string ⟨us.toArray⟩) w := by
  have := run_convert_bytes_back (P := Tryd.prog) w 22 9 5 ⟨g, 0, none⟩ 64 us Tryd.underlying22 Tryd.underlying5 Tryd.underlying9 (fun j hj => by
    have hadd : (⟨g, 0, none⟩ : Addr).add j = ⟨g, j, none⟩ := by unfold Addr.add; split <;> simp_all
    rw [hadd, hr.cell]
    simp [BV, List.getElem?_eq_getElem hj])
  rw [hl] at this
  exact this

theorem there_new (w : World) (z : Array Value) (t : TypeId) (n : Nat) (h : z.size = n) : (w.alloc (.cells z t)).there w.heap.size 0 n := by
  have := (Arr.row_new w z t).there
  rw [show z.toList.length = n from h] at this
  exact this
theorem store_new (w w2 : World) (z : Array Value) (us : List UInt8) (W3 : World) (h : (w2.alloc (.cells z 54)).setCells w2.heap.size 0 (BV us).toArray.toList = W3) (hz : z.size = 64) (hl : us.length = 64) (hb : Below w.heap.size w w2) :
    Row W3 w2.heap.size 54 (BV us) ∧ Below w.heap.size w W3 := by
  rw [← h]
  exact ⟨(Arr.row_new w2 z _).sets_all (by rw [Bytes.BV_length, hl]; exact hz.symm), Arr.below_sets _ hb.size _ _ _ (hb.alloc hb.size _)⟩

end Go.Proofs.YtcfdnifllehbjaaDoor.ChaBlk
