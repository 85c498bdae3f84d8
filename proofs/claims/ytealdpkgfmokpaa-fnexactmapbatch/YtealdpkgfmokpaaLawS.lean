/-
  What is proved: the laws' functions on slices of texts: their size counted, copied, compared (contracts for the walks).
-/
import Derived.Test.YtealdpkgfmokpaaRows
import Derived.Test.YtealdpkgfmokpaaDev
import Derived.Test.YtealdpkgfmokpaaBytes
import Derived.Laws.MakeOwn
namespace Go.Proofs.Ytealdpkgfmokpaa.LawS
open Go.ChangeShapes Go.WideShapes Go.ChangeAt Go.RowKit
open Sl (Sl Own Off)
open OpenSl (tc nc pc)
open Dev
set_option linter.unusedVariables false

theorem mem_getD {ts : List ByteArray} {k : Nat} (h : k < ts.length) : ts.getD k ByteArray.empty ∈ ts := by
  rw [List.getD_eq_getElem?_getD, List.getElem?_eq_getElem h]; exact List.getElem_mem h

theorem size_le {ts : List ByteArray} {m : Nat} (h : ∀ s ∈ ts, s.size ≤ m) (k : Nat) : (ts.getD k ByteArray.empty).size ≤ m := by
  by_cases hk : k < ts.length
  · exact h _ (mem_getD hk)
  · rw [List.getD_eq_getElem?_getD, List.getElem?_eq_none (by omega)]; exact Nat.zero_le _

theorem made_one (z : Value) (hz : z.cells = #[z]) (n : Nat) : ∀ j, j < n * 1 → (madeCells z.cells (n * 1))[j]? = some z := by
  intro j hj
  rw [hz, ← Array.getElem?_toList, toList_madeCells_one, List.getElem?_replicate, if_pos hj]
theorem info9 : (Try.prog.info? 9).map (fun i => (i.zero, i.size, i.bytes)) = some (some (.string ByteArray.empty), 1, 16) := by kernel_rfl

end Go.Proofs.Ytealdpkgfmokpaa.LawS
