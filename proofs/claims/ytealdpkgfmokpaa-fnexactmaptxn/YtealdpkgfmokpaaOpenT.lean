/-
  What is proved: how a transaction that comes in by value is read (a law for the walks). Nothing of the program.
-/
import Derived.Test.YtealdpkgfmokpaaRows
import Derived.Test.YtealdpkgfmokpaaOpenB
namespace Go.Proofs.Ytealdpkgfmokpaa.OpenT
open Go.ChangeShapes Go.WideShapes Go.ChangeAt Go.RowKit
open Sl (Sl Off)
open Dev Orm
set_option linter.unusedVariables false

theorem cellsOps : Try.prog.cellsOf 42 = 1 := by kernel_rfl
theorem array1 {cs : Array Value} (h : cs.size = 1) : ∃ c0, cs = #[c0] := by
  rcases cs with ⟨l⟩
  match l, h with
  | [c0], _ => exact ⟨c0, rfl⟩
set_option maxRecDepth 100000 in
/-- A transaction by value that comes in. -/
theorem open_txn {H : Type} {enc : TypeId × Value → H} {W : World} {base b0 : Nat} {spare : Nat → Bool} {held : Bool} {v : Value} {d : DataW H} {p : List MemPlace}
    (o : Value.okWide Try.prog W .any b0 44 v) (h : DataW.Trod enc Try.prog W base spare held 44 v d p) : ∃ s os, v = .agg #[s] ∧ Sl W 3 s (os : List Bk).length (bc os) := by
  obtain ⟨cs, rfl, hsz⟩ := okWide_struct Try.underlying44 o
  obtain ⟨c0, rfl⟩ := array1 (hsz.trans OpenB.cellsTxn)
  obtain ⟨fuel, hf⟩ := h
  obtain ⟨y0, m, _, _, h0⟩ := trod_struct1 Try.underlying44 hf
  simp only [Value.cells, cellsOps, List.drop_zero, List.take_succ_cons, List.take_zero] at h0
  obtain ⟨xs, k⟩ := triples Try.underlying42 Try.underlying163 (by kernel_rfl) OpenB.cellsOp Try.underlying3 Try.underlying3 Try.underlying3 h0
  exact ⟨c0, xs, rfl, k⟩
end Go.Proofs.Ytealdpkgfmokpaa.OpenT
