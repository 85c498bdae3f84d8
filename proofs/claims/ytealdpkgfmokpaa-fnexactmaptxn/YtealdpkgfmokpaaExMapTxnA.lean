/-
  What is proved: the exact law on MapTxn returns true, for arguments as they come in.
-/
import Derived.Test.YtealdpkgfmokpaaRows
import Derived.Test.YtealdpkgfmokpaaExMapTxn
import Derived.Test.YtealdpkgfmokpaaOpenT
namespace Go.Proofs.Ytealdpkgfmokpaa.ExMapTxnA
open Go.ChangeShapes Go.WideShapes Go.ChangeAt Go.RowKit
open Dev Orm LawE
set_option linter.unusedVariables false

set_option maxRecDepth 100000 in
theorem walk_any {H : Type} {enc : TypeId × Value → H} {W : World} {base base1 b0 b1 : Nat} {spare spare1 : Nat → Bool} {held held1 : Bool} {v u : Value} {d d1 : DataW H} {p p1 : List MemPlace}
    (o : Value.okWide Try.prog W .any b0 41 v) (h : DataW.Trod enc Try.prog W base spare held 41 v d p)
    (o1 : Value.okWide Try.prog W .any b1 44 u) (h1 : DataW.Trod enc Try.prog W base1 spare1 held1 44 u d1 p1) :
    Calls Try.prog 5 #[v, u] W fun e w' => e = .returned (.bool true) ∧ Below W.heap.size W w' := by
  obtain ⟨xs, hr, _⟩ := open_map h (okWide_slice Try.underlying41 o)
  obtain ⟨s, os, rfl, hs⟩ := OpenT.open_txn o1 h1
  exact ExMapTxn.walk W v xs hr s os hs
end Go.Proofs.Ytealdpkgfmokpaa.ExMapTxnA
