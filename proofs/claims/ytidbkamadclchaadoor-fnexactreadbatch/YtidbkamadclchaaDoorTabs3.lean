/-
  What is proved: what the world's shape gives: the library's bound holds some number; cells of a datum of pairs.
-/
import Derived.Test.YtidbkamadclchaaDoorRows
import Derived.Test.YtidbkamadclchaaDoorTabs2
import Derived.Test.YtidbkamadclchaaDoorPiecesO
import Derived.Shelf.Vars
namespace Go.Proofs.YtidbkamadclchaaDoor.Tabs3
open Go.ChangeShapes Go.WideShapes Go.ChangeAt Go.RowKit
set_option linter.unusedVariables false

theorem mx_of {W : World} (h : W.ShapedOpen Tryd.prog) : PiecesO.Mx W :=
  cell_of_shapedOpen_int (t := 3) (zero := #[.int .i64 0]) h (of_decide_eq_true (by kernel_rfl)) (by kernel_rfl) rfl (by kernel_rfl) (by kernel_rfl) Tryd.underlying3
/-- A datum's cells, pairs among them. -/
def cells2 : DataW Unit → Array Value
  | .agg l => (l.flatMap fun x => match x with
    | .agg m => m.map Tabs.cellOf
    | y => [Tabs.cellOf y]).toArray
  | _ => #[]
end Go.Proofs.YtidbkamadclchaaDoor.Tabs3
