/-
  What is proved: the laws' functions on slices of numbers: copied, compared, marked (contracts for the walks).
-/
import Derived.Test.YtidbkamadclchaaDoorRows
import Derived.Test.YtidbkamadclchaaDoorLawS
namespace Go.Proofs.YtidbkamadclchaaDoor.LawN
open Go.ChangeShapes Go.WideShapes Go.ChangeAt Go.RowKit
open Sl (Sl Own Off)
open OpenSl (tc nc pc)
open Dev
set_option linter.unusedVariables false

theorem info3 : (Tryd.prog.info? 3).map (fun i => (i.zero, i.size, i.bytes)) = some (some (.int .i64 0), 1, 8) := by kernel_rfl
def mi (k j : Nat) : Value := .int .i64 ((k + j : Nat) : Int)
end Go.Proofs.YtidbkamadclchaaDoor.LawN
