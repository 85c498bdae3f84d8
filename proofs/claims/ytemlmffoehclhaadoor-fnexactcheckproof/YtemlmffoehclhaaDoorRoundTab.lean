/-
  What is proved: what the rows' list gives: the package's table of round words holds its words.
-/
import Derived.Test.YtemlmffoehclhaaDoorRows
import Derived.Test.YtemlmffoehclhaaDoorMixBlock
import Derived.Lib.LaidTab
namespace Go.Proofs.YtemlmffoehclhaaDoor.RoundTab
open Go.ChangeShapes Go.WideShapes Go.ChangeAt Go.RowKit
open MixBlock (Tab KL kk)
set_option linter.unusedVariables false

def name : String := Rows.fnExactHashOfSpec.vars.headD Rows.fnExactHashOfSpec.name
theorem gname : Tryd.prog.globalNamed name = some 0 := by kernel_rfl
theorem gtype : (Tryd.prog.globals[(0 : Nat)]?).map (·.type) = some 89 := by kernel_rfl
theorem cellsE : Tryd.prog.cellsOf 87 = 1 := by kernel_rfl
theorem cellsT : Tryd.prog.cellsOf 89 = 64 := by kernel_rfl
def zs : List Int := KL.map fun (x : Nat) => (x : Int)
theorem zs_length : zs.length = 64 := by kernel_rfl
theorem zs_at (k : Nat) (h : k < 64) : zs[k]? = some (kk k : Int) := by
  have : k < KL.length := h
  unfold zs kk
  rw [List.getElem?_map, List.getD_eq_getElem?_getD, List.getElem?_eq_getElem this]
  rfl
def cellsW : Array Value := (zs.map fun z => Value.int .u32 z).toArray
/-- The list of the row, whichever law's. -/
def list : List (String × DataW Unit) := [(name, Lib.tabData .u32 zs)]
theorem tab_of {W : World} (h : laidMetH Tryd.prog list W) : Tab W := by
  have h2 : laidMet Tryd.prog list W := h
  have ht := Lib.tabIs_of_head gname gtype Tryd.underlying89 Tryd.underlying87 cellsE cellsT h2
  intro k hk
  rw [ht.cell gname k (by rw [zs_length]; exact hk), List.getD_eq_getElem?_getD, zs_at k hk]
  rfl
theorem sum_list : Rows.fnExactHashSumRow.laid = list := by kernel_rfl
theorem of_list : Rows.fnExactHashOfRow.laid = list := by kernel_rfl
theorem fn_list : Rows.fnHashRow.laid = list := by kernel_rfl
theorem leaf_list : Rows.fnExactLeafDigestRow.laid = list := by kernel_rfl
theorem join_list : Rows.fnExactJoinDigestsRow.laid = list := by kernel_rfl
theorem root_list : Rows.fnExactRootOfRow.laid = list := by kernel_rfl
theorem proof_list : Rows.fnExactProofOfRow.laid = list := by kernel_rfl
theorem check_list : Rows.fnExactCheckProofRow.laid = list := by kernel_rfl
theorem chain_list : Rows.fnExactChainTipRow.laid = list := by kernel_rfl
end Go.Proofs.YtemlmffoehclhaaDoor.RoundTab
