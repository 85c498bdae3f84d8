/-
  What is proved: what the rows' list gives: the package's words, and the library's table of tens, are in their places.
-/
import Derived.Test.YtidbkamadclchaaDoorRows
import Derived.Test.YtidbkamadclchaaDoorOpI
import Derived.LaidSub
import Derived.Lib.LaidTab
import Derived.LaidHandle
namespace Go.Proofs.YtidbkamadclchaaDoor.Tabs
open Go.ChangeShapes Go.WideShapes Go.ChangeAt Go.RowKit
open OpB Txt TxtB TextM OpI
open Shelf1 (Pow powN powG)
set_option linter.unusedVariables false

def owN : String := ((Rows.fnExactOpTextRow.laid.map (fun x => x.1)).getD 3 "")
theorem owG : Tryd.prog.globalNamed owN = some 0 := by kernel_rfl
theorem owT : (Tryd.prog.globals[(0 : Nat)]?).map (·.type) = some 74 := by kernel_rfl
theorem powT : (Tryd.prog.globals[(3 : Nat)]?).map (·.type) = some 145 := by kernel_rfl
theorem cellsS : Tryd.prog.cellsOf 9 = 1 := by kernel_rfl
theorem cells7 : Tryd.prog.cellsOf 74 = 7 := by kernel_rfl
theorem cells20 : Tryd.prog.cellsOf 145 = 20 := by kernel_rfl
theorem cellsU : Tryd.prog.cellsOf 126 = 1 := by kernel_rfl
theorem cells_of_strs {H : Type} {enc : TypeId × Value → H} {P : Program} {w : World} {base : Nat} {sp : Nat → Bool} {held : Bool} {fuel : Nat} {t e : TypeId} {n : Nat} {cs : List Value} {bs : List (List UInt8)} {p : List MemPlace}
    (ht : P.underlying t = some (.array n e)) (he : P.underlying e = some .string) (hce : P.cellsOf e = 1) (hct : P.cellsOf t = n)
    (h : DataW.trod enc P w base sp held fuel t cs = some (.agg (bs.map fun b => .lit (.string b)), p)) : cs = bs.map fun b => Value.string ⟨b.toArray⟩ := by
  obtain ⟨xs, m, _, hx, hl, hxl, ha⟩ := DataW.trod_array ht h
  simp only [Prod.mk.injEq, DataW.agg.injEq] at hx
  have hbl : bs.length = n := by
    have := congrArg List.length hx.1
    simp at this
    omega
  rw [hct] at hl
  apply List.ext_getElem?
  intro i
  by_cases hi : i < n
  · have hai := ha i hi
    rw [hce, List.getElem?_eq_getElem (by omega)] at hai
    obtain ⟨s, hc, hs, _⟩ := DataW.trod_string he hai
    have h1 : cs[i]? = some (.string s) := by
      have := congrArg (·[0]?) hc
      simpa [List.getElem?_take, List.getElem?_drop] using this
    have h2 : (xs.map (·.1))[i]? = some (.lit (.string s.data.toList)) := by
      simp [List.getElem?_eq_getElem (show i < xs.length by omega), hs]
    rw [← hx.1] at h2
    simp only [List.getElem?_map, Option.map_eq_some_iff, DataW.lit.injEq, Lit.string.injEq] at h2
    obtain ⟨b, hb, hbs⟩ := h2
    rw [h1, List.getElem?_map, hb, hbs]
    rfl
  · rw [List.getElem?_eq_none (by omega), List.getElem?_eq_none (by simp; omega)]

def owL : List (List UInt8) := [word 0, word 1, word 2, word 3, word 4, word 5, word 6]
def owD : DataW Unit := .agg (owL.map fun b => .lit (.string b))
theorem ow_of {W : World} {rest : List (String × DataW Unit)} (h : laidMet Tryd.prog ((owN, owD) :: rest) W) : OW W := by
  obtain ⟨ps, ⟨g', t', cs, fuel, p, q, hg', ht', hvar, hd, _, _⟩, _⟩ := h
  obtain rfl := Option.some.inj (owG.symm.trans hg')
  obtain rfl := Option.some.inj (owT.symm.trans ht')
  have hcs := cells_of_strs (bs := owL) Tryd.underlying74 Tryd.underlying9 cellsS cells7 hd
  intro k hk
  have hc := World.var?_cell owG hvar k
  rw [hc, ← Array.getElem?_toList, hcs]
  match k, hk with
  | 0, _ => rfl
  | 1, _ => rfl
  | 2, _ => rfl
  | 3, _ => rfl
  | 4, _ => rfl
  | 5, _ => rfl
  | 6, _ => rfl
  | k + 7, h => omega
theorem pow_of {W : World} {rest : List (String × DataW Unit)} (h : laidMet Tryd.prog ((powN, Lib.tabData .u64 Lib.pow10Tab) :: rest) W) : Pow W :=
  Lib.tabIs_of_head powG powT Tryd.underlying145 Tryd.underlying126 cellsU cells20 h
/-- A list that holds both. -/
theorem tb_of {l : List (String × DataW Unit)} {W : World} (h : laidMet Tryd.prog l W) (h1 : (l.filter fun x => decide (x.1 = owN)) = [(owN, owD)]) (h2 : (l.filter fun x => decide (x.1 = powN)) = [(powN, Lib.tabData .u64 Lib.pow10Tab)]) : Tb W :=
  ⟨ow_of (rest := []) (h1 ▸ h.filter _), pow_of (rest := []) (h2 ▸ h.filter _)⟩
/-- A datum's cells. -/
def cellOf : DataW Unit → Value
  | .lit (.int k n) => .int k n
  | .lit (.string b) => .string ⟨b.toArray⟩
  | _ => .bool false
def cellsOf : DataW Unit → Array Value
  | .agg l => (l.map cellOf).toArray
  | _ => #[]
end Go.Proofs.YtidbkamadclchaaDoor.Tabs
