/-
  What is proved: what the rows' list gives: the package's words of codes, and the library's table of tens, are in their places.
-/
import Derived.Test.YtifkihjjkomfiaaDoorRows
import Derived.Test.YtifkihjjkomfiaaDoorResI
import Derived.LaidSub
import Derived.Lib.LaidTab
import Derived.LaidHandle
namespace Go.Proofs.YtifkihjjkomfiaaDoor.TabsR
open Go.ChangeShapes Go.WideShapes Go.ChangeAt Go.RowKit
open CodesR (Tab words cellsW)
open ResI (Tc)
open Shelf1 (Pow powN powG)
set_option linter.unusedVariables false

def cwN : String := ((Rows.fnExactResultTextRow.laid.map (fun x => x.1)).getD 3 "")
theorem cwG : Tryd.prog.globalNamed cwN = some 0 := by kernel_rfl
theorem cwT : (Tryd.prog.globals[(0 : Nat)]?).map (·.type) = some 59 := by kernel_rfl
theorem powT : (Tryd.prog.globals[(3 : Nat)]?).map (·.type) = some 98 := by kernel_rfl
theorem cellsS : Tryd.prog.cellsOf 9 = 1 := by kernel_rfl
theorem cells20s : Tryd.prog.cellsOf 59 = 20 := by kernel_rfl
theorem cells20 : Tryd.prog.cellsOf 98 = 20 := by kernel_rfl
theorem cellsU : Tryd.prog.cellsOf 81 = 1 := by kernel_rfl
theorem cells_of_strs {H : Type} {enc : TypeId × Value → H} {P : Program} {w : World} {base : Nat} {sp : Nat → Bool} {held : Bool} {fuel : Nat} {t e : TypeId} {n : Nat} {cs : List Value} {bs : List (List UInt8)} {p : List MemPlace}
    (ht : P.underlying t = some (.array n e)) (he : P.underlying e = some .string) (hce : P.cellsOf e = 1) (hct : P.cellsOf t = n)
    (h : DataW.trod enc P w base sp held fuel t cs = some (.agg (bs.map fun b => .lit (.string b)), p)) : cs = bs.map fun b => Value.string ⟨b.toArray⟩ := by
  obtain ⟨xs, m, _, hx, hl, hxl, ha⟩ := DataW.trod_array ht h
  simp only [Prod.mk.injEq, DataW.agg.injEq] at hx
  have hbl : bs.length = n := by
    have := congrArg List.length hx.1
    simp at this
    omega
  rw [hct] at hl
  apply List.ext_getElem?
  intro i
  by_cases hi : i < n
  · have hai := ha i hi
    rw [hce, List.getElem?_eq_getElem (by omega)] at hai
    obtain ⟨s, hc, hs, _⟩ := DataW.trod_string he hai
    have h1 : cs[i]? = some (.string s) := by
      have := congrArg (·[0]?) hc
      simpa [List.getElem?_take, List.getElem?_drop] using this
    have h2 : (xs.map (·.1))[i]? = some (.lit (.string s.data.toList)) := by
      simp [List.getElem?_eq_getElem (show i < xs.length by omega), hs]
    rw [← hx.1] at h2
    simp only [List.getElem?_map, Option.map_eq_some_iff, DataW.lit.injEq, Lit.string.injEq] at h2
    obtain ⟨b, hb, hbs⟩ := h2
    rw [h1, List.getElem?_map, hb, hbs]
    rfl
  · rw [List.getElem?_eq_none (by omega), List.getElem?_eq_none (by simp; omega)]

def cwL : List (List UInt8) := words.map fun b => b.data.toList
def cwD : DataW Unit := .agg (cwL.map fun b => .lit (.string b))
theorem tab_of {W : World} {rest : List (String × DataW Unit)} (h : laidMet Tryd.prog ((cwN, cwD) :: rest) W) : Tab W := by
  obtain ⟨ps, ⟨g, t, cs, fuel, p, q, hg, ht, hvar, hd, _, _⟩, _⟩ := h
  obtain rfl := Option.some.inj (cwG.symm.trans hg)
  obtain rfl := Option.some.inj (cwT.symm.trans ht)
  have hcs := cells_of_strs (bs := cwL) Tryd.underlying59 Tryd.underlying9 cellsS cells20s hd
  simp only [World.var?, hg, Option.bind_some] at hvar
  split at hvar
  · rename_i c2 t2 f2 hh
    simp only [Option.some.injEq] at hvar
    subst hvar
    refine ⟨t2, f2, hh.trans ?_⟩
    have e : c2 = cellsW := by
      have : c2 = c2.toList.toArray := by simp
      rw [this, hcs]
      rfl
    rw [e]
  · cases hvar
theorem pow_of {W : World} {rest : List (String × DataW Unit)} (h : laidMet Tryd.prog ((powN, Lib.tabData .u64 Lib.pow10Tab) :: rest) W) : Pow W :=
  Lib.tabIs_of_head powG powT Tryd.underlying98 Tryd.underlying81 cellsU cells20 h
/-- A list that holds both. -/
theorem tc_of {l : List (String × DataW Unit)} {W : World} (h : laidMet Tryd.prog l W) (h1 : (l.filter fun x => decide (x.1 = cwN)) = [(cwN, cwD)]) (h2 : (l.filter fun x => decide (x.1 = powN)) = [(powN, Lib.tabData .u64 Lib.pow10Tab)]) : Tc W :=
  ⟨tab_of (rest := []) (h1 ▸ h.filter _), pow_of (rest := []) (h2 ▸ h.filter _)⟩
/-- A datum's cells. -/
def cellOf : DataW Unit → Value
  | .lit (.int k n) => .int k n
  | .lit (.string b) => .string ⟨b.toArray⟩
  | _ => .bool false
def cellsOf : DataW Unit → Array Value
  | .agg l => (l.map cellOf).toArray
  | _ => #[]
end Go.Proofs.YtifkihjjkomfiaaDoor.TabsR
