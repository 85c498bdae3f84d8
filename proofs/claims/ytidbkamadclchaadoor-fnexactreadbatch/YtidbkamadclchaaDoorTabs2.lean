/-
  What is proved: what the rows' list gives, besides: the package's words as a whole block, and the library's two errors stand in their variables.
-/
import Derived.Test.YtidbkamadclchaaDoorRows
import Derived.Test.YtidbkamadclchaaDoorTabs
import Derived.Test.YtidbkamadclchaaDoorReadI
import Derived.Stop.LaidTwo
import Derived.MakeChecks
import Derived.Stop.Texts
namespace Go.Proofs.YtidbkamadclchaaDoor.Tabs2
open Go.ChangeShapes Go.WideShapes Go.ChangeAt Go.RowKit Go.Kit Go.Extern.Stop Go.Stop Go.Extern
open Tabs
open Shelf1 (powN)
set_option linter.unusedVariables false

theorem star : "*" ++ "errors.errorString" = "*errors.errorString" := by decide
theorem rowE (u : TypeId) (h : Tryd.prog.typeName? 3 u = some "*errors.errorString") : u = 150 :=
  typeName_ptr_named (nm := "errors.errorString") (by rw [star]; kernel_rfl) (by kernel_rfl) (by decide) u (by rw [star]; exact h)
theorem cellsE : Tryd.prog.cellsOf 152 = 1 := by kernel_rfl
theorem owb_of {W : World} {rest : List (String × DataW Unit)} (h : laidMet Tryd.prog ((owN, owD) :: rest) W) : ReadI.OWB W := by
  obtain ⟨ps, ⟨g', t', cs, fuel, p, q, hg', ht', hvar, hd, _, _⟩, _⟩ := h
  obtain rfl := Option.some.inj (owG.symm.trans hg')
  obtain rfl := Option.some.inj (owT.symm.trans ht')
  have hcs := cells_of_strs (bs := owL) Tryd.underlying74 Tryd.underlying9 cellsS cells7 hd
  have hc : cs = ReadI.wcs := Array.toList_inj.1 (hcs.trans rfl)
  unfold World.var? at hvar
  rw [owG] at hvar
  simp only [Option.bind_some] at hvar
  split at hvar
  · rename_i cs2 t fr heq
    obtain rfl := Option.some.inj hvar
    exact ⟨t, fr, by rw [heq, hc]⟩
  · cases hvar
theorem ev_of {W : World} {a b : List UInt8} {rest : List (String × DataW Unit)} (h : laidMet Tryd.prog (("strconv.ErrRange", .iface "*errors.errorString" (.ptr (.agg [.lit (.string a)]))) :: ("strconv.ErrSyntax", .iface "*errors.errorString" (.ptr (.agg [.lit (.string b)]))) :: rest) W) : Shelf2.Ev W := by
  obtain ⟨a0, a1, s0, s1, c0, c1, t0, t1, hv0, hv1, _⟩ := laid_sentinels2 h (g0 := 2) (g1 := 1) (by kernel_rfl) (by kernel_rfl) (by kernel_rfl) (by kernel_rfl) Tryd.underlying81 rowE Tryd.underlying150 Tryd.underlying152 rfl rfl Tryd.underlying9 cellsE cellsS
  exact ⟨⟨_, _, hv1⟩, ⟨_, _, hv0⟩⟩
/-- A list that holds them all. -/
theorem tr_of {l : List (String × DataW Unit)} {W : World} {a b : List UInt8} (h : laidMet Tryd.prog l W) (h1 : (l.filter fun x => decide (x.1 = owN)) = [(owN, owD)]) (h2 : (l.filter fun x => decide (x.1 = powN)) = [(powN, Lib.tabData .u64 Lib.pow10Tab)])
    (h3 : (l.filter fun x => decide (x.1 = "strconv.ErrRange") || decide (x.1 = "strconv.ErrSyntax")) = [("strconv.ErrRange", .iface "*errors.errorString" (.ptr (.agg [.lit (.string a)]))), ("strconv.ErrSyntax", .iface "*errors.errorString" (.ptr (.agg [.lit (.string b)])))]) : ReadI.Tr W :=
  ⟨tb_of h h1 h2, owb_of (rest := []) (h1 ▸ h.filter _), ev_of (rest := []) (h3 ▸ h.filter _)⟩
end Go.Proofs.YtidbkamadclchaaDoor.Tabs2
