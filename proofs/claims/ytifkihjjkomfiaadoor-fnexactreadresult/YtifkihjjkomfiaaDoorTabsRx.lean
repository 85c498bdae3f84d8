/-
  What is proved: what the rows' list gives, besides: the library's two errors stand in their variables, with all that reading a result asks.
-/
import Derived.Test.YtifkihjjkomfiaaDoorRows
import Derived.Test.YtifkihjjkomfiaaDoorTabsR
import Derived.Test.YtifkihjjkomfiaaDoorReadRi
import Derived.Stop.LaidTwo
import Derived.MakeChecks
import Derived.Stop.Texts
namespace Go.Proofs.YtifkihjjkomfiaaDoor.TabsRx
open Go.ChangeShapes Go.WideShapes Go.ChangeAt Go.RowKit Go.Kit Go.Extern.Stop Go.Stop Go.Extern
open TabsR
open Shelf1 (powN)
set_option linter.unusedVariables false

theorem star : "*" ++ "errors.errorString" = "*errors.errorString" := by decide
theorem rowE (u : TypeId) (h : Tryd.prog.typeName? 3 u = some "*errors.errorString") : u = 103 :=
  typeName_ptr_named (nm := "errors.errorString") (by rw [star]; kernel_rfl) (by kernel_rfl) (by decide) u (by rw [star]; exact h)
theorem cellsE : Tryd.prog.cellsOf 105 = 1 := by kernel_rfl
theorem ev_of {W : World} {a b : List UInt8} {rest : List (String × DataW Unit)} (h : laidMet Tryd.prog (("strconv.ErrRange", .iface "*errors.errorString" (.ptr (.agg [.lit (.string a)]))) :: ("strconv.ErrSyntax", .iface "*errors.errorString" (.ptr (.agg [.lit (.string b)]))) :: rest) W) : Shelf2r.Ev W := by
  obtain ⟨a0, a1, s0, s1, c0, c1, t0, t1, hv0, hv1, _⟩ := laid_sentinels2 h (g0 := 2) (g1 := 1) (by kernel_rfl) (by kernel_rfl) (by kernel_rfl) (by kernel_rfl) Tryd.underlying55 rowE Tryd.underlying103 Tryd.underlying105 rfl rfl Tryd.underlying9 cellsE cellsS
  exact ⟨⟨_, _, hv1⟩, ⟨_, _, hv0⟩⟩
/-- A list that holds them all. -/
theorem te_of {l : List (String × DataW Unit)} {W : World} {a b : List UInt8} (h : laidMet Tryd.prog l W) (h1 : (l.filter fun x => decide (x.1 = cwN)) = [(cwN, cwD)]) (h2 : (l.filter fun x => decide (x.1 = powN)) = [(powN, Lib.tabData .u64 Lib.pow10Tab)])
    (h3 : (l.filter fun x => decide (x.1 = "strconv.ErrRange") || decide (x.1 = "strconv.ErrSyntax")) = [("strconv.ErrRange", .iface "*errors.errorString" (.ptr (.agg [.lit (.string a)]))), ("strconv.ErrSyntax", .iface "*errors.errorString" (.ptr (.agg [.lit (.string b)])))]) : ReadRi.Te W :=
  ⟨tc_of h h1 h2, ev_of (rest := []) (h3 ▸ h.filter _)⟩
end Go.Proofs.YtifkihjjkomfiaaDoor.TabsRx
