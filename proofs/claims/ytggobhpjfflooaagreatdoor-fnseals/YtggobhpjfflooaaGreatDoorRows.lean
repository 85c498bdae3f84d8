/-
  NARROWER THAN 'FOR EVERY INPUT', by the rows' own cells (each row's printed sentence says how): FnSeals: ifaces, laid · FnExactOpenAt: ifaces, laid.
  DERIVED. THE GIVEN ROWS OF THIS SEAT. 2 by the template 'for every input the law returns true; each argument reads behind the call as it read before'; 0 by the template 'total and deterministic' (their statements: YtggobhpjfflooaaGreatDoorTotals.lean).
  GIVEN WITH THE SEED: the statements are not yours to turn. If you find one false, say at which input.
  Laid BY PROGRAM, IN A SANDBOX (cutbox-rows.mjs): the forced cells as the released guide's own fill.sh prints them over the translation 2e4f15a60e8b84e2… (all of the seat's roots in one cut). By AI agents, Wed Nov 11 2026. No macro, syntax, notation, axiom, sorry.
-/
import Derived.Test.YtggobhpjfflooaaGreatDoorChecked
import GoSem.Claim
import GoSem.ClaimJoined
import GoSem.ClaimMapViews
import Derived.JoinedTies
import Derived.KernelRfl
namespace Go.Proofs.YtggobhpjfflooaaGreatDoor
/- THE CELL 'sum', in the pinned program and in every row, IS THE sha256 OF THE DUMP (.gsa) THAT YtggobhpjfflooaaGreatDoorProg.lean LOADS. Nothing in Lean hashes anything: it is a label: what it is worth is what the hold of that sum in a sandbox is worth. -/
noncomputable def Tryz.pinned : Pinned := { name := "ytggobhpjfflooaagreatdoor", sum := "2e4f15a60e8b84e2578361646291bd98dd9bf78b7a390b2735a61c2db1e265ff", checked := Tryz.checked }
namespace Rows
def none {H : Type} : Left H := { results := [], args := [] }

/- WHAT THE LISTED PACKAGE-LEVEL VARIABLES READ AS WHEN THE CALL BEGINS. Each datum BY PROGRAM (the guide's laid-datum.mjs) off the statement by which the dump's own 'gosem.cut.vars' lays the variable. In a bare row this is a premise. The card (YtggobhpjfflooaaGreatDoorCards.lean) ties it to the program's text. -/
def laid_errors_errorType {H : Type} : DataW H := .iface "internal/reflectlite.rtype" (.agg [.ptr (.lit (.string [101, 114, 114, 111, 114]))])
def laid_loop_example_g00548_impl_errBoxLong {H : Type} : DataW H := .iface "*errors.errorString" (.ptr (.agg [.lit (.string [97, 32, 116, 101, 120, 116, 32, 111, 102, 32, 97, 32, 98, 111, 120, 32, 105, 115, 32, 116, 111, 111, 32, 108, 111, 110, 103])]))
def laid_loop_example_g00548_impl_errBoxSize {H : Type} : DataW H := .iface "*errors.errorString" (.ptr (.agg [.lit (.string [97, 32, 107, 101, 121, 32, 111, 114, 32, 97, 32, 110, 111, 110, 99, 101, 32, 105, 115, 32, 111, 102, 32, 97, 110, 111, 116, 104, 101, 114, 32, 108, 101, 110, 103, 116, 104])]))
def laid_loop_example_g00548_impl_errBoxTag {H : Type} : DataW H := .iface "*errors.errorString" (.ptr (.agg [.lit (.string [97, 32, 98, 111, 120, 32, 104, 97, 115, 32, 110, 111, 116, 32, 116, 104, 101, 32, 116, 97, 103, 32, 116, 104, 97, 116, 32, 105, 116, 115, 32, 116, 101, 120, 116, 32, 109, 97, 107, 101, 115])]))

/-- 'laws.FnSeals': WHATEVER THE INPUT: true; the input reads as it did. -/
def fnSealsSpec : ChangeSpec := { name := "fnSeals", vars := ["loop.example/g00548/impl.errBoxLong", "loop.example/g00548/impl.errBoxSize", "loop.example/g00548/impl.errBoxTag"], fn := fun _ => fun
  | [d1, d2, g1, g2, g3] => { results := [.lit (.bool true)], args := [d1, d2], vars := [g1, g2, g3] }
  | _ => none }
def fnSealsRow : OpenClaim := { program := "ytggobhpjfflooaagreatdoor", sum := "2e4f15a60e8b84e2578361646291bd98dd9bf78b7a390b2735a61c2db1e265ff", func := "loop.example/g00548/laws.FnSeals", spec := "fnSeals", inPlace := ["internal/reflectlite.ValueOf", "(internal/reflectlite.Value).Type", "(internal/reflectlite.Value).IsNil", "internal/reflectlite.TypeOf", "(internal/reflectlite.Value).Elem", "(internal/reflectlite.Value).Set", "internal/abi.NoEscape", "internal/bytealg.MakeNoZero"], unfollowed := true, recurses := true, named := ["errors.errorType", "loop.example/g00548/impl.errBoxLong", "loop.example/g00548/impl.errBoxSize", "loop.example/g00548/impl.errBoxTag"], ifaces := true, apart := false, laid := [("errors.errorType", laid_errors_errorType), ("loop.example/g00548/impl.errBoxLong", laid_loop_example_g00548_impl_errBoxLong), ("loop.example/g00548/impl.errBoxSize", laid_loop_example_g00548_impl_errBoxSize), ("loop.example/g00548/impl.errBoxTag", laid_loop_example_g00548_impl_errBoxTag)] }
def FnSealsSaid : Prop := fnSealsRow.holds Tryz.pinned (OpenSpec.ofChange fnSealsSpec)

/-- ITS FALSE NEIGHBOUR: 'it returns false'. Refute it at one input. -/
def fnSealsWrong : ChangeSpec := { name := "fnSeals", vars := ["loop.example/g00548/impl.errBoxLong", "loop.example/g00548/impl.errBoxSize", "loop.example/g00548/impl.errBoxTag"], fn := fun _ => fun
  | [d1, d2, g1, g2, g3] => { results := [.lit (.bool false)], args := [d1, d2], vars := [g1, g2, g3] }
  | _ => none }
def FnSealsWrongFalsely : Prop := fnSealsRow.holds Tryz.pinned (OpenSpec.ofChange fnSealsWrong)

/-- 'laws.FnExactOpenAt': WHATEVER THE INPUT: true; the input reads as it did. -/
def fnExactOpenAtSpec : ChangeSpec := { name := "fnExactOpenAt", vars := ["loop.example/g00548/impl.errBoxTag", "loop.example/g00548/impl.errBoxLong", "loop.example/g00548/impl.errBoxSize"], fn := fun _ => fun
  | [d1, d2, d3, d4, d5, g1, g2, g3] => { results := [.lit (.bool true)], args := [d1, d2, d3, d4, d5], vars := [g1, g2, g3] }
  | _ => none }
def fnExactOpenAtRow : OpenClaim := { program := "ytggobhpjfflooaagreatdoor", sum := "2e4f15a60e8b84e2578361646291bd98dd9bf78b7a390b2735a61c2db1e265ff", func := "loop.example/g00548/laws.FnExactOpenAt", spec := "fnExactOpenAt", inPlace := ["internal/abi.NoEscape", "internal/bytealg.MakeNoZero", "internal/reflectlite.TypeOf", "internal/reflectlite.ValueOf", "(internal/reflectlite.Value).Type", "(internal/reflectlite.Value).IsNil", "(internal/reflectlite.Value).Elem", "(internal/reflectlite.Value).Set"], unfollowed := true, recurses := true, named := ["loop.example/g00548/impl.errBoxTag", "loop.example/g00548/impl.errBoxLong", "loop.example/g00548/impl.errBoxSize", "errors.errorType"], ifaces := true, apart := false, laid := [("errors.errorType", laid_errors_errorType), ("loop.example/g00548/impl.errBoxLong", laid_loop_example_g00548_impl_errBoxLong), ("loop.example/g00548/impl.errBoxSize", laid_loop_example_g00548_impl_errBoxSize), ("loop.example/g00548/impl.errBoxTag", laid_loop_example_g00548_impl_errBoxTag)] }
def FnExactOpenAtSaid : Prop := fnExactOpenAtRow.holds Tryz.pinned (OpenSpec.ofChange fnExactOpenAtSpec)

/-- ITS FALSE NEIGHBOUR: 'it returns false'. Refute it at one input. -/
def fnExactOpenAtWrong : ChangeSpec := { name := "fnExactOpenAt", vars := ["loop.example/g00548/impl.errBoxTag", "loop.example/g00548/impl.errBoxLong", "loop.example/g00548/impl.errBoxSize"], fn := fun _ => fun
  | [d1, d2, d3, d4, d5, g1, g2, g3] => { results := [.lit (.bool false)], args := [d1, d2, d3, d4, d5], vars := [g1, g2, g3] }
  | _ => none }
def FnExactOpenAtWrongFalsely : Prop := fnExactOpenAtRow.holds Tryz.pinned (OpenSpec.ofChange fnExactOpenAtWrong)

/- THE SECOND FORM. 'bulk': how many values and letters a reading holds, each counted each time it is reached (what is shared counts as often as it is met; a slice's spare places count too). A statement '..UptoSaid' is the law's where the arguments, and the package variables that the reading takes, are together of bulk at most 1048576: NARROWER than '..Said'. Prove '..Said' where nothing that the law and all that it calls make is longer than what came in: it says more and counts as full. Else prove '..UptoSaid'. A law counts once. -/
mutual
def uptoBulk {H : Type} : DataW H → Nat
  | .lit (.string bytes) => bytes.length + 1
  | .lit _ => 1
  | .nil => 1
  | .ptr d => uptoBulk d + 1
  | .slice elems spare => uptoBulkAll elems + uptoBulkAll spare + 1
  | .agg parts => uptoBulkAll parts + 1
  | .iface _ d => uptoBulk d + 1
  | .map entries => uptoBulkEntries entries + 1
  | .held _ => 1
def uptoBulkAll {H : Type} : List (DataW H) → Nat
  | [] => 0
  | d :: r => uptoBulk d + uptoBulkAll r
def uptoBulkEntries {H : Type} : List (Lit × DataW H) → Nat
  | [] => 0
  | x :: r => uptoBulkEntry x + uptoBulkEntries r
def uptoBulkEntry {H : Type} : Lit × DataW H → Nat
  | (.string bytes, d) => bytes.length + uptoBulk d + 1
  | (_, d) => uptoBulk d + 1
 end
def uptoSmall : (H : Type) → List (DataW H) → Bool := fun _ ds => decide (uptoBulkAll ds ≤ 1048576)
def OpenSpec.upto (s : _root_.Go.ChangeSpec) : _root_.Go.OpenSpec := { _root_.Go.OpenSpec.ofChange s with cond := some uptoSmall }

/-- 'laws.FnSeals', WHERE WHAT IT READS IS OF BULK AT MOST 1048576: true; the input reads as it did. -/
def fnSealsUptoRow : OpenClaim := { program := "ytggobhpjfflooaagreatdoor", sum := "2e4f15a60e8b84e2578361646291bd98dd9bf78b7a390b2735a61c2db1e265ff", func := "loop.example/g00548/laws.FnSeals", spec := "fnSeals", inPlace := ["internal/reflectlite.ValueOf", "(internal/reflectlite.Value).Type", "(internal/reflectlite.Value).IsNil", "internal/reflectlite.TypeOf", "(internal/reflectlite.Value).Elem", "(internal/reflectlite.Value).Set", "internal/abi.NoEscape", "internal/bytealg.MakeNoZero"], unfollowed := true, recurses := true, named := ["errors.errorType", "loop.example/g00548/impl.errBoxLong", "loop.example/g00548/impl.errBoxSize", "loop.example/g00548/impl.errBoxTag"], ifaces := true, apart := false, laid := [("errors.errorType", laid_errors_errorType), ("loop.example/g00548/impl.errBoxLong", laid_loop_example_g00548_impl_errBoxLong), ("loop.example/g00548/impl.errBoxSize", laid_loop_example_g00548_impl_errBoxSize), ("loop.example/g00548/impl.errBoxTag", laid_loop_example_g00548_impl_errBoxTag)], narrowed := true }
def FnSealsUptoSaid : Prop := fnSealsUptoRow.holds Tryz.pinned (OpenSpec.upto fnSealsSpec)

/-- 'laws.FnExactOpenAt', WHERE WHAT IT READS IS OF BULK AT MOST 1048576: true; the input reads as it did. -/
def fnExactOpenAtUptoRow : OpenClaim := { program := "ytggobhpjfflooaagreatdoor", sum := "2e4f15a60e8b84e2578361646291bd98dd9bf78b7a390b2735a61c2db1e265ff", func := "loop.example/g00548/laws.FnExactOpenAt", spec := "fnExactOpenAt", inPlace := ["internal/abi.NoEscape", "internal/bytealg.MakeNoZero", "internal/reflectlite.TypeOf", "internal/reflectlite.ValueOf", "(internal/reflectlite.Value).Type", "(internal/reflectlite.Value).IsNil", "(internal/reflectlite.Value).Elem", "(internal/reflectlite.Value).Set"], unfollowed := true, recurses := true, named := ["loop.example/g00548/impl.errBoxTag", "loop.example/g00548/impl.errBoxLong", "loop.example/g00548/impl.errBoxSize", "errors.errorType"], ifaces := true, apart := false, laid := [("errors.errorType", laid_errors_errorType), ("loop.example/g00548/impl.errBoxLong", laid_loop_example_g00548_impl_errBoxLong), ("loop.example/g00548/impl.errBoxSize", laid_loop_example_g00548_impl_errBoxSize), ("loop.example/g00548/impl.errBoxTag", laid_loop_example_g00548_impl_errBoxTag)], narrowed := true }
def FnExactOpenAtUptoSaid : Prop := fnExactOpenAtUptoRow.holds Tryz.pinned (OpenSpec.upto fnExactOpenAtSpec)

end Rows
end Go.Proofs.YtggobhpjfflooaaGreatDoor
