/-
  NARROWER THAN 'FOR EVERY INPUT', by the rows' own cells (each row's printed sentence says how): FnBox: ifaces, laid · FnExactSealBox: ifaces, laid · FnExactOpenBox: ifaces, laid · FnExactBoxTag: ifaces, laid · FnExactNonceOf: ifaces, laid · FnExactSealAt: ifaces, laid · FnExactIntsText: ifaces, laid · FnExactTextInts: ifaces, laid.
  DERIVED. THE GIVEN ROWS OF THIS SEAT. 8 by the template 'for every input the law returns true; each argument reads behind the call as it read before'; 0 by the template 'total and deterministic' (their statements: YtggobhpjfflooaaDoorTotals.lean).
  GIVEN WITH THE SEED: the statements are not yours to turn. If you find one false, say at which input.
  Laid BY PROGRAM, IN A SANDBOX (cutbox-rows.mjs): the forced cells as the released guide's own fill.sh prints them over the translation ad8e3a34c80bba3f… (all of the seat's roots in one cut). By AI agents, Wed Nov 11 2026. No macro, syntax, notation, axiom, sorry.
-/
import Derived.Test.YtggobhpjfflooaaDoorChecked
import GoSem.Claim
import GoSem.ClaimJoined
import GoSem.ClaimMapViews
import Derived.JoinedTies
import Derived.KernelRfl
namespace Go.Proofs.YtggobhpjfflooaaDoor
/- THE CELL 'sum', in the pinned program and in every row, IS THE sha256 OF THE DUMP (.gsa) THAT YtggobhpjfflooaaDoorProg.lean LOADS. Nothing in Lean hashes anything: it is a label: what it is worth is what the hold of that sum in a sandbox is worth. -/
noncomputable def Tryd.pinned : Pinned := { name := "ytggobhpjfflooaadoor", sum := "ad8e3a34c80bba3f816e5c5d67ca758db1b63a4f18de94e11906015fc8cc9b3e", checked := Tryd.checked }
namespace Rows
def none {H : Type} : Left H := { results := [], args := [] }

/- WHAT THE LISTED PACKAGE-LEVEL VARIABLES READ AS WHEN THE CALL BEGINS. Each datum BY PROGRAM (the guide's laid-datum.mjs) off the statement by which the dump's own 'gosem.cut.vars' lays the variable. In a bare row this is a premise. The card (YtggobhpjfflooaaDoorCards.lean) ties it to the program's text. -/
def laid_loop_example_g00548_impl_errBoxLong {H : Type} : DataW H := .iface "*errors.errorString" (.ptr (.agg [.lit (.string [97, 32, 116, 101, 120, 116, 32, 111, 102, 32, 97, 32, 98, 111, 120, 32, 105, 115, 32, 116, 111, 111, 32, 108, 111, 110, 103])]))
def laid_loop_example_g00548_impl_errBoxSize {H : Type} : DataW H := .iface "*errors.errorString" (.ptr (.agg [.lit (.string [97, 32, 107, 101, 121, 32, 111, 114, 32, 97, 32, 110, 111, 110, 99, 101, 32, 105, 115, 32, 111, 102, 32, 97, 110, 111, 116, 104, 101, 114, 32, 108, 101, 110, 103, 116, 104])]))
def laid_loop_example_g00548_impl_errBoxTag {H : Type} : DataW H := .iface "*errors.errorString" (.ptr (.agg [.lit (.string [97, 32, 98, 111, 120, 32, 104, 97, 115, 32, 110, 111, 116, 32, 116, 104, 101, 32, 116, 97, 103, 32, 116, 104, 97, 116, 32, 105, 116, 115, 32, 116, 101, 120, 116, 32, 109, 97, 107, 101, 115])]))
def laid_errors_errorType {H : Type} : DataW H := .iface "internal/reflectlite.rtype" (.agg [.ptr (.lit (.string [101, 114, 114, 111, 114]))])

/-- 'laws.FnBox': WHATEVER THE INPUT: true; the input reads as it did. -/
def fnBoxSpec : ChangeSpec := { name := "fnBox", vars := ["loop.example/g00548/impl.errBoxLong", "loop.example/g00548/impl.errBoxSize", "loop.example/g00548/impl.errBoxTag"], fn := fun _ => fun
  | [d1, d2, g1, g2, g3] => { results := [.lit (.bool true)], args := [d1, d2], vars := [g1, g2, g3] }
  | _ => none }
def fnBoxRow : OpenClaim := { program := "ytggobhpjfflooaadoor", sum := "ad8e3a34c80bba3f816e5c5d67ca758db1b63a4f18de94e11906015fc8cc9b3e", func := "loop.example/g00548/laws.FnBox", spec := "fnBox", inPlace := ["internal/reflectlite.TypeOf", "internal/abi.NoEscape", "internal/bytealg.MakeNoZero"], unfollowed := true, recurses := true, named := ["loop.example/g00548/impl.errBoxLong", "loop.example/g00548/impl.errBoxSize", "loop.example/g00548/impl.errBoxTag"], ifaces := true, apart := false, laid := [("loop.example/g00548/impl.errBoxLong", laid_loop_example_g00548_impl_errBoxLong), ("loop.example/g00548/impl.errBoxSize", laid_loop_example_g00548_impl_errBoxSize), ("loop.example/g00548/impl.errBoxTag", laid_loop_example_g00548_impl_errBoxTag)] }
def FnBoxSaid : Prop := fnBoxRow.holds Tryd.pinned (OpenSpec.ofChange fnBoxSpec)

/-- ITS FALSE NEIGHBOUR: 'it returns false'. Refute it at one input. -/
def fnBoxWrong : ChangeSpec := { name := "fnBox", vars := ["loop.example/g00548/impl.errBoxLong", "loop.example/g00548/impl.errBoxSize", "loop.example/g00548/impl.errBoxTag"], fn := fun _ => fun
  | [d1, d2, g1, g2, g3] => { results := [.lit (.bool false)], args := [d1, d2], vars := [g1, g2, g3] }
  | _ => none }
def FnBoxWrongFalsely : Prop := fnBoxRow.holds Tryd.pinned (OpenSpec.ofChange fnBoxWrong)

/-- 'laws.FnExactSealBox': WHATEVER THE INPUT: true; the input reads as it did. -/
def fnExactSealBoxSpec : ChangeSpec := { name := "fnExactSealBox", vars := ["loop.example/g00548/impl.errBoxLong", "loop.example/g00548/impl.errBoxSize"], fn := fun _ => fun
  | [d1, d2, d3, d4, g1, g2] => { results := [.lit (.bool true)], args := [d1, d2, d3, d4], vars := [g1, g2] }
  | _ => none }
def fnExactSealBoxRow : OpenClaim := { program := "ytggobhpjfflooaadoor", sum := "ad8e3a34c80bba3f816e5c5d67ca758db1b63a4f18de94e11906015fc8cc9b3e", func := "loop.example/g00548/laws.FnExactSealBox", spec := "fnExactSealBox", inPlace := ["internal/reflectlite.TypeOf", "internal/abi.NoEscape", "internal/bytealg.MakeNoZero"], unfollowed := true, recurses := true, named := ["loop.example/g00548/impl.errBoxLong", "loop.example/g00548/impl.errBoxSize"], ifaces := true, apart := false, laid := [("loop.example/g00548/impl.errBoxLong", laid_loop_example_g00548_impl_errBoxLong), ("loop.example/g00548/impl.errBoxSize", laid_loop_example_g00548_impl_errBoxSize)] }
def FnExactSealBoxSaid : Prop := fnExactSealBoxRow.holds Tryd.pinned (OpenSpec.ofChange fnExactSealBoxSpec)

/-- ITS FALSE NEIGHBOUR: 'it returns false'. Refute it at one input. -/
def fnExactSealBoxWrong : ChangeSpec := { name := "fnExactSealBox", vars := ["loop.example/g00548/impl.errBoxLong", "loop.example/g00548/impl.errBoxSize"], fn := fun _ => fun
  | [d1, d2, d3, d4, g1, g2] => { results := [.lit (.bool false)], args := [d1, d2, d3, d4], vars := [g1, g2] }
  | _ => none }
def FnExactSealBoxWrongFalsely : Prop := fnExactSealBoxRow.holds Tryd.pinned (OpenSpec.ofChange fnExactSealBoxWrong)

/-- 'laws.FnExactOpenBox': WHATEVER THE INPUT: true; the input reads as it did. -/
def fnExactOpenBoxSpec : ChangeSpec := { name := "fnExactOpenBox", vars := ["loop.example/g00548/impl.errBoxTag", "loop.example/g00548/impl.errBoxLong", "loop.example/g00548/impl.errBoxSize"], fn := fun _ => fun
  | [d1, d2, d3, d4, g1, g2, g3] => { results := [.lit (.bool true)], args := [d1, d2, d3, d4], vars := [g1, g2, g3] }
  | _ => none }
def fnExactOpenBoxRow : OpenClaim := { program := "ytggobhpjfflooaadoor", sum := "ad8e3a34c80bba3f816e5c5d67ca758db1b63a4f18de94e11906015fc8cc9b3e", func := "loop.example/g00548/laws.FnExactOpenBox", spec := "fnExactOpenBox", inPlace := ["internal/abi.NoEscape", "internal/bytealg.MakeNoZero", "internal/reflectlite.TypeOf"], unfollowed := true, recurses := true, named := ["loop.example/g00548/impl.errBoxTag", "loop.example/g00548/impl.errBoxLong", "loop.example/g00548/impl.errBoxSize"], ifaces := true, apart := false, laid := [("loop.example/g00548/impl.errBoxLong", laid_loop_example_g00548_impl_errBoxLong), ("loop.example/g00548/impl.errBoxSize", laid_loop_example_g00548_impl_errBoxSize), ("loop.example/g00548/impl.errBoxTag", laid_loop_example_g00548_impl_errBoxTag)] }
def FnExactOpenBoxSaid : Prop := fnExactOpenBoxRow.holds Tryd.pinned (OpenSpec.ofChange fnExactOpenBoxSpec)

/-- ITS FALSE NEIGHBOUR: 'it returns false'. Refute it at one input. -/
def fnExactOpenBoxWrong : ChangeSpec := { name := "fnExactOpenBox", vars := ["loop.example/g00548/impl.errBoxTag", "loop.example/g00548/impl.errBoxLong", "loop.example/g00548/impl.errBoxSize"], fn := fun _ => fun
  | [d1, d2, d3, d4, g1, g2, g3] => { results := [.lit (.bool false)], args := [d1, d2, d3, d4], vars := [g1, g2, g3] }
  | _ => none }
def FnExactOpenBoxWrongFalsely : Prop := fnExactOpenBoxRow.holds Tryd.pinned (OpenSpec.ofChange fnExactOpenBoxWrong)

/-- 'laws.FnExactBoxTag': WHATEVER THE INPUT: true; the input reads as it did. -/
def fnExactBoxTagSpec : ChangeSpec := { name := "fnExactBoxTag", vars := ["loop.example/g00548/impl.errBoxLong", "loop.example/g00548/impl.errBoxSize"], fn := fun _ => fun
  | [d1, d2, d3, d4, g1, g2] => { results := [.lit (.bool true)], args := [d1, d2, d3, d4], vars := [g1, g2] }
  | _ => none }
def fnExactBoxTagRow : OpenClaim := { program := "ytggobhpjfflooaadoor", sum := "ad8e3a34c80bba3f816e5c5d67ca758db1b63a4f18de94e11906015fc8cc9b3e", func := "loop.example/g00548/laws.FnExactBoxTag", spec := "fnExactBoxTag", inPlace := ["internal/reflectlite.TypeOf", "internal/abi.NoEscape", "internal/bytealg.MakeNoZero"], unfollowed := true, recurses := true, named := ["loop.example/g00548/impl.errBoxLong", "loop.example/g00548/impl.errBoxSize"], ifaces := true, apart := false, laid := [("loop.example/g00548/impl.errBoxLong", laid_loop_example_g00548_impl_errBoxLong), ("loop.example/g00548/impl.errBoxSize", laid_loop_example_g00548_impl_errBoxSize)] }
def FnExactBoxTagSaid : Prop := fnExactBoxTagRow.holds Tryd.pinned (OpenSpec.ofChange fnExactBoxTagSpec)

/-- ITS FALSE NEIGHBOUR: 'it returns false'. Refute it at one input. -/
def fnExactBoxTagWrong : ChangeSpec := { name := "fnExactBoxTag", vars := ["loop.example/g00548/impl.errBoxLong", "loop.example/g00548/impl.errBoxSize"], fn := fun _ => fun
  | [d1, d2, d3, d4, g1, g2] => { results := [.lit (.bool false)], args := [d1, d2, d3, d4], vars := [g1, g2] }
  | _ => none }
def FnExactBoxTagWrongFalsely : Prop := fnExactBoxTagRow.holds Tryd.pinned (OpenSpec.ofChange fnExactBoxTagWrong)

/-- 'laws.FnExactNonceOf': WHATEVER THE INPUT: true; the input reads as it did. -/
def fnExactNonceOfSpec : ChangeSpec := { name := "fnExactNonceOf", vars := ["loop.example/g00548/impl.errBoxLong", "loop.example/g00548/impl.errBoxSize"], fn := fun _ => fun
  | [d1, d2, d3, g1, g2] => { results := [.lit (.bool true)], args := [d1, d2, d3], vars := [g1, g2] }
  | _ => none }
def fnExactNonceOfRow : OpenClaim := { program := "ytggobhpjfflooaadoor", sum := "ad8e3a34c80bba3f816e5c5d67ca758db1b63a4f18de94e11906015fc8cc9b3e", func := "loop.example/g00548/laws.FnExactNonceOf", spec := "fnExactNonceOf", inPlace := ["internal/reflectlite.ValueOf", "(internal/reflectlite.Value).Type", "(internal/reflectlite.Value).IsNil", "internal/reflectlite.TypeOf", "(internal/reflectlite.Value).Elem", "(internal/reflectlite.Value).Set"], unfollowed := true, recurses := true, named := ["errors.errorType", "loop.example/g00548/impl.errBoxLong", "loop.example/g00548/impl.errBoxSize"], ifaces := true, apart := false, laid := [("errors.errorType", laid_errors_errorType), ("loop.example/g00548/impl.errBoxLong", laid_loop_example_g00548_impl_errBoxLong), ("loop.example/g00548/impl.errBoxSize", laid_loop_example_g00548_impl_errBoxSize)] }
def FnExactNonceOfSaid : Prop := fnExactNonceOfRow.holds Tryd.pinned (OpenSpec.ofChange fnExactNonceOfSpec)

/-- ITS FALSE NEIGHBOUR: 'it returns false'. Refute it at one input. -/
def fnExactNonceOfWrong : ChangeSpec := { name := "fnExactNonceOf", vars := ["loop.example/g00548/impl.errBoxLong", "loop.example/g00548/impl.errBoxSize"], fn := fun _ => fun
  | [d1, d2, d3, g1, g2] => { results := [.lit (.bool false)], args := [d1, d2, d3], vars := [g1, g2] }
  | _ => none }
def FnExactNonceOfWrongFalsely : Prop := fnExactNonceOfRow.holds Tryd.pinned (OpenSpec.ofChange fnExactNonceOfWrong)

/-- 'laws.FnExactSealAt': WHATEVER THE INPUT: true; the input reads as it did. -/
def fnExactSealAtSpec : ChangeSpec := { name := "fnExactSealAt", vars := ["loop.example/g00548/impl.errBoxLong", "loop.example/g00548/impl.errBoxSize"], fn := fun _ => fun
  | [d1, d2, d3, d4, d5, g1, g2] => { results := [.lit (.bool true)], args := [d1, d2, d3, d4, d5], vars := [g1, g2] }
  | _ => none }
def fnExactSealAtRow : OpenClaim := { program := "ytggobhpjfflooaadoor", sum := "ad8e3a34c80bba3f816e5c5d67ca758db1b63a4f18de94e11906015fc8cc9b3e", func := "loop.example/g00548/laws.FnExactSealAt", spec := "fnExactSealAt", inPlace := ["internal/reflectlite.ValueOf", "(internal/reflectlite.Value).Type", "(internal/reflectlite.Value).IsNil", "internal/reflectlite.TypeOf", "(internal/reflectlite.Value).Elem", "(internal/reflectlite.Value).Set", "internal/abi.NoEscape", "internal/bytealg.MakeNoZero"], unfollowed := true, recurses := true, named := ["errors.errorType", "loop.example/g00548/impl.errBoxLong", "loop.example/g00548/impl.errBoxSize"], ifaces := true, apart := false, laid := [("errors.errorType", laid_errors_errorType), ("loop.example/g00548/impl.errBoxLong", laid_loop_example_g00548_impl_errBoxLong), ("loop.example/g00548/impl.errBoxSize", laid_loop_example_g00548_impl_errBoxSize)] }
def FnExactSealAtSaid : Prop := fnExactSealAtRow.holds Tryd.pinned (OpenSpec.ofChange fnExactSealAtSpec)

/-- ITS FALSE NEIGHBOUR: 'it returns false'. Refute it at one input. -/
def fnExactSealAtWrong : ChangeSpec := { name := "fnExactSealAt", vars := ["loop.example/g00548/impl.errBoxLong", "loop.example/g00548/impl.errBoxSize"], fn := fun _ => fun
  | [d1, d2, d3, d4, d5, g1, g2] => { results := [.lit (.bool false)], args := [d1, d2, d3, d4, d5], vars := [g1, g2] }
  | _ => none }
def FnExactSealAtWrongFalsely : Prop := fnExactSealAtRow.holds Tryd.pinned (OpenSpec.ofChange fnExactSealAtWrong)

/-- 'laws.FnExactIntsText': WHATEVER THE INPUT: true; the input reads as it did. -/
def fnExactIntsTextSpec : ChangeSpec := { name := "fnExactIntsText", vars := ["loop.example/g00548/impl.errBoxLong", "loop.example/g00548/impl.errBoxSize"], fn := fun _ => fun
  | [d, g1, g2] => { results := [.lit (.bool true)], args := [d], vars := [g1, g2] }
  | _ => none }
def fnExactIntsTextRow : OpenClaim := { program := "ytggobhpjfflooaadoor", sum := "ad8e3a34c80bba3f816e5c5d67ca758db1b63a4f18de94e11906015fc8cc9b3e", func := "loop.example/g00548/laws.FnExactIntsText", spec := "fnExactIntsText", inPlace := ["internal/reflectlite.ValueOf", "(internal/reflectlite.Value).Type", "(internal/reflectlite.Value).IsNil", "internal/reflectlite.TypeOf", "(internal/reflectlite.Value).Elem", "(internal/reflectlite.Value).Set"], unfollowed := true, recurses := true, named := ["errors.errorType", "loop.example/g00548/impl.errBoxLong", "loop.example/g00548/impl.errBoxSize"], ifaces := true, apart := false, laid := [("errors.errorType", laid_errors_errorType), ("loop.example/g00548/impl.errBoxLong", laid_loop_example_g00548_impl_errBoxLong), ("loop.example/g00548/impl.errBoxSize", laid_loop_example_g00548_impl_errBoxSize)] }
def FnExactIntsTextSaid : Prop := fnExactIntsTextRow.holds Tryd.pinned (OpenSpec.ofChange fnExactIntsTextSpec)

/-- ITS FALSE NEIGHBOUR: 'it returns false'. Refute it at one input. -/
def fnExactIntsTextWrong : ChangeSpec := { name := "fnExactIntsText", vars := ["loop.example/g00548/impl.errBoxLong", "loop.example/g00548/impl.errBoxSize"], fn := fun _ => fun
  | [d, g1, g2] => { results := [.lit (.bool false)], args := [d], vars := [g1, g2] }
  | _ => none }
def FnExactIntsTextWrongFalsely : Prop := fnExactIntsTextRow.holds Tryd.pinned (OpenSpec.ofChange fnExactIntsTextWrong)

/-- 'laws.FnExactTextInts': WHATEVER THE INPUT: true; the input reads as it did. -/
def fnExactTextIntsSpec : ChangeSpec := { name := "fnExactTextInts", vars := ["loop.example/g00548/impl.errBoxLong", "loop.example/g00548/impl.errBoxSize"], fn := fun _ => fun
  | [d, g1, g2] => { results := [.lit (.bool true)], args := [d], vars := [g1, g2] }
  | _ => none }
def fnExactTextIntsRow : OpenClaim := { program := "ytggobhpjfflooaadoor", sum := "ad8e3a34c80bba3f816e5c5d67ca758db1b63a4f18de94e11906015fc8cc9b3e", func := "loop.example/g00548/laws.FnExactTextInts", spec := "fnExactTextInts", inPlace := ["internal/reflectlite.ValueOf", "(internal/reflectlite.Value).Type", "(internal/reflectlite.Value).IsNil", "internal/reflectlite.TypeOf", "(internal/reflectlite.Value).Elem", "(internal/reflectlite.Value).Set"], unfollowed := true, recurses := true, named := ["errors.errorType", "loop.example/g00548/impl.errBoxLong", "loop.example/g00548/impl.errBoxSize"], ifaces := true, apart := false, laid := [("errors.errorType", laid_errors_errorType), ("loop.example/g00548/impl.errBoxLong", laid_loop_example_g00548_impl_errBoxLong), ("loop.example/g00548/impl.errBoxSize", laid_loop_example_g00548_impl_errBoxSize)] }
def FnExactTextIntsSaid : Prop := fnExactTextIntsRow.holds Tryd.pinned (OpenSpec.ofChange fnExactTextIntsSpec)

/-- ITS FALSE NEIGHBOUR: 'it returns false'. Refute it at one input. -/
def fnExactTextIntsWrong : ChangeSpec := { name := "fnExactTextInts", vars := ["loop.example/g00548/impl.errBoxLong", "loop.example/g00548/impl.errBoxSize"], fn := fun _ => fun
  | [d, g1, g2] => { results := [.lit (.bool false)], args := [d], vars := [g1, g2] }
  | _ => none }
def FnExactTextIntsWrongFalsely : Prop := fnExactTextIntsRow.holds Tryd.pinned (OpenSpec.ofChange fnExactTextIntsWrong)

/- THE SECOND FORM. 'bulk': how many values and letters a reading holds, each counted each time it is reached (what is shared counts as often as it is met; a slice's spare places count too). A statement '..UptoSaid' is the law's where the arguments, and the package variables that the reading takes, are together of bulk at most 1048576: NARROWER than '..Said'. Prove '..Said' where nothing that the law and all that it calls make is longer than what came in: it says more and counts as full. Else prove '..UptoSaid'. A law counts once. -/
mutual
def uptoBulk {H : Type} : DataW H → Nat
  | .lit (.string bytes) => bytes.length + 1
  | .lit _ => 1
  | .nil => 1
  | .ptr d => uptoBulk d + 1
  | .slice elems spare => uptoBulkAll elems + uptoBulkAll spare + 1
  | .agg parts => uptoBulkAll parts + 1
  | .iface _ d => uptoBulk d + 1
  | .map entries => uptoBulkEntries entries + 1
  | .held _ => 1
def uptoBulkAll {H : Type} : List (DataW H) → Nat
  | [] => 0
  | d :: r => uptoBulk d + uptoBulkAll r
def uptoBulkEntries {H : Type} : List (Lit × DataW H) → Nat
  | [] => 0
  | x :: r => uptoBulkEntry x + uptoBulkEntries r
def uptoBulkEntry {H : Type} : Lit × DataW H → Nat
  | (.string bytes, d) => bytes.length + uptoBulk d + 1
  | (_, d) => uptoBulk d + 1
 end
def uptoSmall : (H : Type) → List (DataW H) → Bool := fun _ ds => decide (uptoBulkAll ds ≤ 1048576)
def OpenSpec.upto (s : _root_.Go.ChangeSpec) : _root_.Go.OpenSpec := { _root_.Go.OpenSpec.ofChange s with cond := some uptoSmall }

/-- 'laws.FnBox', WHERE WHAT IT READS IS OF BULK AT MOST 1048576: true; the input reads as it did. -/
def fnBoxUptoRow : OpenClaim := { program := "ytggobhpjfflooaadoor", sum := "ad8e3a34c80bba3f816e5c5d67ca758db1b63a4f18de94e11906015fc8cc9b3e", func := "loop.example/g00548/laws.FnBox", spec := "fnBox", inPlace := ["internal/reflectlite.TypeOf", "internal/abi.NoEscape", "internal/bytealg.MakeNoZero"], unfollowed := true, recurses := true, named := ["loop.example/g00548/impl.errBoxLong", "loop.example/g00548/impl.errBoxSize", "loop.example/g00548/impl.errBoxTag"], ifaces := true, apart := false, laid := [("loop.example/g00548/impl.errBoxLong", laid_loop_example_g00548_impl_errBoxLong), ("loop.example/g00548/impl.errBoxSize", laid_loop_example_g00548_impl_errBoxSize), ("loop.example/g00548/impl.errBoxTag", laid_loop_example_g00548_impl_errBoxTag)], narrowed := true }
def FnBoxUptoSaid : Prop := fnBoxUptoRow.holds Tryd.pinned (OpenSpec.upto fnBoxSpec)

/-- 'laws.FnExactSealBox', WHERE WHAT IT READS IS OF BULK AT MOST 1048576: true; the input reads as it did. -/
def fnExactSealBoxUptoRow : OpenClaim := { program := "ytggobhpjfflooaadoor", sum := "ad8e3a34c80bba3f816e5c5d67ca758db1b63a4f18de94e11906015fc8cc9b3e", func := "loop.example/g00548/laws.FnExactSealBox", spec := "fnExactSealBox", inPlace := ["internal/reflectlite.TypeOf", "internal/abi.NoEscape", "internal/bytealg.MakeNoZero"], unfollowed := true, recurses := true, named := ["loop.example/g00548/impl.errBoxLong", "loop.example/g00548/impl.errBoxSize"], ifaces := true, apart := false, laid := [("loop.example/g00548/impl.errBoxLong", laid_loop_example_g00548_impl_errBoxLong), ("loop.example/g00548/impl.errBoxSize", laid_loop_example_g00548_impl_errBoxSize)], narrowed := true }
def FnExactSealBoxUptoSaid : Prop := fnExactSealBoxUptoRow.holds Tryd.pinned (OpenSpec.upto fnExactSealBoxSpec)

/-- 'laws.FnExactOpenBox', WHERE WHAT IT READS IS OF BULK AT MOST 1048576: true; the input reads as it did. -/
def fnExactOpenBoxUptoRow : OpenClaim := { program := "ytggobhpjfflooaadoor", sum := "ad8e3a34c80bba3f816e5c5d67ca758db1b63a4f18de94e11906015fc8cc9b3e", func := "loop.example/g00548/laws.FnExactOpenBox", spec := "fnExactOpenBox", inPlace := ["internal/abi.NoEscape", "internal/bytealg.MakeNoZero", "internal/reflectlite.TypeOf"], unfollowed := true, recurses := true, named := ["loop.example/g00548/impl.errBoxTag", "loop.example/g00548/impl.errBoxLong", "loop.example/g00548/impl.errBoxSize"], ifaces := true, apart := false, laid := [("loop.example/g00548/impl.errBoxLong", laid_loop_example_g00548_impl_errBoxLong), ("loop.example/g00548/impl.errBoxSize", laid_loop_example_g00548_impl_errBoxSize), ("loop.example/g00548/impl.errBoxTag", laid_loop_example_g00548_impl_errBoxTag)], narrowed := true }
def FnExactOpenBoxUptoSaid : Prop := fnExactOpenBoxUptoRow.holds Tryd.pinned (OpenSpec.upto fnExactOpenBoxSpec)

/-- 'laws.FnExactBoxTag', WHERE WHAT IT READS IS OF BULK AT MOST 1048576: true; the input reads as it did. -/
def fnExactBoxTagUptoRow : OpenClaim := { program := "ytggobhpjfflooaadoor", sum := "ad8e3a34c80bba3f816e5c5d67ca758db1b63a4f18de94e11906015fc8cc9b3e", func := "loop.example/g00548/laws.FnExactBoxTag", spec := "fnExactBoxTag", inPlace := ["internal/reflectlite.TypeOf", "internal/abi.NoEscape", "internal/bytealg.MakeNoZero"], unfollowed := true, recurses := true, named := ["loop.example/g00548/impl.errBoxLong", "loop.example/g00548/impl.errBoxSize"], ifaces := true, apart := false, laid := [("loop.example/g00548/impl.errBoxLong", laid_loop_example_g00548_impl_errBoxLong), ("loop.example/g00548/impl.errBoxSize", laid_loop_example_g00548_impl_errBoxSize)], narrowed := true }
def FnExactBoxTagUptoSaid : Prop := fnExactBoxTagUptoRow.holds Tryd.pinned (OpenSpec.upto fnExactBoxTagSpec)

/-- 'laws.FnExactNonceOf', WHERE WHAT IT READS IS OF BULK AT MOST 1048576: true; the input reads as it did. -/
def fnExactNonceOfUptoRow : OpenClaim := { program := "ytggobhpjfflooaadoor", sum := "ad8e3a34c80bba3f816e5c5d67ca758db1b63a4f18de94e11906015fc8cc9b3e", func := "loop.example/g00548/laws.FnExactNonceOf", spec := "fnExactNonceOf", inPlace := ["internal/reflectlite.ValueOf", "(internal/reflectlite.Value).Type", "(internal/reflectlite.Value).IsNil", "internal/reflectlite.TypeOf", "(internal/reflectlite.Value).Elem", "(internal/reflectlite.Value).Set"], unfollowed := true, recurses := true, named := ["errors.errorType", "loop.example/g00548/impl.errBoxLong", "loop.example/g00548/impl.errBoxSize"], ifaces := true, apart := false, laid := [("errors.errorType", laid_errors_errorType), ("loop.example/g00548/impl.errBoxLong", laid_loop_example_g00548_impl_errBoxLong), ("loop.example/g00548/impl.errBoxSize", laid_loop_example_g00548_impl_errBoxSize)], narrowed := true }
def FnExactNonceOfUptoSaid : Prop := fnExactNonceOfUptoRow.holds Tryd.pinned (OpenSpec.upto fnExactNonceOfSpec)

/-- 'laws.FnExactSealAt', WHERE WHAT IT READS IS OF BULK AT MOST 1048576: true; the input reads as it did. -/
def fnExactSealAtUptoRow : OpenClaim := { program := "ytggobhpjfflooaadoor", sum := "ad8e3a34c80bba3f816e5c5d67ca758db1b63a4f18de94e11906015fc8cc9b3e", func := "loop.example/g00548/laws.FnExactSealAt", spec := "fnExactSealAt", inPlace := ["internal/reflectlite.ValueOf", "(internal/reflectlite.Value).Type", "(internal/reflectlite.Value).IsNil", "internal/reflectlite.TypeOf", "(internal/reflectlite.Value).Elem", "(internal/reflectlite.Value).Set", "internal/abi.NoEscape", "internal/bytealg.MakeNoZero"], unfollowed := true, recurses := true, named := ["errors.errorType", "loop.example/g00548/impl.errBoxLong", "loop.example/g00548/impl.errBoxSize"], ifaces := true, apart := false, laid := [("errors.errorType", laid_errors_errorType), ("loop.example/g00548/impl.errBoxLong", laid_loop_example_g00548_impl_errBoxLong), ("loop.example/g00548/impl.errBoxSize", laid_loop_example_g00548_impl_errBoxSize)], narrowed := true }
def FnExactSealAtUptoSaid : Prop := fnExactSealAtUptoRow.holds Tryd.pinned (OpenSpec.upto fnExactSealAtSpec)

/-- 'laws.FnExactIntsText', WHERE WHAT IT READS IS OF BULK AT MOST 1048576: true; the input reads as it did. -/
def fnExactIntsTextUptoRow : OpenClaim := { program := "ytggobhpjfflooaadoor", sum := "ad8e3a34c80bba3f816e5c5d67ca758db1b63a4f18de94e11906015fc8cc9b3e", func := "loop.example/g00548/laws.FnExactIntsText", spec := "fnExactIntsText", inPlace := ["internal/reflectlite.ValueOf", "(internal/reflectlite.Value).Type", "(internal/reflectlite.Value).IsNil", "internal/reflectlite.TypeOf", "(internal/reflectlite.Value).Elem", "(internal/reflectlite.Value).Set"], unfollowed := true, recurses := true, named := ["errors.errorType", "loop.example/g00548/impl.errBoxLong", "loop.example/g00548/impl.errBoxSize"], ifaces := true, apart := false, laid := [("errors.errorType", laid_errors_errorType), ("loop.example/g00548/impl.errBoxLong", laid_loop_example_g00548_impl_errBoxLong), ("loop.example/g00548/impl.errBoxSize", laid_loop_example_g00548_impl_errBoxSize)], narrowed := true }
def FnExactIntsTextUptoSaid : Prop := fnExactIntsTextUptoRow.holds Tryd.pinned (OpenSpec.upto fnExactIntsTextSpec)

/-- 'laws.FnExactTextInts', WHERE WHAT IT READS IS OF BULK AT MOST 1048576: true; the input reads as it did. -/
def fnExactTextIntsUptoRow : OpenClaim := { program := "ytggobhpjfflooaadoor", sum := "ad8e3a34c80bba3f816e5c5d67ca758db1b63a4f18de94e11906015fc8cc9b3e", func := "loop.example/g00548/laws.FnExactTextInts", spec := "fnExactTextInts", inPlace := ["internal/reflectlite.ValueOf", "(internal/reflectlite.Value).Type", "(internal/reflectlite.Value).IsNil", "internal/reflectlite.TypeOf", "(internal/reflectlite.Value).Elem", "(internal/reflectlite.Value).Set"], unfollowed := true, recurses := true, named := ["errors.errorType", "loop.example/g00548/impl.errBoxLong", "loop.example/g00548/impl.errBoxSize"], ifaces := true, apart := false, laid := [("errors.errorType", laid_errors_errorType), ("loop.example/g00548/impl.errBoxLong", laid_loop_example_g00548_impl_errBoxLong), ("loop.example/g00548/impl.errBoxSize", laid_loop_example_g00548_impl_errBoxSize)], narrowed := true }
def FnExactTextIntsUptoSaid : Prop := fnExactTextIntsUptoRow.holds Tryd.pinned (OpenSpec.upto fnExactTextIntsSpec)

end Rows
end Go.Proofs.YtggobhpjfflooaaDoor
