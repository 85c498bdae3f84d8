/-
  No cell of these rows narrows 'for every input' (looked for: loops, veiled, ifaces, maps, wideKeys, modest, calm, conditions, laid).
  DERIVED. THE GIVEN ROWS OF THIS SEAT. 8 by the template 'for every input the law returns true; each argument reads behind the call as it read before'; 0 by the template 'total and deterministic' (their statements: YtifkihjjkomfiaaTotals.lean).
  GIVEN WITH THE SEED: the statements are not yours to turn. If you find one false, say at which input.
  Laid BY PROGRAM, IN A SANDBOX (cutbox-rows.mjs): the forced cells as the released guide's own fill.sh prints them over the translation cb351794cb3145ce… (all of the seat's roots in one cut). By AI agents, Wed Nov 11 2026. No macro, syntax, notation, axiom, sorry.
-/
import Derived.Test.YtifkihjjkomfiaaChecked
import GoSem.Claim
import GoSem.ClaimJoined
import GoSem.ClaimMapViews
import Derived.JoinedTies
import Derived.KernelRfl
namespace Go.Proofs.Ytifkihjjkomfiaa
/- THE CELL 'sum', in the pinned program and in every row, IS THE sha256 OF THE DUMP (.gsa) THAT YtifkihjjkomfiaaProg.lean LOADS. Nothing in Lean hashes anything: it is a label: what it is worth is what the hold of that sum in a sandbox is worth. -/
noncomputable def Try.pinned : Pinned := { name := "ytifkihjjkomfiaa", sum := "cb351794cb3145ce24ab4e68ba383b542815fdb18a67a1ced47d3d5014ca6479", checked := Try.checked }
namespace Rows
def none {H : Type} : Left H := { results := [], args := [] }

/-- 'laws.FnMap': WHATEVER THE INPUT: true; the input reads as it did. -/
def fnMapSpec : ChangeSpec := { name := "fnMap", fn := fun _ => fun
  | [d1, d2] => { results := [.lit (.bool true)], args := [d1, d2] }
  | _ => none }
def fnMapRow : OpenClaim := { program := "ytifkihjjkomfiaa", sum := "cb351794cb3145ce24ab4e68ba383b542815fdb18a67a1ced47d3d5014ca6479", func := "loop.example/g00548/laws.FnMap", spec := "fnMap", unfollowed := true, recurses := true, apart := false }
def FnMapSaid : Prop := fnMapRow.holds Try.pinned (OpenSpec.ofChange fnMapSpec)

/-- ITS FALSE NEIGHBOUR: 'it returns false'. Refute it at one input. -/
def fnMapWrong : ChangeSpec := { name := "fnMap", fn := fun _ => fun
  | [d1, d2] => { results := [.lit (.bool false)], args := [d1, d2] }
  | _ => none }
def FnMapWrongFalsely : Prop := fnMapRow.holds Try.pinned (OpenSpec.ofChange fnMapWrong)

/-- 'laws.FnScan': WHATEVER THE INPUT: true; the input reads as it did. -/
def fnScanSpec : ChangeSpec := { name := "fnScan", fn := fun _ => fun
  | [d1, d2] => { results := [.lit (.bool true)], args := [d1, d2] }
  | _ => none }
def fnScanRow : OpenClaim := { program := "ytifkihjjkomfiaa", sum := "cb351794cb3145ce24ab4e68ba383b542815fdb18a67a1ced47d3d5014ca6479", func := "loop.example/g00548/laws.FnScan", spec := "fnScan", unfollowed := true, recurses := true, apart := false }
def FnScanSaid : Prop := fnScanRow.holds Try.pinned (OpenSpec.ofChange fnScanSpec)

/-- ITS FALSE NEIGHBOUR: 'it returns false'. Refute it at one input. -/
def fnScanWrong : ChangeSpec := { name := "fnScan", fn := fun _ => fun
  | [d1, d2] => { results := [.lit (.bool false)], args := [d1, d2] }
  | _ => none }
def FnScanWrongFalsely : Prop := fnScanRow.holds Try.pinned (OpenSpec.ofChange fnScanWrong)

/-- 'laws.FnExactAccess': WHATEVER THE INPUT: true; the input reads as it did. -/
def fnExactAccessSpec : ChangeSpec := { name := "fnExactAccess", fn := fun _ => fun
  | [d1, d2, d3, d4, d5] => { results := [.lit (.bool true)], args := [d1, d2, d3, d4, d5] }
  | _ => none }
def fnExactAccessRow : OpenClaim := { program := "ytifkihjjkomfiaa", sum := "cb351794cb3145ce24ab4e68ba383b542815fdb18a67a1ced47d3d5014ca6479", func := "loop.example/g00548/laws.FnExactAccess", spec := "fnExactAccess", unfollowed := true, recurses := true, apart := false }
def FnExactAccessSaid : Prop := fnExactAccessRow.holds Try.pinned (OpenSpec.ofChange fnExactAccessSpec)

/-- ITS FALSE NEIGHBOUR: 'it returns false'. Refute it at one input. -/
def fnExactAccessWrong : ChangeSpec := { name := "fnExactAccess", fn := fun _ => fun
  | [d1, d2, d3, d4, d5] => { results := [.lit (.bool false)], args := [d1, d2, d3, d4, d5] }
  | _ => none }
def FnExactAccessWrongFalsely : Prop := fnExactAccessRow.holds Try.pinned (OpenSpec.ofChange fnExactAccessWrong)

/-- 'laws.FnExactMapOK': WHATEVER THE INPUT: true; the input reads as it did. -/
def fnExactMapOKSpec : ChangeSpec := { name := "fnExactMapOK", fn := fun _ => fun
  | [d] => { results := [.lit (.bool true)], args := [d] }
  | _ => none }
def fnExactMapOKRow : OpenClaim := { program := "ytifkihjjkomfiaa", sum := "cb351794cb3145ce24ab4e68ba383b542815fdb18a67a1ced47d3d5014ca6479", func := "loop.example/g00548/laws.FnExactMapOK", spec := "fnExactMapOK", apart := false }
def FnExactMapOKSaid : Prop := fnExactMapOKRow.holds Try.pinned (OpenSpec.ofChange fnExactMapOKSpec)

/-- ITS FALSE NEIGHBOUR: 'it returns false'. Refute it at one input. -/
def fnExactMapOKWrong : ChangeSpec := { name := "fnExactMapOK", fn := fun _ => fun
  | [d] => { results := [.lit (.bool false)], args := [d] }
  | _ => none }
def FnExactMapOKWrongFalsely : Prop := fnExactMapOKRow.holds Try.pinned (OpenSpec.ofChange fnExactMapOKWrong)

/-- 'laws.FnExactMapGet': WHATEVER THE INPUT: true; the input reads as it did. -/
def fnExactMapGetSpec : ChangeSpec := { name := "fnExactMapGet", fn := fun _ => fun
  | [d1, d2] => { results := [.lit (.bool true)], args := [d1, d2] }
  | _ => none }
def fnExactMapGetRow : OpenClaim := { program := "ytifkihjjkomfiaa", sum := "cb351794cb3145ce24ab4e68ba383b542815fdb18a67a1ced47d3d5014ca6479", func := "loop.example/g00548/laws.FnExactMapGet", spec := "fnExactMapGet", apart := false }
def FnExactMapGetSaid : Prop := fnExactMapGetRow.holds Try.pinned (OpenSpec.ofChange fnExactMapGetSpec)

/-- ITS FALSE NEIGHBOUR: 'it returns false'. Refute it at one input. -/
def fnExactMapGetWrong : ChangeSpec := { name := "fnExactMapGet", fn := fun _ => fun
  | [d1, d2] => { results := [.lit (.bool false)], args := [d1, d2] }
  | _ => none }
def FnExactMapGetWrongFalsely : Prop := fnExactMapGetRow.holds Try.pinned (OpenSpec.ofChange fnExactMapGetWrong)

/-- 'laws.FnExactMapDo': WHATEVER THE INPUT: true; the input reads as it did. -/
def fnExactMapDoSpec : ChangeSpec := { name := "fnExactMapDo", fn := fun _ => fun
  | [d1, d2] => { results := [.lit (.bool true)], args := [d1, d2] }
  | _ => none }
def fnExactMapDoRow : OpenClaim := { program := "ytifkihjjkomfiaa", sum := "cb351794cb3145ce24ab4e68ba383b542815fdb18a67a1ced47d3d5014ca6479", func := "loop.example/g00548/laws.FnExactMapDo", spec := "fnExactMapDo", unfollowed := true, recurses := true, apart := false }
def FnExactMapDoSaid : Prop := fnExactMapDoRow.holds Try.pinned (OpenSpec.ofChange fnExactMapDoSpec)

/-- ITS FALSE NEIGHBOUR: 'it returns false'. Refute it at one input. -/
def fnExactMapDoWrong : ChangeSpec := { name := "fnExactMapDo", fn := fun _ => fun
  | [d1, d2] => { results := [.lit (.bool false)], args := [d1, d2] }
  | _ => none }
def FnExactMapDoWrongFalsely : Prop := fnExactMapDoRow.holds Try.pinned (OpenSpec.ofChange fnExactMapDoWrong)

/-- 'laws.FnExactMapTxn': WHATEVER THE INPUT: true; the input reads as it did. -/
def fnExactMapTxnSpec : ChangeSpec := { name := "fnExactMapTxn", fn := fun _ => fun
  | [d1, d2] => { results := [.lit (.bool true)], args := [d1, d2] }
  | _ => none }
def fnExactMapTxnRow : OpenClaim := { program := "ytifkihjjkomfiaa", sum := "cb351794cb3145ce24ab4e68ba383b542815fdb18a67a1ced47d3d5014ca6479", func := "loop.example/g00548/laws.FnExactMapTxn", spec := "fnExactMapTxn", unfollowed := true, recurses := true, apart := false }
def FnExactMapTxnSaid : Prop := fnExactMapTxnRow.holds Try.pinned (OpenSpec.ofChange fnExactMapTxnSpec)

/-- ITS FALSE NEIGHBOUR: 'it returns false'. Refute it at one input. -/
def fnExactMapTxnWrong : ChangeSpec := { name := "fnExactMapTxn", fn := fun _ => fun
  | [d1, d2] => { results := [.lit (.bool false)], args := [d1, d2] }
  | _ => none }
def FnExactMapTxnWrongFalsely : Prop := fnExactMapTxnRow.holds Try.pinned (OpenSpec.ofChange fnExactMapTxnWrong)

/-- 'laws.FnExactMapBatch': WHATEVER THE INPUT: true; the input reads as it did. -/
def fnExactMapBatchSpec : ChangeSpec := { name := "fnExactMapBatch", fn := fun _ => fun
  | [d1, d2] => { results := [.lit (.bool true)], args := [d1, d2] }
  | _ => none }
def fnExactMapBatchRow : OpenClaim := { program := "ytifkihjjkomfiaa", sum := "cb351794cb3145ce24ab4e68ba383b542815fdb18a67a1ced47d3d5014ca6479", func := "loop.example/g00548/laws.FnExactMapBatch", spec := "fnExactMapBatch", unfollowed := true, recurses := true, apart := false }
def FnExactMapBatchSaid : Prop := fnExactMapBatchRow.holds Try.pinned (OpenSpec.ofChange fnExactMapBatchSpec)

/-- ITS FALSE NEIGHBOUR: 'it returns false'. Refute it at one input. -/
def fnExactMapBatchWrong : ChangeSpec := { name := "fnExactMapBatch", fn := fun _ => fun
  | [d1, d2] => { results := [.lit (.bool false)], args := [d1, d2] }
  | _ => none }
def FnExactMapBatchWrongFalsely : Prop := fnExactMapBatchRow.holds Try.pinned (OpenSpec.ofChange fnExactMapBatchWrong)

/- THE SECOND FORM. 'bulk': how many values and letters a reading holds, each counted each time it is reached (what is shared counts as often as it is met; a slice's spare places count too). A statement '..UptoSaid' is the law's where the arguments, and the package variables that the reading takes, are together of bulk at most 1048576: NARROWER than '..Said'. Prove '..Said' where nothing that the law and all that it calls make is longer than what came in: it says more and counts as full. Else prove '..UptoSaid'. A law counts once. -/
mutual
def uptoBulk {H : Type} : DataW H → Nat
  | .lit (.string bytes) => bytes.length + 1
  | .lit _ => 1
  | .nil => 1
  | .ptr d => uptoBulk d + 1
  | .slice elems spare => uptoBulkAll elems + uptoBulkAll spare + 1
  | .agg parts => uptoBulkAll parts + 1
  | .iface _ d => uptoBulk d + 1
  | .map entries => uptoBulkEntries entries + 1
  | .held _ => 1
def uptoBulkAll {H : Type} : List (DataW H) → Nat
  | [] => 0
  | d :: r => uptoBulk d + uptoBulkAll r
def uptoBulkEntries {H : Type} : List (Lit × DataW H) → Nat
  | [] => 0
  | x :: r => uptoBulkEntry x + uptoBulkEntries r
def uptoBulkEntry {H : Type} : Lit × DataW H → Nat
  | (.string bytes, d) => bytes.length + uptoBulk d + 1
  | (_, d) => uptoBulk d + 1
 end
def uptoSmall : (H : Type) → List (DataW H) → Bool := fun _ ds => decide (uptoBulkAll ds ≤ 1048576)
def OpenSpec.upto (s : _root_.Go.ChangeSpec) : _root_.Go.OpenSpec := { _root_.Go.OpenSpec.ofChange s with cond := some uptoSmall }

/-- 'laws.FnMap', WHERE WHAT IT READS IS OF BULK AT MOST 1048576: true; the input reads as it did. -/
def fnMapUptoRow : OpenClaim := { program := "ytifkihjjkomfiaa", sum := "cb351794cb3145ce24ab4e68ba383b542815fdb18a67a1ced47d3d5014ca6479", func := "loop.example/g00548/laws.FnMap", spec := "fnMap", unfollowed := true, recurses := true, apart := false, narrowed := true }
def FnMapUptoSaid : Prop := fnMapUptoRow.holds Try.pinned (OpenSpec.upto fnMapSpec)

/-- 'laws.FnScan', WHERE WHAT IT READS IS OF BULK AT MOST 1048576: true; the input reads as it did. -/
def fnScanUptoRow : OpenClaim := { program := "ytifkihjjkomfiaa", sum := "cb351794cb3145ce24ab4e68ba383b542815fdb18a67a1ced47d3d5014ca6479", func := "loop.example/g00548/laws.FnScan", spec := "fnScan", unfollowed := true, recurses := true, apart := false, narrowed := true }
def FnScanUptoSaid : Prop := fnScanUptoRow.holds Try.pinned (OpenSpec.upto fnScanSpec)

/-- 'laws.FnExactAccess', WHERE WHAT IT READS IS OF BULK AT MOST 1048576: true; the input reads as it did. -/
def fnExactAccessUptoRow : OpenClaim := { program := "ytifkihjjkomfiaa", sum := "cb351794cb3145ce24ab4e68ba383b542815fdb18a67a1ced47d3d5014ca6479", func := "loop.example/g00548/laws.FnExactAccess", spec := "fnExactAccess", unfollowed := true, recurses := true, apart := false, narrowed := true }
def FnExactAccessUptoSaid : Prop := fnExactAccessUptoRow.holds Try.pinned (OpenSpec.upto fnExactAccessSpec)

/-- 'laws.FnExactMapOK', WHERE WHAT IT READS IS OF BULK AT MOST 1048576: true; the input reads as it did. -/
def fnExactMapOKUptoRow : OpenClaim := { program := "ytifkihjjkomfiaa", sum := "cb351794cb3145ce24ab4e68ba383b542815fdb18a67a1ced47d3d5014ca6479", func := "loop.example/g00548/laws.FnExactMapOK", spec := "fnExactMapOK", apart := false, narrowed := true }
def FnExactMapOKUptoSaid : Prop := fnExactMapOKUptoRow.holds Try.pinned (OpenSpec.upto fnExactMapOKSpec)

/-- 'laws.FnExactMapGet', WHERE WHAT IT READS IS OF BULK AT MOST 1048576: true; the input reads as it did. -/
def fnExactMapGetUptoRow : OpenClaim := { program := "ytifkihjjkomfiaa", sum := "cb351794cb3145ce24ab4e68ba383b542815fdb18a67a1ced47d3d5014ca6479", func := "loop.example/g00548/laws.FnExactMapGet", spec := "fnExactMapGet", apart := false, narrowed := true }
def FnExactMapGetUptoSaid : Prop := fnExactMapGetUptoRow.holds Try.pinned (OpenSpec.upto fnExactMapGetSpec)

/-- 'laws.FnExactMapDo', WHERE WHAT IT READS IS OF BULK AT MOST 1048576: true; the input reads as it did. -/
def fnExactMapDoUptoRow : OpenClaim := { program := "ytifkihjjkomfiaa", sum := "cb351794cb3145ce24ab4e68ba383b542815fdb18a67a1ced47d3d5014ca6479", func := "loop.example/g00548/laws.FnExactMapDo", spec := "fnExactMapDo", unfollowed := true, recurses := true, apart := false, narrowed := true }
def FnExactMapDoUptoSaid : Prop := fnExactMapDoUptoRow.holds Try.pinned (OpenSpec.upto fnExactMapDoSpec)

/-- 'laws.FnExactMapTxn', WHERE WHAT IT READS IS OF BULK AT MOST 1048576: true; the input reads as it did. -/
def fnExactMapTxnUptoRow : OpenClaim := { program := "ytifkihjjkomfiaa", sum := "cb351794cb3145ce24ab4e68ba383b542815fdb18a67a1ced47d3d5014ca6479", func := "loop.example/g00548/laws.FnExactMapTxn", spec := "fnExactMapTxn", unfollowed := true, recurses := true, apart := false, narrowed := true }
def FnExactMapTxnUptoSaid : Prop := fnExactMapTxnUptoRow.holds Try.pinned (OpenSpec.upto fnExactMapTxnSpec)

/-- 'laws.FnExactMapBatch', WHERE WHAT IT READS IS OF BULK AT MOST 1048576: true; the input reads as it did. -/
def fnExactMapBatchUptoRow : OpenClaim := { program := "ytifkihjjkomfiaa", sum := "cb351794cb3145ce24ab4e68ba383b542815fdb18a67a1ced47d3d5014ca6479", func := "loop.example/g00548/laws.FnExactMapBatch", spec := "fnExactMapBatch", unfollowed := true, recurses := true, apart := false, narrowed := true }
def FnExactMapBatchUptoSaid : Prop := fnExactMapBatchUptoRow.holds Try.pinned (OpenSpec.upto fnExactMapBatchSpec)

end Rows
end Go.Proofs.Ytifkihjjkomfiaa
