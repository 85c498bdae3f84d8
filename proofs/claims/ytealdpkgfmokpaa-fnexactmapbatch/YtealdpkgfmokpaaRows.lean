/-
  No cell of these rows narrows 'for every input' (looked for: loops, veiled, ifaces, maps, wideKeys, modest, calm, conditions, laid).
  DERIVED. THE GIVEN ROWS OF THIS SEAT. 7 by the template 'for every input the law returns true; each argument reads behind the call as it read before'; 0 by the template 'total and deterministic' (their statements: YtealdpkgfmokpaaTotals.lean).
  GIVEN WITH THE SEED: the statements are not yours to turn. If you find one false, say at which input.
  Laid BY PROGRAM, IN A SANDBOX (cutbox-rows.mjs): the forced cells as the released guide's own fill.sh prints them over the translation 871d7ccad370b732… (all of the seat's roots in one cut). By AI agents, Wed Nov 11 2026. No macro, syntax, notation, axiom, sorry.
-/
import Derived.Test.YtealdpkgfmokpaaChecked
import GoSem.Claim
import GoSem.ClaimJoined
import GoSem.ClaimMapViews
import Derived.JoinedTies
import Derived.KernelRfl
namespace Go.Proofs.Ytealdpkgfmokpaa
/- THE CELL 'sum', in the pinned program and in every row, IS THE sha256 OF THE DUMP (.gsa) THAT YtealdpkgfmokpaaProg.lean LOADS. Nothing in Lean hashes anything: it is a label: what it is worth is what the hold of that sum in a sandbox is worth. -/
noncomputable def Try.pinned : Pinned := { name := "ytealdpkgfmokpaa", sum := "871d7ccad370b732bed5dda0a65c34a4ec17fa4c2a62b9c770191421f2f37007", checked := Try.checked }
namespace Rows
def none {H : Type} : Left H := { results := [], args := [] }

/-- 'laws.FnExactAccess': WHATEVER THE INPUT: true; the input reads as it did. -/
def fnExactAccessSpec : ChangeSpec := { name := "fnExactAccess", fn := fun _ => fun
  | [d1, d2, d3, d4, d5] => { results := [.lit (.bool true)], args := [d1, d2, d3, d4, d5] }
  | _ => none }
def fnExactAccessRow : OpenClaim := { program := "ytealdpkgfmokpaa", sum := "871d7ccad370b732bed5dda0a65c34a4ec17fa4c2a62b9c770191421f2f37007", func := "loop.example/g00548/laws.FnExactAccess", spec := "fnExactAccess", unfollowed := true, recurses := true, apart := false }
def FnExactAccessSaid : Prop := fnExactAccessRow.holds Try.pinned (OpenSpec.ofChange fnExactAccessSpec)

/-- ITS FALSE NEIGHBOUR: 'it returns false'. Refute it at one input. -/
def fnExactAccessWrong : ChangeSpec := { name := "fnExactAccess", fn := fun _ => fun
  | [d1, d2, d3, d4, d5] => { results := [.lit (.bool false)], args := [d1, d2, d3, d4, d5] }
  | _ => none }
def FnExactAccessWrongFalsely : Prop := fnExactAccessRow.holds Try.pinned (OpenSpec.ofChange fnExactAccessWrong)

/-- 'laws.FnExactWhereIs': WHATEVER THE INPUT: true; the input reads as it did. -/
def fnExactWhereIsSpec : ChangeSpec := { name := "fnExactWhereIs", fn := fun _ => fun
  | [d1, d2] => { results := [.lit (.bool true)], args := [d1, d2] }
  | _ => none }
def fnExactWhereIsRow : OpenClaim := { program := "ytealdpkgfmokpaa", sum := "871d7ccad370b732bed5dda0a65c34a4ec17fa4c2a62b9c770191421f2f37007", func := "loop.example/g00548/laws.FnExactWhereIs", spec := "fnExactWhereIs", unfollowed := true, recurses := true, apart := false }
def FnExactWhereIsSaid : Prop := fnExactWhereIsRow.holds Try.pinned (OpenSpec.ofChange fnExactWhereIsSpec)

/-- ITS FALSE NEIGHBOUR: 'it returns false'. Refute it at one input. -/
def fnExactWhereIsWrong : ChangeSpec := { name := "fnExactWhereIs", fn := fun _ => fun
  | [d1, d2] => { results := [.lit (.bool false)], args := [d1, d2] }
  | _ => none }
def FnExactWhereIsWrongFalsely : Prop := fnExactWhereIsRow.holds Try.pinned (OpenSpec.ofChange fnExactWhereIsWrong)

/-- 'laws.FnExactMapTxn': WHATEVER THE INPUT: true; the input reads as it did. -/
def fnExactMapTxnSpec : ChangeSpec := { name := "fnExactMapTxn", fn := fun _ => fun
  | [d1, d2] => { results := [.lit (.bool true)], args := [d1, d2] }
  | _ => none }
def fnExactMapTxnRow : OpenClaim := { program := "ytealdpkgfmokpaa", sum := "871d7ccad370b732bed5dda0a65c34a4ec17fa4c2a62b9c770191421f2f37007", func := "loop.example/g00548/laws.FnExactMapTxn", spec := "fnExactMapTxn", unfollowed := true, recurses := true, apart := false }
def FnExactMapTxnSaid : Prop := fnExactMapTxnRow.holds Try.pinned (OpenSpec.ofChange fnExactMapTxnSpec)

/-- ITS FALSE NEIGHBOUR: 'it returns false'. Refute it at one input. -/
def fnExactMapTxnWrong : ChangeSpec := { name := "fnExactMapTxn", fn := fun _ => fun
  | [d1, d2] => { results := [.lit (.bool false)], args := [d1, d2] }
  | _ => none }
def FnExactMapTxnWrongFalsely : Prop := fnExactMapTxnRow.holds Try.pinned (OpenSpec.ofChange fnExactMapTxnWrong)

/-- 'laws.FnExactMapBatch': WHATEVER THE INPUT: true; the input reads as it did. -/
def fnExactMapBatchSpec : ChangeSpec := { name := "fnExactMapBatch", fn := fun _ => fun
  | [d1, d2] => { results := [.lit (.bool true)], args := [d1, d2] }
  | _ => none }
def fnExactMapBatchRow : OpenClaim := { program := "ytealdpkgfmokpaa", sum := "871d7ccad370b732bed5dda0a65c34a4ec17fa4c2a62b9c770191421f2f37007", func := "loop.example/g00548/laws.FnExactMapBatch", spec := "fnExactMapBatch", unfollowed := true, recurses := true, apart := false }
def FnExactMapBatchSaid : Prop := fnExactMapBatchRow.holds Try.pinned (OpenSpec.ofChange fnExactMapBatchSpec)

/-- ITS FALSE NEIGHBOUR: 'it returns false'. Refute it at one input. -/
def fnExactMapBatchWrong : ChangeSpec := { name := "fnExactMapBatch", fn := fun _ => fun
  | [d1, d2] => { results := [.lit (.bool false)], args := [d1, d2] }
  | _ => none }
def FnExactMapBatchWrongFalsely : Prop := fnExactMapBatchRow.holds Try.pinned (OpenSpec.ofChange fnExactMapBatchWrong)

/-- 'laws.FnExactNewEnc': WHATEVER THE INPUT: true; the input reads as it did. -/
def fnExactNewEncSpec : ChangeSpec := { name := "fnExactNewEnc", fn := fun _ => fun
  | [d] => { results := [.lit (.bool true)], args := [d] }
  | _ => none }
def fnExactNewEncRow : OpenClaim := { program := "ytealdpkgfmokpaa", sum := "871d7ccad370b732bed5dda0a65c34a4ec17fa4c2a62b9c770191421f2f37007", func := "loop.example/g00548/laws.FnExactNewEnc", spec := "fnExactNewEnc", apart := false }
def FnExactNewEncSaid : Prop := fnExactNewEncRow.holds Try.pinned (OpenSpec.ofChange fnExactNewEncSpec)

/-- ITS FALSE NEIGHBOUR: 'it returns false'. Refute it at one input. -/
def fnExactNewEncWrong : ChangeSpec := { name := "fnExactNewEnc", fn := fun _ => fun
  | [d] => { results := [.lit (.bool false)], args := [d] }
  | _ => none }
def FnExactNewEncWrongFalsely : Prop := fnExactNewEncRow.holds Try.pinned (OpenSpec.ofChange fnExactNewEncWrong)

/-- 'laws.FnExactEncOK': WHATEVER THE INPUT: true; the input reads as it did. -/
def fnExactEncOKSpec : ChangeSpec := { name := "fnExactEncOK", fn := fun _ => fun
  | [d] => { results := [.lit (.bool true)], args := [d] }
  | _ => none }
def fnExactEncOKRow : OpenClaim := { program := "ytealdpkgfmokpaa", sum := "871d7ccad370b732bed5dda0a65c34a4ec17fa4c2a62b9c770191421f2f37007", func := "loop.example/g00548/laws.FnExactEncOK", spec := "fnExactEncOK", apart := false }
def FnExactEncOKSaid : Prop := fnExactEncOKRow.holds Try.pinned (OpenSpec.ofChange fnExactEncOKSpec)

/-- ITS FALSE NEIGHBOUR: 'it returns false'. Refute it at one input. -/
def fnExactEncOKWrong : ChangeSpec := { name := "fnExactEncOK", fn := fun _ => fun
  | [d] => { results := [.lit (.bool false)], args := [d] }
  | _ => none }
def FnExactEncOKWrongFalsely : Prop := fnExactEncOKRow.holds Try.pinned (OpenSpec.ofChange fnExactEncOKWrong)

/-- 'laws.FnExactMapOf': WHATEVER THE INPUT: true; the input reads as it did. -/
def fnExactMapOfSpec : ChangeSpec := { name := "fnExactMapOf", fn := fun _ => fun
  | [d] => { results := [.lit (.bool true)], args := [d] }
  | _ => none }
def fnExactMapOfRow : OpenClaim := { program := "ytealdpkgfmokpaa", sum := "871d7ccad370b732bed5dda0a65c34a4ec17fa4c2a62b9c770191421f2f37007", func := "loop.example/g00548/laws.FnExactMapOf", spec := "fnExactMapOf", unfollowed := true, recurses := true, apart := false }
def FnExactMapOfSaid : Prop := fnExactMapOfRow.holds Try.pinned (OpenSpec.ofChange fnExactMapOfSpec)

/-- ITS FALSE NEIGHBOUR: 'it returns false'. Refute it at one input. -/
def fnExactMapOfWrong : ChangeSpec := { name := "fnExactMapOf", fn := fun _ => fun
  | [d] => { results := [.lit (.bool false)], args := [d] }
  | _ => none }
def FnExactMapOfWrongFalsely : Prop := fnExactMapOfRow.holds Try.pinned (OpenSpec.ofChange fnExactMapOfWrong)

/- THE SECOND FORM. 'bulk': how many values and letters a reading holds, each counted each time it is reached (what is shared counts as often as it is met; a slice's spare places count too). A statement '..UptoSaid' is the law's where the arguments, and the package variables that the reading takes, are together of bulk at most 1048576: NARROWER than '..Said'. Prove '..Said' where nothing that the law and all that it calls make is longer than what came in: it says more and counts as full. Else prove '..UptoSaid'. A law counts once. -/
mutual
def uptoBulk {H : Type} : DataW H → Nat
  | .lit (.string bytes) => bytes.length + 1
  | .lit _ => 1
  | .nil => 1
  | .ptr d => uptoBulk d + 1
  | .slice elems spare => uptoBulkAll elems + uptoBulkAll spare + 1
  | .agg parts => uptoBulkAll parts + 1
  | .iface _ d => uptoBulk d + 1
  | .map entries => uptoBulkEntries entries + 1
  | .held _ => 1
def uptoBulkAll {H : Type} : List (DataW H) → Nat
  | [] => 0
  | d :: r => uptoBulk d + uptoBulkAll r
def uptoBulkEntries {H : Type} : List (Lit × DataW H) → Nat
  | [] => 0
  | x :: r => uptoBulkEntry x + uptoBulkEntries r
def uptoBulkEntry {H : Type} : Lit × DataW H → Nat
  | (.string bytes, d) => bytes.length + uptoBulk d + 1
  | (_, d) => uptoBulk d + 1
 end
def uptoSmall : (H : Type) → List (DataW H) → Bool := fun _ ds => decide (uptoBulkAll ds ≤ 1048576)
def OpenSpec.upto (s : _root_.Go.ChangeSpec) : _root_.Go.OpenSpec := { _root_.Go.OpenSpec.ofChange s with cond := some uptoSmall }

/-- 'laws.FnExactAccess', WHERE WHAT IT READS IS OF BULK AT MOST 1048576: true; the input reads as it did. -/
def fnExactAccessUptoRow : OpenClaim := { program := "ytealdpkgfmokpaa", sum := "871d7ccad370b732bed5dda0a65c34a4ec17fa4c2a62b9c770191421f2f37007", func := "loop.example/g00548/laws.FnExactAccess", spec := "fnExactAccess", unfollowed := true, recurses := true, apart := false, narrowed := true }
def FnExactAccessUptoSaid : Prop := fnExactAccessUptoRow.holds Try.pinned (OpenSpec.upto fnExactAccessSpec)

/-- 'laws.FnExactWhereIs', WHERE WHAT IT READS IS OF BULK AT MOST 1048576: true; the input reads as it did. -/
def fnExactWhereIsUptoRow : OpenClaim := { program := "ytealdpkgfmokpaa", sum := "871d7ccad370b732bed5dda0a65c34a4ec17fa4c2a62b9c770191421f2f37007", func := "loop.example/g00548/laws.FnExactWhereIs", spec := "fnExactWhereIs", unfollowed := true, recurses := true, apart := false, narrowed := true }
def FnExactWhereIsUptoSaid : Prop := fnExactWhereIsUptoRow.holds Try.pinned (OpenSpec.upto fnExactWhereIsSpec)

/-- 'laws.FnExactMapTxn', WHERE WHAT IT READS IS OF BULK AT MOST 1048576: true; the input reads as it did. -/
def fnExactMapTxnUptoRow : OpenClaim := { program := "ytealdpkgfmokpaa", sum := "871d7ccad370b732bed5dda0a65c34a4ec17fa4c2a62b9c770191421f2f37007", func := "loop.example/g00548/laws.FnExactMapTxn", spec := "fnExactMapTxn", unfollowed := true, recurses := true, apart := false, narrowed := true }
def FnExactMapTxnUptoSaid : Prop := fnExactMapTxnUptoRow.holds Try.pinned (OpenSpec.upto fnExactMapTxnSpec)

/-- 'laws.FnExactMapBatch', WHERE WHAT IT READS IS OF BULK AT MOST 1048576: true; the input reads as it did. -/
def fnExactMapBatchUptoRow : OpenClaim := { program := "ytealdpkgfmokpaa", sum := "871d7ccad370b732bed5dda0a65c34a4ec17fa4c2a62b9c770191421f2f37007", func := "loop.example/g00548/laws.FnExactMapBatch", spec := "fnExactMapBatch", unfollowed := true, recurses := true, apart := false, narrowed := true }
def FnExactMapBatchUptoSaid : Prop := fnExactMapBatchUptoRow.holds Try.pinned (OpenSpec.upto fnExactMapBatchSpec)

/-- 'laws.FnExactNewEnc', WHERE WHAT IT READS IS OF BULK AT MOST 1048576: true; the input reads as it did. -/
def fnExactNewEncUptoRow : OpenClaim := { program := "ytealdpkgfmokpaa", sum := "871d7ccad370b732bed5dda0a65c34a4ec17fa4c2a62b9c770191421f2f37007", func := "loop.example/g00548/laws.FnExactNewEnc", spec := "fnExactNewEnc", apart := false, narrowed := true }
def FnExactNewEncUptoSaid : Prop := fnExactNewEncUptoRow.holds Try.pinned (OpenSpec.upto fnExactNewEncSpec)

/-- 'laws.FnExactEncOK', WHERE WHAT IT READS IS OF BULK AT MOST 1048576: true; the input reads as it did. -/
def fnExactEncOKUptoRow : OpenClaim := { program := "ytealdpkgfmokpaa", sum := "871d7ccad370b732bed5dda0a65c34a4ec17fa4c2a62b9c770191421f2f37007", func := "loop.example/g00548/laws.FnExactEncOK", spec := "fnExactEncOK", apart := false, narrowed := true }
def FnExactEncOKUptoSaid : Prop := fnExactEncOKUptoRow.holds Try.pinned (OpenSpec.upto fnExactEncOKSpec)

/-- 'laws.FnExactMapOf', WHERE WHAT IT READS IS OF BULK AT MOST 1048576: true; the input reads as it did. -/
def fnExactMapOfUptoRow : OpenClaim := { program := "ytealdpkgfmokpaa", sum := "871d7ccad370b732bed5dda0a65c34a4ec17fa4c2a62b9c770191421f2f37007", func := "loop.example/g00548/laws.FnExactMapOf", spec := "fnExactMapOf", unfollowed := true, recurses := true, apart := false, narrowed := true }
def FnExactMapOfUptoSaid : Prop := fnExactMapOfUptoRow.holds Try.pinned (OpenSpec.upto fnExactMapOfSpec)

end Rows
end Go.Proofs.Ytealdpkgfmokpaa
