/-
  No cell of these rows narrows 'for every input' (looked for: loops, veiled, ifaces, maps, wideKeys, modest, calm, conditions, laid).
  DERIVED. THE GIVEN ROWS OF THIS SEAT. 5 by the template 'for every input the law returns true; each argument reads behind the call as it read before'; 0 by the template 'total and deterministic' (their statements: YtidbkamadclchaaTotals.lean).
  GIVEN WITH THE SEED: the statements are not yours to turn. If you find one false, say at which input.
  Laid BY PROGRAM, IN A SANDBOX (cutbox-rows.mjs): the forced cells as the released guide's own fill.sh prints them over the translation 2aff8869dba27ac2… (all of the seat's roots in one cut). By AI agents, Wed Nov 11 2026. No macro, syntax, notation, axiom, sorry.
-/
import Derived.Test.YtidbkamadclchaaChecked
import GoSem.Claim
import GoSem.ClaimJoined
import GoSem.ClaimMapViews
import Derived.JoinedTies
import Derived.KernelRfl
namespace Go.Proofs.Ytidbkamadclchaa
/- THE CELL 'sum', in the pinned program and in every row, IS THE sha256 OF THE DUMP (.gsa) THAT YtidbkamadclchaaProg.lean LOADS. Nothing in Lean hashes anything: it is a label: what it is worth is what the hold of that sum in a sandbox is worth. -/
noncomputable def Try.pinned : Pinned := { name := "ytidbkamadclchaa", sum := "2aff8869dba27ac2e2ef9ba38887f010f6f698b8685d0eafcf85867d0d013df9", checked := Try.checked }
namespace Rows
def none {H : Type} : Left H := { results := [], args := [] }

/-- 'laws.FnAccess': WHATEVER THE INPUT: true; the input reads as it did. -/
def fnAccessSpec : ChangeSpec := { name := "fnAccess", fn := fun _ => fun
  | [d1, d2] => { results := [.lit (.bool true)], args := [d1, d2] }
  | _ => none }
def fnAccessRow : OpenClaim := { program := "ytidbkamadclchaa", sum := "2aff8869dba27ac2e2ef9ba38887f010f6f698b8685d0eafcf85867d0d013df9", func := "loop.example/g00548/laws.FnAccess", spec := "fnAccess", unfollowed := true, recurses := true, apart := false }
def FnAccessSaid : Prop := fnAccessRow.holds Try.pinned (OpenSpec.ofChange fnAccessSpec)

/-- ITS FALSE NEIGHBOUR: 'it returns false'. Refute it at one input. -/
def fnAccessWrong : ChangeSpec := { name := "fnAccess", fn := fun _ => fun
  | [d1, d2] => { results := [.lit (.bool false)], args := [d1, d2] }
  | _ => none }
def FnAccessWrongFalsely : Prop := fnAccessRow.holds Try.pinned (OpenSpec.ofChange fnAccessWrong)

/-- 'laws.FnExactAccess': WHATEVER THE INPUT: true; the input reads as it did. -/
def fnExactAccessSpec : ChangeSpec := { name := "fnExactAccess", fn := fun _ => fun
  | [d1, d2, d3, d4, d5] => { results := [.lit (.bool true)], args := [d1, d2, d3, d4, d5] }
  | _ => none }
def fnExactAccessRow : OpenClaim := { program := "ytidbkamadclchaa", sum := "2aff8869dba27ac2e2ef9ba38887f010f6f698b8685d0eafcf85867d0d013df9", func := "loop.example/g00548/laws.FnExactAccess", spec := "fnExactAccess", unfollowed := true, recurses := true, apart := false }
def FnExactAccessSaid : Prop := fnExactAccessRow.holds Try.pinned (OpenSpec.ofChange fnExactAccessSpec)

/-- ITS FALSE NEIGHBOUR: 'it returns false'. Refute it at one input. -/
def fnExactAccessWrong : ChangeSpec := { name := "fnExactAccess", fn := fun _ => fun
  | [d1, d2, d3, d4, d5] => { results := [.lit (.bool false)], args := [d1, d2, d3, d4, d5] }
  | _ => none }
def FnExactAccessWrongFalsely : Prop := fnExactAccessRow.holds Try.pinned (OpenSpec.ofChange fnExactAccessWrong)

/-- 'laws.FnExactOpOK': WHATEVER THE INPUT: true; the input reads as it did. -/
def fnExactOpOKSpec : ChangeSpec := { name := "fnExactOpOK", fn := fun _ => fun
  | [d] => { results := [.lit (.bool true)], args := [d] }
  | _ => none }
def fnExactOpOKRow : OpenClaim := { program := "ytidbkamadclchaa", sum := "2aff8869dba27ac2e2ef9ba38887f010f6f698b8685d0eafcf85867d0d013df9", func := "loop.example/g00548/laws.FnExactOpOK", spec := "fnExactOpOK", apart := false }
def FnExactOpOKSaid : Prop := fnExactOpOKRow.holds Try.pinned (OpenSpec.ofChange fnExactOpOKSpec)

/-- ITS FALSE NEIGHBOUR: 'it returns false'. Refute it at one input. -/
def fnExactOpOKWrong : ChangeSpec := { name := "fnExactOpOK", fn := fun _ => fun
  | [d] => { results := [.lit (.bool false)], args := [d] }
  | _ => none }
def FnExactOpOKWrongFalsely : Prop := fnExactOpOKRow.holds Try.pinned (OpenSpec.ofChange fnExactOpOKWrong)

/-- 'laws.FnExactBatchOK': WHATEVER THE INPUT: true; the input reads as it did. -/
def fnExactBatchOKSpec : ChangeSpec := { name := "fnExactBatchOK", fn := fun _ => fun
  | [d] => { results := [.lit (.bool true)], args := [d] }
  | _ => none }
def fnExactBatchOKRow : OpenClaim := { program := "ytidbkamadclchaa", sum := "2aff8869dba27ac2e2ef9ba38887f010f6f698b8685d0eafcf85867d0d013df9", func := "loop.example/g00548/laws.FnExactBatchOK", spec := "fnExactBatchOK", unfollowed := true, recurses := true, apart := false }
def FnExactBatchOKSaid : Prop := fnExactBatchOKRow.holds Try.pinned (OpenSpec.ofChange fnExactBatchOKSpec)

/-- ITS FALSE NEIGHBOUR: 'it returns false'. Refute it at one input. -/
def fnExactBatchOKWrong : ChangeSpec := { name := "fnExactBatchOK", fn := fun _ => fun
  | [d] => { results := [.lit (.bool false)], args := [d] }
  | _ => none }
def FnExactBatchOKWrongFalsely : Prop := fnExactBatchOKRow.holds Try.pinned (OpenSpec.ofChange fnExactBatchOKWrong)

/-- 'laws.FnExactSameBatch': WHATEVER THE INPUT: true; the input reads as it did. -/
def fnExactSameBatchSpec : ChangeSpec := { name := "fnExactSameBatch", fn := fun _ => fun
  | [d1, d2] => { results := [.lit (.bool true)], args := [d1, d2] }
  | _ => none }
def fnExactSameBatchRow : OpenClaim := { program := "ytidbkamadclchaa", sum := "2aff8869dba27ac2e2ef9ba38887f010f6f698b8685d0eafcf85867d0d013df9", func := "loop.example/g00548/laws.FnExactSameBatch", spec := "fnExactSameBatch", unfollowed := true, recurses := true, apart := false }
def FnExactSameBatchSaid : Prop := fnExactSameBatchRow.holds Try.pinned (OpenSpec.ofChange fnExactSameBatchSpec)

/-- ITS FALSE NEIGHBOUR: 'it returns false'. Refute it at one input. -/
def fnExactSameBatchWrong : ChangeSpec := { name := "fnExactSameBatch", fn := fun _ => fun
  | [d1, d2] => { results := [.lit (.bool false)], args := [d1, d2] }
  | _ => none }
def FnExactSameBatchWrongFalsely : Prop := fnExactSameBatchRow.holds Try.pinned (OpenSpec.ofChange fnExactSameBatchWrong)

/- THE SECOND FORM. 'bulk': how many values and letters a reading holds, each counted each time it is reached (what is shared counts as often as it is met; a slice's spare places count too). A statement '..UptoSaid' is the law's where the arguments, and the package variables that the reading takes, are together of bulk at most 1048576: NARROWER than '..Said'. Prove '..Said' where nothing that the law and all that it calls make is longer than what came in: it says more and counts as full. Else prove '..UptoSaid'. A law counts once. -/
mutual
def uptoBulk {H : Type} : DataW H → Nat
  | .lit (.string bytes) => bytes.length + 1
  | .lit _ => 1
  | .nil => 1
  | .ptr d => uptoBulk d + 1
  | .slice elems spare => uptoBulkAll elems + uptoBulkAll spare + 1
  | .agg parts => uptoBulkAll parts + 1
  | .iface _ d => uptoBulk d + 1
  | .map entries => uptoBulkEntries entries + 1
  | .held _ => 1
def uptoBulkAll {H : Type} : List (DataW H) → Nat
  | [] => 0
  | d :: r => uptoBulk d + uptoBulkAll r
def uptoBulkEntries {H : Type} : List (Lit × DataW H) → Nat
  | [] => 0
  | x :: r => uptoBulkEntry x + uptoBulkEntries r
def uptoBulkEntry {H : Type} : Lit × DataW H → Nat
  | (.string bytes, d) => bytes.length + uptoBulk d + 1
  | (_, d) => uptoBulk d + 1
 end
def uptoSmall : (H : Type) → List (DataW H) → Bool := fun _ ds => decide (uptoBulkAll ds ≤ 1048576)
def OpenSpec.upto (s : _root_.Go.ChangeSpec) : _root_.Go.OpenSpec := { _root_.Go.OpenSpec.ofChange s with cond := some uptoSmall }

/-- 'laws.FnAccess', WHERE WHAT IT READS IS OF BULK AT MOST 1048576: true; the input reads as it did. -/
def fnAccessUptoRow : OpenClaim := { program := "ytidbkamadclchaa", sum := "2aff8869dba27ac2e2ef9ba38887f010f6f698b8685d0eafcf85867d0d013df9", func := "loop.example/g00548/laws.FnAccess", spec := "fnAccess", unfollowed := true, recurses := true, apart := false, narrowed := true }
def FnAccessUptoSaid : Prop := fnAccessUptoRow.holds Try.pinned (OpenSpec.upto fnAccessSpec)

/-- 'laws.FnExactAccess', WHERE WHAT IT READS IS OF BULK AT MOST 1048576: true; the input reads as it did. -/
def fnExactAccessUptoRow : OpenClaim := { program := "ytidbkamadclchaa", sum := "2aff8869dba27ac2e2ef9ba38887f010f6f698b8685d0eafcf85867d0d013df9", func := "loop.example/g00548/laws.FnExactAccess", spec := "fnExactAccess", unfollowed := true, recurses := true, apart := false, narrowed := true }
def FnExactAccessUptoSaid : Prop := fnExactAccessUptoRow.holds Try.pinned (OpenSpec.upto fnExactAccessSpec)

/-- 'laws.FnExactOpOK', WHERE WHAT IT READS IS OF BULK AT MOST 1048576: true; the input reads as it did. -/
def fnExactOpOKUptoRow : OpenClaim := { program := "ytidbkamadclchaa", sum := "2aff8869dba27ac2e2ef9ba38887f010f6f698b8685d0eafcf85867d0d013df9", func := "loop.example/g00548/laws.FnExactOpOK", spec := "fnExactOpOK", apart := false, narrowed := true }
def FnExactOpOKUptoSaid : Prop := fnExactOpOKUptoRow.holds Try.pinned (OpenSpec.upto fnExactOpOKSpec)

/-- 'laws.FnExactBatchOK', WHERE WHAT IT READS IS OF BULK AT MOST 1048576: true; the input reads as it did. -/
def fnExactBatchOKUptoRow : OpenClaim := { program := "ytidbkamadclchaa", sum := "2aff8869dba27ac2e2ef9ba38887f010f6f698b8685d0eafcf85867d0d013df9", func := "loop.example/g00548/laws.FnExactBatchOK", spec := "fnExactBatchOK", unfollowed := true, recurses := true, apart := false, narrowed := true }
def FnExactBatchOKUptoSaid : Prop := fnExactBatchOKUptoRow.holds Try.pinned (OpenSpec.upto fnExactBatchOKSpec)

/-- 'laws.FnExactSameBatch', WHERE WHAT IT READS IS OF BULK AT MOST 1048576: true; the input reads as it did. -/
def fnExactSameBatchUptoRow : OpenClaim := { program := "ytidbkamadclchaa", sum := "2aff8869dba27ac2e2ef9ba38887f010f6f698b8685d0eafcf85867d0d013df9", func := "loop.example/g00548/laws.FnExactSameBatch", spec := "fnExactSameBatch", unfollowed := true, recurses := true, apart := false, narrowed := true }
def FnExactSameBatchUptoSaid : Prop := fnExactSameBatchUptoRow.holds Try.pinned (OpenSpec.upto fnExactSameBatchSpec)

end Rows
end Go.Proofs.Ytidbkamadclchaa
