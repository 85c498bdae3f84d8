/-
  No cell of these rows narrows 'for every input' (looked for: loops, veiled, ifaces, maps, wideKeys, modest, calm, conditions, laid).
  DERIVED. THE GIVEN ROWS OF THIS SEAT. 5 by the template 'for every input the law returns true; each argument reads behind the call as it read before'; 0 by the template 'total and deterministic' (their statements: YtehdiabkpaoekaaTotals.lean).
  GIVEN WITH THE SEED: the statements are not yours to turn. If you find one false, say at which input.
  Laid BY PROGRAM, IN A SANDBOX (cutbox-rows.mjs): the forced cells as the released guide's own fill.sh prints them over the translation 456eb9f397346f91… (all of the seat's roots in one cut). By AI agents, Wed Nov 11 2026. No macro, syntax, notation, axiom, sorry.
-/
import Derived.Test.YtehdiabkpaoekaaChecked
import GoSem.Claim
import GoSem.ClaimJoined
import GoSem.ClaimMapViews
import Derived.JoinedTies
import Derived.KernelRfl
namespace Go.Proofs.Ytehdiabkpaoekaa
/- THE CELL 'sum', in the pinned program and in every row, IS THE sha256 OF THE DUMP (.gsa) THAT YtehdiabkpaoekaaProg.lean LOADS. Nothing in Lean hashes anything: it is a label: what it is worth is what the hold of that sum in a sandbox is worth. -/
noncomputable def Try.pinned : Pinned := { name := "ytehdiabkpaoekaa", sum := "456eb9f397346f91ebea4549bc7d7854f45128898f0f93047c698e13cc68d3d8", checked := Try.checked }
namespace Rows
def none {H : Type} : Left H := { results := [], args := [] }

/-- 'laws.FnStream': WHATEVER THE INPUT: true; the input reads as it did. -/
def fnStreamSpec : ChangeSpec := { name := "fnStream", fn := fun _ => fun
  | [d1, d2] => { results := [.lit (.bool true)], args := [d1, d2] }
  | _ => none }
def fnStreamRow : OpenClaim := { program := "ytehdiabkpaoekaa", sum := "456eb9f397346f91ebea4549bc7d7854f45128898f0f93047c698e13cc68d3d8", func := "loop.example/g00548/laws.FnStream", spec := "fnStream", apart := false }
def FnStreamSaid : Prop := fnStreamRow.holds Try.pinned (OpenSpec.ofChange fnStreamSpec)

/-- ITS FALSE NEIGHBOUR: 'it returns false'. Refute it at one input. -/
def fnStreamWrong : ChangeSpec := { name := "fnStream", fn := fun _ => fun
  | [d1, d2] => { results := [.lit (.bool false)], args := [d1, d2] }
  | _ => none }
def FnStreamWrongFalsely : Prop := fnStreamRow.holds Try.pinned (OpenSpec.ofChange fnStreamWrong)

/-- 'laws.FnExactQuarterRound': WHATEVER THE INPUT: true; the input reads as it did. -/
def fnExactQuarterRoundSpec : ChangeSpec := { name := "fnExactQuarterRound", fn := fun _ => fun
  | [d] => { results := [.lit (.bool true)], args := [d] }
  | _ => none }
def fnExactQuarterRoundRow : OpenClaim := { program := "ytehdiabkpaoekaa", sum := "456eb9f397346f91ebea4549bc7d7854f45128898f0f93047c698e13cc68d3d8", func := "loop.example/g00548/laws.FnExactQuarterRound", spec := "fnExactQuarterRound", apart := false }
def FnExactQuarterRoundSaid : Prop := fnExactQuarterRoundRow.holds Try.pinned (OpenSpec.ofChange fnExactQuarterRoundSpec)

/-- ITS FALSE NEIGHBOUR: 'it returns false'. Refute it at one input. -/
def fnExactQuarterRoundWrong : ChangeSpec := { name := "fnExactQuarterRound", fn := fun _ => fun
  | [d] => { results := [.lit (.bool false)], args := [d] }
  | _ => none }
def FnExactQuarterRoundWrongFalsely : Prop := fnExactQuarterRoundRow.holds Try.pinned (OpenSpec.ofChange fnExactQuarterRoundWrong)

/-- 'laws.FnExactChaBlock': WHATEVER THE INPUT: true; the input reads as it did. -/
def fnExactChaBlockSpec : ChangeSpec := { name := "fnExactChaBlock", fn := fun _ => fun
  | [d1, d2, d3] => { results := [.lit (.bool true)], args := [d1, d2, d3] }
  | _ => none }
def fnExactChaBlockRow : OpenClaim := { program := "ytehdiabkpaoekaa", sum := "456eb9f397346f91ebea4549bc7d7854f45128898f0f93047c698e13cc68d3d8", func := "loop.example/g00548/laws.FnExactChaBlock", spec := "fnExactChaBlock", apart := false }
def FnExactChaBlockSaid : Prop := fnExactChaBlockRow.holds Try.pinned (OpenSpec.ofChange fnExactChaBlockSpec)

/-- ITS FALSE NEIGHBOUR: 'it returns false'. Refute it at one input. -/
def fnExactChaBlockWrong : ChangeSpec := { name := "fnExactChaBlock", fn := fun _ => fun
  | [d1, d2, d3] => { results := [.lit (.bool false)], args := [d1, d2, d3] }
  | _ => none }
def FnExactChaBlockWrongFalsely : Prop := fnExactChaBlockRow.holds Try.pinned (OpenSpec.ofChange fnExactChaBlockWrong)

/-- 'laws.FnExactChaXor': WHATEVER THE INPUT: true; the input reads as it did. -/
def fnExactChaXorSpec : ChangeSpec := { name := "fnExactChaXor", fn := fun _ => fun
  | [d1, d2, d3, d4] => { results := [.lit (.bool true)], args := [d1, d2, d3, d4] }
  | _ => none }
def fnExactChaXorRow : OpenClaim := { program := "ytehdiabkpaoekaa", sum := "456eb9f397346f91ebea4549bc7d7854f45128898f0f93047c698e13cc68d3d8", func := "loop.example/g00548/laws.FnExactChaXor", spec := "fnExactChaXor", apart := false }
def FnExactChaXorSaid : Prop := fnExactChaXorRow.holds Try.pinned (OpenSpec.ofChange fnExactChaXorSpec)

/-- ITS FALSE NEIGHBOUR: 'it returns false'. Refute it at one input. -/
def fnExactChaXorWrong : ChangeSpec := { name := "fnExactChaXor", fn := fun _ => fun
  | [d1, d2, d3, d4] => { results := [.lit (.bool false)], args := [d1, d2, d3, d4] }
  | _ => none }
def FnExactChaXorWrongFalsely : Prop := fnExactChaXorRow.holds Try.pinned (OpenSpec.ofChange fnExactChaXorWrong)

/-- 'laws.FnExactXorOf': WHATEVER THE INPUT: true; the input reads as it did. -/
def fnExactXorOfSpec : ChangeSpec := { name := "fnExactXorOf", fn := fun _ => fun
  | [d1, d2] => { results := [.lit (.bool true)], args := [d1, d2] }
  | _ => none }
def fnExactXorOfRow : OpenClaim := { program := "ytehdiabkpaoekaa", sum := "456eb9f397346f91ebea4549bc7d7854f45128898f0f93047c698e13cc68d3d8", func := "loop.example/g00548/laws.FnExactXorOf", spec := "fnExactXorOf", apart := false }
def FnExactXorOfSaid : Prop := fnExactXorOfRow.holds Try.pinned (OpenSpec.ofChange fnExactXorOfSpec)

/-- ITS FALSE NEIGHBOUR: 'it returns false'. Refute it at one input. -/
def fnExactXorOfWrong : ChangeSpec := { name := "fnExactXorOf", fn := fun _ => fun
  | [d1, d2] => { results := [.lit (.bool false)], args := [d1, d2] }
  | _ => none }
def FnExactXorOfWrongFalsely : Prop := fnExactXorOfRow.holds Try.pinned (OpenSpec.ofChange fnExactXorOfWrong)

/- THE SECOND FORM. 'bulk': how many values and letters a reading holds, each counted each time it is reached (what is shared counts as often as it is met; a slice's spare places count too). A statement '..UptoSaid' is the law's where the arguments, and the package variables that the reading takes, are together of bulk at most 1048576: NARROWER than '..Said'. Prove '..Said' where nothing that the law and all that it calls make is longer than what came in: it says more and counts as full. Else prove '..UptoSaid'. A law counts once. -/
mutual
def uptoBulk {H : Type} : DataW H → Nat
  | .lit (.string bytes) => bytes.length + 1
  | .lit _ => 1
  | .nil => 1
  | .ptr d => uptoBulk d + 1
  | .slice elems spare => uptoBulkAll elems + uptoBulkAll spare + 1
  | .agg parts => uptoBulkAll parts + 1
  | .iface _ d => uptoBulk d + 1
  | .map entries => uptoBulkEntries entries + 1
  | .held _ => 1
def uptoBulkAll {H : Type} : List (DataW H) → Nat
  | [] => 0
  | d :: r => uptoBulk d + uptoBulkAll r
def uptoBulkEntries {H : Type} : List (Lit × DataW H) → Nat
  | [] => 0
  | x :: r => uptoBulkEntry x + uptoBulkEntries r
def uptoBulkEntry {H : Type} : Lit × DataW H → Nat
  | (.string bytes, d) => bytes.length + uptoBulk d + 1
  | (_, d) => uptoBulk d + 1
 end
def uptoSmall : (H : Type) → List (DataW H) → Bool := fun _ ds => decide (uptoBulkAll ds ≤ 1048576)
def OpenSpec.upto (s : _root_.Go.ChangeSpec) : _root_.Go.OpenSpec := { _root_.Go.OpenSpec.ofChange s with cond := some uptoSmall }

/-- 'laws.FnStream', WHERE WHAT IT READS IS OF BULK AT MOST 1048576: true; the input reads as it did. -/
def fnStreamUptoRow : OpenClaim := { program := "ytehdiabkpaoekaa", sum := "456eb9f397346f91ebea4549bc7d7854f45128898f0f93047c698e13cc68d3d8", func := "loop.example/g00548/laws.FnStream", spec := "fnStream", apart := false, narrowed := true }
def FnStreamUptoSaid : Prop := fnStreamUptoRow.holds Try.pinned (OpenSpec.upto fnStreamSpec)

/-- 'laws.FnExactQuarterRound', WHERE WHAT IT READS IS OF BULK AT MOST 1048576: true; the input reads as it did. -/
def fnExactQuarterRoundUptoRow : OpenClaim := { program := "ytehdiabkpaoekaa", sum := "456eb9f397346f91ebea4549bc7d7854f45128898f0f93047c698e13cc68d3d8", func := "loop.example/g00548/laws.FnExactQuarterRound", spec := "fnExactQuarterRound", apart := false, narrowed := true }
def FnExactQuarterRoundUptoSaid : Prop := fnExactQuarterRoundUptoRow.holds Try.pinned (OpenSpec.upto fnExactQuarterRoundSpec)

/-- 'laws.FnExactChaBlock', WHERE WHAT IT READS IS OF BULK AT MOST 1048576: true; the input reads as it did. -/
def fnExactChaBlockUptoRow : OpenClaim := { program := "ytehdiabkpaoekaa", sum := "456eb9f397346f91ebea4549bc7d7854f45128898f0f93047c698e13cc68d3d8", func := "loop.example/g00548/laws.FnExactChaBlock", spec := "fnExactChaBlock", apart := false, narrowed := true }
def FnExactChaBlockUptoSaid : Prop := fnExactChaBlockUptoRow.holds Try.pinned (OpenSpec.upto fnExactChaBlockSpec)

/-- 'laws.FnExactChaXor', WHERE WHAT IT READS IS OF BULK AT MOST 1048576: true; the input reads as it did. -/
def fnExactChaXorUptoRow : OpenClaim := { program := "ytehdiabkpaoekaa", sum := "456eb9f397346f91ebea4549bc7d7854f45128898f0f93047c698e13cc68d3d8", func := "loop.example/g00548/laws.FnExactChaXor", spec := "fnExactChaXor", apart := false, narrowed := true }
def FnExactChaXorUptoSaid : Prop := fnExactChaXorUptoRow.holds Try.pinned (OpenSpec.upto fnExactChaXorSpec)

/-- 'laws.FnExactXorOf', WHERE WHAT IT READS IS OF BULK AT MOST 1048576: true; the input reads as it did. -/
def fnExactXorOfUptoRow : OpenClaim := { program := "ytehdiabkpaoekaa", sum := "456eb9f397346f91ebea4549bc7d7854f45128898f0f93047c698e13cc68d3d8", func := "loop.example/g00548/laws.FnExactXorOf", spec := "fnExactXorOf", apart := false, narrowed := true }
def FnExactXorOfUptoSaid : Prop := fnExactXorOfUptoRow.holds Try.pinned (OpenSpec.upto fnExactXorOfSpec)

end Rows
end Go.Proofs.Ytehdiabkpaoekaa
