/-
  NARROWER THAN 'FOR EVERY INPUT', by the rows' own cells (each row's printed sentence says how): FnHash: laid · FnProof: laid · FnExactHashSum: laid · FnExactHashOf: laid · FnExactLeafDigest: laid · FnExactJoinDigests: laid · FnExactRootOf: laid · FnExactProofOf: laid · FnExactCheckProof: laid · FnExactChainTip: laid.
  DERIVED. THE GIVEN ROWS OF THIS SEAT. 10 by the template 'for every input the law returns true; each argument reads behind the call as it read before'; 0 by the template 'total and deterministic' (their statements: YtemlmffoehclhaaDoorTotals.lean).
  GIVEN WITH THE SEED: the statements are not yours to turn. If you find one false, say at which input.
  Laid BY PROGRAM, IN A SANDBOX (cutbox-rows.mjs): the forced cells as the released guide's own fill.sh prints them over the translation d422ba709821c0be… (all of the seat's roots in one cut). By AI agents, Wed Nov 11 2026. No macro, syntax, notation, axiom, sorry.
-/
import Derived.Test.YtemlmffoehclhaaDoorChecked
import GoSem.Claim
import GoSem.ClaimJoined
import GoSem.ClaimMapViews
import Derived.JoinedTies
import Derived.KernelRfl
namespace Go.Proofs.YtemlmffoehclhaaDoor
/- THE CELL 'sum', in the pinned program and in every row, IS THE sha256 OF THE DUMP (.gsa) THAT YtemlmffoehclhaaDoorProg.lean LOADS. Nothing in Lean hashes anything: it is a label: what it is worth is what the hold of that sum in a sandbox is worth. -/
noncomputable def Tryd.pinned : Pinned := { name := "ytemlmffoehclhaadoor", sum := "d422ba709821c0be58594cb03e2615af2b8b6e1f71637e45e4a72e940ea38b82", checked := Tryd.checked }
namespace Rows
def none {H : Type} : Left H := { results := [], args := [] }

/- WHAT THE LISTED PACKAGE-LEVEL VARIABLES READ AS WHEN THE CALL BEGINS. Each datum BY PROGRAM (the guide's laid-datum.mjs) off the statement by which the dump's own 'gosem.cut.vars' lays the variable. In a bare row this is a premise. The card (YtemlmffoehclhaaDoorCards.lean) ties it to the program's text. -/
def laid_loop_example_g00548_impl_roundWords {H : Type} : DataW H := .agg [.lit (.int .u32 1116352408), .lit (.int .u32 1899447441), .lit (.int .u32 3049323471), .lit (.int .u32 3921009573), .lit (.int .u32 961987163), .lit (.int .u32 1508970993), .lit (.int .u32 2453635748), .lit (.int .u32 2870763221), .lit (.int .u32 3624381080), .lit (.int .u32 310598401), .lit (.int .u32 607225278), .lit (.int .u32 1426881987), .lit (.int .u32 1925078388), .lit (.int .u32 2162078206), .lit (.int .u32 2614888103), .lit (.int .u32 3248222580), .lit (.int .u32 3835390401), .lit (.int .u32 4022224774), .lit (.int .u32 264347078), .lit (.int .u32 604807628), .lit (.int .u32 770255983), .lit (.int .u32 1249150122), .lit (.int .u32 1555081692), .lit (.int .u32 1996064986), .lit (.int .u32 2554220882), .lit (.int .u32 2821834349), .lit (.int .u32 2952996808), .lit (.int .u32 3210313671), .lit (.int .u32 3336571891), .lit (.int .u32 3584528711), .lit (.int .u32 113926993), .lit (.int .u32 338241895), .lit (.int .u32 666307205), .lit (.int .u32 773529912), .lit (.int .u32 1294757372), .lit (.int .u32 1396182291), .lit (.int .u32 1695183700), .lit (.int .u32 1986661051), .lit (.int .u32 2177026350), .lit (.int .u32 2456956037), .lit (.int .u32 2730485921), .lit (.int .u32 2820302411), .lit (.int .u32 3259730800), .lit (.int .u32 3345764771), .lit (.int .u32 3516065817), .lit (.int .u32 3600352804), .lit (.int .u32 4094571909), .lit (.int .u32 275423344), .lit (.int .u32 430227734), .lit (.int .u32 506948616), .lit (.int .u32 659060556), .lit (.int .u32 883997877), .lit (.int .u32 958139571), .lit (.int .u32 1322822218), .lit (.int .u32 1537002063), .lit (.int .u32 1747873779), .lit (.int .u32 1955562222), .lit (.int .u32 2024104815), .lit (.int .u32 2227730452), .lit (.int .u32 2361852424), .lit (.int .u32 2428436474), .lit (.int .u32 2756734187), .lit (.int .u32 3204031479), .lit (.int .u32 3329325298)]

/-- 'laws.FnHash': WHATEVER THE INPUT: true; the input reads as it did. -/
def fnHashSpec : ChangeSpec := { name := "fnHash", vars := ["loop.example/g00548/impl.roundWords"], fn := fun _ => fun
  | [d1, d2, g1] => { results := [.lit (.bool true)], args := [d1, d2], vars := [g1] }
  | _ => none }
def fnHashRow : OpenClaim := { program := "ytemlmffoehclhaadoor", sum := "d422ba709821c0be58594cb03e2615af2b8b6e1f71637e45e4a72e940ea38b82", func := "loop.example/g00548/laws.FnHash", spec := "fnHash", named := ["loop.example/g00548/impl.roundWords"], apart := false, laid := [("loop.example/g00548/impl.roundWords", laid_loop_example_g00548_impl_roundWords)] }
def FnHashSaid : Prop := fnHashRow.holds Tryd.pinned (OpenSpec.ofChange fnHashSpec)

/-- ITS FALSE NEIGHBOUR: 'it returns false'. Refute it at one input. -/
def fnHashWrong : ChangeSpec := { name := "fnHash", vars := ["loop.example/g00548/impl.roundWords"], fn := fun _ => fun
  | [d1, d2, g1] => { results := [.lit (.bool false)], args := [d1, d2], vars := [g1] }
  | _ => none }
def FnHashWrongFalsely : Prop := fnHashRow.holds Tryd.pinned (OpenSpec.ofChange fnHashWrong)

/-- 'laws.FnProof': WHATEVER THE INPUT: true; the input reads as it did. -/
def fnProofSpec : ChangeSpec := { name := "fnProof", vars := ["loop.example/g00548/impl.roundWords"], fn := fun _ => fun
  | [d1, d2, g1] => { results := [.lit (.bool true)], args := [d1, d2], vars := [g1] }
  | _ => none }
def fnProofRow : OpenClaim := { program := "ytemlmffoehclhaadoor", sum := "d422ba709821c0be58594cb03e2615af2b8b6e1f71637e45e4a72e940ea38b82", func := "loop.example/g00548/laws.FnProof", spec := "fnProof", named := ["loop.example/g00548/impl.roundWords"], apart := false, laid := [("loop.example/g00548/impl.roundWords", laid_loop_example_g00548_impl_roundWords)] }
def FnProofSaid : Prop := fnProofRow.holds Tryd.pinned (OpenSpec.ofChange fnProofSpec)

/-- ITS FALSE NEIGHBOUR: 'it returns false'. Refute it at one input. -/
def fnProofWrong : ChangeSpec := { name := "fnProof", vars := ["loop.example/g00548/impl.roundWords"], fn := fun _ => fun
  | [d1, d2, g1] => { results := [.lit (.bool false)], args := [d1, d2], vars := [g1] }
  | _ => none }
def FnProofWrongFalsely : Prop := fnProofRow.holds Tryd.pinned (OpenSpec.ofChange fnProofWrong)

/-- 'laws.FnExactHashSum': WHATEVER THE INPUT: true; the input reads as it did. -/
def fnExactHashSumSpec : ChangeSpec := { name := "fnExactHashSum", vars := ["loop.example/g00548/impl.roundWords"], fn := fun _ => fun
  | [d, g1] => { results := [.lit (.bool true)], args := [d], vars := [g1] }
  | _ => none }
def fnExactHashSumRow : OpenClaim := { program := "ytemlmffoehclhaadoor", sum := "d422ba709821c0be58594cb03e2615af2b8b6e1f71637e45e4a72e940ea38b82", func := "loop.example/g00548/laws.FnExactHashSum", spec := "fnExactHashSum", named := ["loop.example/g00548/impl.roundWords"], apart := false, laid := [("loop.example/g00548/impl.roundWords", laid_loop_example_g00548_impl_roundWords)] }
def FnExactHashSumSaid : Prop := fnExactHashSumRow.holds Tryd.pinned (OpenSpec.ofChange fnExactHashSumSpec)

/-- ITS FALSE NEIGHBOUR: 'it returns false'. Refute it at one input. -/
def fnExactHashSumWrong : ChangeSpec := { name := "fnExactHashSum", vars := ["loop.example/g00548/impl.roundWords"], fn := fun _ => fun
  | [d, g1] => { results := [.lit (.bool false)], args := [d], vars := [g1] }
  | _ => none }
def FnExactHashSumWrongFalsely : Prop := fnExactHashSumRow.holds Tryd.pinned (OpenSpec.ofChange fnExactHashSumWrong)

/-- 'laws.FnExactHashOf': WHATEVER THE INPUT: true; the input reads as it did. -/
def fnExactHashOfSpec : ChangeSpec := { name := "fnExactHashOf", vars := ["loop.example/g00548/impl.roundWords"], fn := fun _ => fun
  | [d, g1] => { results := [.lit (.bool true)], args := [d], vars := [g1] }
  | _ => none }
def fnExactHashOfRow : OpenClaim := { program := "ytemlmffoehclhaadoor", sum := "d422ba709821c0be58594cb03e2615af2b8b6e1f71637e45e4a72e940ea38b82", func := "loop.example/g00548/laws.FnExactHashOf", spec := "fnExactHashOf", named := ["loop.example/g00548/impl.roundWords"], apart := false, laid := [("loop.example/g00548/impl.roundWords", laid_loop_example_g00548_impl_roundWords)] }
def FnExactHashOfSaid : Prop := fnExactHashOfRow.holds Tryd.pinned (OpenSpec.ofChange fnExactHashOfSpec)

/-- ITS FALSE NEIGHBOUR: 'it returns false'. Refute it at one input. -/
def fnExactHashOfWrong : ChangeSpec := { name := "fnExactHashOf", vars := ["loop.example/g00548/impl.roundWords"], fn := fun _ => fun
  | [d, g1] => { results := [.lit (.bool false)], args := [d], vars := [g1] }
  | _ => none }
def FnExactHashOfWrongFalsely : Prop := fnExactHashOfRow.holds Tryd.pinned (OpenSpec.ofChange fnExactHashOfWrong)

/-- 'laws.FnExactLeafDigest': WHATEVER THE INPUT: true; the input reads as it did. -/
def fnExactLeafDigestSpec : ChangeSpec := { name := "fnExactLeafDigest", vars := ["loop.example/g00548/impl.roundWords"], fn := fun _ => fun
  | [d1, d2, g1] => { results := [.lit (.bool true)], args := [d1, d2], vars := [g1] }
  | _ => none }
def fnExactLeafDigestRow : OpenClaim := { program := "ytemlmffoehclhaadoor", sum := "d422ba709821c0be58594cb03e2615af2b8b6e1f71637e45e4a72e940ea38b82", func := "loop.example/g00548/laws.FnExactLeafDigest", spec := "fnExactLeafDigest", named := ["loop.example/g00548/impl.roundWords"], apart := false, laid := [("loop.example/g00548/impl.roundWords", laid_loop_example_g00548_impl_roundWords)] }
def FnExactLeafDigestSaid : Prop := fnExactLeafDigestRow.holds Tryd.pinned (OpenSpec.ofChange fnExactLeafDigestSpec)

/-- ITS FALSE NEIGHBOUR: 'it returns false'. Refute it at one input. -/
def fnExactLeafDigestWrong : ChangeSpec := { name := "fnExactLeafDigest", vars := ["loop.example/g00548/impl.roundWords"], fn := fun _ => fun
  | [d1, d2, g1] => { results := [.lit (.bool false)], args := [d1, d2], vars := [g1] }
  | _ => none }
def FnExactLeafDigestWrongFalsely : Prop := fnExactLeafDigestRow.holds Tryd.pinned (OpenSpec.ofChange fnExactLeafDigestWrong)

/-- 'laws.FnExactJoinDigests': WHATEVER THE INPUT: true; the input reads as it did. -/
def fnExactJoinDigestsSpec : ChangeSpec := { name := "fnExactJoinDigests", vars := ["loop.example/g00548/impl.roundWords"], fn := fun _ => fun
  | [d1, d2, g1] => { results := [.lit (.bool true)], args := [d1, d2], vars := [g1] }
  | _ => none }
def fnExactJoinDigestsRow : OpenClaim := { program := "ytemlmffoehclhaadoor", sum := "d422ba709821c0be58594cb03e2615af2b8b6e1f71637e45e4a72e940ea38b82", func := "loop.example/g00548/laws.FnExactJoinDigests", spec := "fnExactJoinDigests", named := ["loop.example/g00548/impl.roundWords"], apart := false, laid := [("loop.example/g00548/impl.roundWords", laid_loop_example_g00548_impl_roundWords)] }
def FnExactJoinDigestsSaid : Prop := fnExactJoinDigestsRow.holds Tryd.pinned (OpenSpec.ofChange fnExactJoinDigestsSpec)

/-- ITS FALSE NEIGHBOUR: 'it returns false'. Refute it at one input. -/
def fnExactJoinDigestsWrong : ChangeSpec := { name := "fnExactJoinDigests", vars := ["loop.example/g00548/impl.roundWords"], fn := fun _ => fun
  | [d1, d2, g1] => { results := [.lit (.bool false)], args := [d1, d2], vars := [g1] }
  | _ => none }
def FnExactJoinDigestsWrongFalsely : Prop := fnExactJoinDigestsRow.holds Tryd.pinned (OpenSpec.ofChange fnExactJoinDigestsWrong)

/-- 'laws.FnExactRootOf': WHATEVER THE INPUT: true; the input reads as it did. -/
def fnExactRootOfSpec : ChangeSpec := { name := "fnExactRootOf", vars := ["loop.example/g00548/impl.roundWords"], fn := fun _ => fun
  | [d, g1] => { results := [.lit (.bool true)], args := [d], vars := [g1] }
  | _ => none }
def fnExactRootOfRow : OpenClaim := { program := "ytemlmffoehclhaadoor", sum := "d422ba709821c0be58594cb03e2615af2b8b6e1f71637e45e4a72e940ea38b82", func := "loop.example/g00548/laws.FnExactRootOf", spec := "fnExactRootOf", named := ["loop.example/g00548/impl.roundWords"], apart := false, laid := [("loop.example/g00548/impl.roundWords", laid_loop_example_g00548_impl_roundWords)] }
def FnExactRootOfSaid : Prop := fnExactRootOfRow.holds Tryd.pinned (OpenSpec.ofChange fnExactRootOfSpec)

/-- ITS FALSE NEIGHBOUR: 'it returns false'. Refute it at one input. -/
def fnExactRootOfWrong : ChangeSpec := { name := "fnExactRootOf", vars := ["loop.example/g00548/impl.roundWords"], fn := fun _ => fun
  | [d, g1] => { results := [.lit (.bool false)], args := [d], vars := [g1] }
  | _ => none }
def FnExactRootOfWrongFalsely : Prop := fnExactRootOfRow.holds Tryd.pinned (OpenSpec.ofChange fnExactRootOfWrong)

/-- 'laws.FnExactProofOf': WHATEVER THE INPUT: true; the input reads as it did. -/
def fnExactProofOfSpec : ChangeSpec := { name := "fnExactProofOf", vars := ["loop.example/g00548/impl.roundWords"], fn := fun _ => fun
  | [d1, d2, g1] => { results := [.lit (.bool true)], args := [d1, d2], vars := [g1] }
  | _ => none }
def fnExactProofOfRow : OpenClaim := { program := "ytemlmffoehclhaadoor", sum := "d422ba709821c0be58594cb03e2615af2b8b6e1f71637e45e4a72e940ea38b82", func := "loop.example/g00548/laws.FnExactProofOf", spec := "fnExactProofOf", named := ["loop.example/g00548/impl.roundWords"], apart := false, laid := [("loop.example/g00548/impl.roundWords", laid_loop_example_g00548_impl_roundWords)] }
def FnExactProofOfSaid : Prop := fnExactProofOfRow.holds Tryd.pinned (OpenSpec.ofChange fnExactProofOfSpec)

/-- ITS FALSE NEIGHBOUR: 'it returns false'. Refute it at one input. -/
def fnExactProofOfWrong : ChangeSpec := { name := "fnExactProofOf", vars := ["loop.example/g00548/impl.roundWords"], fn := fun _ => fun
  | [d1, d2, g1] => { results := [.lit (.bool false)], args := [d1, d2], vars := [g1] }
  | _ => none }
def FnExactProofOfWrongFalsely : Prop := fnExactProofOfRow.holds Tryd.pinned (OpenSpec.ofChange fnExactProofOfWrong)

/-- 'laws.FnExactCheckProof': WHATEVER THE INPUT: true; the input reads as it did. -/
def fnExactCheckProofSpec : ChangeSpec := { name := "fnExactCheckProof", vars := ["loop.example/g00548/impl.roundWords"], fn := fun _ => fun
  | [d1, d2, d3, d4, g1] => { results := [.lit (.bool true)], args := [d1, d2, d3, d4], vars := [g1] }
  | _ => none }
def fnExactCheckProofRow : OpenClaim := { program := "ytemlmffoehclhaadoor", sum := "d422ba709821c0be58594cb03e2615af2b8b6e1f71637e45e4a72e940ea38b82", func := "loop.example/g00548/laws.FnExactCheckProof", spec := "fnExactCheckProof", named := ["loop.example/g00548/impl.roundWords"], apart := false, laid := [("loop.example/g00548/impl.roundWords", laid_loop_example_g00548_impl_roundWords)] }
def FnExactCheckProofSaid : Prop := fnExactCheckProofRow.holds Tryd.pinned (OpenSpec.ofChange fnExactCheckProofSpec)

/-- ITS FALSE NEIGHBOUR: 'it returns false'. Refute it at one input. -/
def fnExactCheckProofWrong : ChangeSpec := { name := "fnExactCheckProof", vars := ["loop.example/g00548/impl.roundWords"], fn := fun _ => fun
  | [d1, d2, d3, d4, g1] => { results := [.lit (.bool false)], args := [d1, d2, d3, d4], vars := [g1] }
  | _ => none }
def FnExactCheckProofWrongFalsely : Prop := fnExactCheckProofRow.holds Tryd.pinned (OpenSpec.ofChange fnExactCheckProofWrong)

/-- 'laws.FnExactChainTip': WHATEVER THE INPUT: true; the input reads as it did. -/
def fnExactChainTipSpec : ChangeSpec := { name := "fnExactChainTip", vars := ["loop.example/g00548/impl.roundWords"], fn := fun _ => fun
  | [d1, d2, g1] => { results := [.lit (.bool true)], args := [d1, d2], vars := [g1] }
  | _ => none }
def fnExactChainTipRow : OpenClaim := { program := "ytemlmffoehclhaadoor", sum := "d422ba709821c0be58594cb03e2615af2b8b6e1f71637e45e4a72e940ea38b82", func := "loop.example/g00548/laws.FnExactChainTip", spec := "fnExactChainTip", named := ["loop.example/g00548/impl.roundWords"], apart := false, laid := [("loop.example/g00548/impl.roundWords", laid_loop_example_g00548_impl_roundWords)] }
def FnExactChainTipSaid : Prop := fnExactChainTipRow.holds Tryd.pinned (OpenSpec.ofChange fnExactChainTipSpec)

/-- ITS FALSE NEIGHBOUR: 'it returns false'. Refute it at one input. -/
def fnExactChainTipWrong : ChangeSpec := { name := "fnExactChainTip", vars := ["loop.example/g00548/impl.roundWords"], fn := fun _ => fun
  | [d1, d2, g1] => { results := [.lit (.bool false)], args := [d1, d2], vars := [g1] }
  | _ => none }
def FnExactChainTipWrongFalsely : Prop := fnExactChainTipRow.holds Tryd.pinned (OpenSpec.ofChange fnExactChainTipWrong)

/- THE SECOND FORM. 'bulk': how many values and letters a reading holds, each counted each time it is reached (what is shared counts as often as it is met; a slice's spare places count too). A statement '..UptoSaid' is the law's where the arguments, and the package variables that the reading takes, are together of bulk at most 1048576: NARROWER than '..Said'. Prove '..Said' where nothing that the law and all that it calls make is longer than what came in: it says more and counts as full. Else prove '..UptoSaid'. A law counts once. -/
mutual
def uptoBulk {H : Type} : DataW H → Nat
  | .lit (.string bytes) => bytes.length + 1
  | .lit _ => 1
  | .nil => 1
  | .ptr d => uptoBulk d + 1
  | .slice elems spare => uptoBulkAll elems + uptoBulkAll spare + 1
  | .agg parts => uptoBulkAll parts + 1
  | .iface _ d => uptoBulk d + 1
  | .map entries => uptoBulkEntries entries + 1
  | .held _ => 1
def uptoBulkAll {H : Type} : List (DataW H) → Nat
  | [] => 0
  | d :: r => uptoBulk d + uptoBulkAll r
def uptoBulkEntries {H : Type} : List (Lit × DataW H) → Nat
  | [] => 0
  | x :: r => uptoBulkEntry x + uptoBulkEntries r
def uptoBulkEntry {H : Type} : Lit × DataW H → Nat
  | (.string bytes, d) => bytes.length + uptoBulk d + 1
  | (_, d) => uptoBulk d + 1
 end
def uptoSmall : (H : Type) → List (DataW H) → Bool := fun _ ds => decide (uptoBulkAll ds ≤ 1048576)
def OpenSpec.upto (s : _root_.Go.ChangeSpec) : _root_.Go.OpenSpec := { _root_.Go.OpenSpec.ofChange s with cond := some uptoSmall }

/-- 'laws.FnHash', WHERE WHAT IT READS IS OF BULK AT MOST 1048576: true; the input reads as it did. -/
def fnHashUptoRow : OpenClaim := { program := "ytemlmffoehclhaadoor", sum := "d422ba709821c0be58594cb03e2615af2b8b6e1f71637e45e4a72e940ea38b82", func := "loop.example/g00548/laws.FnHash", spec := "fnHash", named := ["loop.example/g00548/impl.roundWords"], apart := false, laid := [("loop.example/g00548/impl.roundWords", laid_loop_example_g00548_impl_roundWords)], narrowed := true }
def FnHashUptoSaid : Prop := fnHashUptoRow.holds Tryd.pinned (OpenSpec.upto fnHashSpec)

/-- 'laws.FnProof', WHERE WHAT IT READS IS OF BULK AT MOST 1048576: true; the input reads as it did. -/
def fnProofUptoRow : OpenClaim := { program := "ytemlmffoehclhaadoor", sum := "d422ba709821c0be58594cb03e2615af2b8b6e1f71637e45e4a72e940ea38b82", func := "loop.example/g00548/laws.FnProof", spec := "fnProof", named := ["loop.example/g00548/impl.roundWords"], apart := false, laid := [("loop.example/g00548/impl.roundWords", laid_loop_example_g00548_impl_roundWords)], narrowed := true }
def FnProofUptoSaid : Prop := fnProofUptoRow.holds Tryd.pinned (OpenSpec.upto fnProofSpec)

/-- 'laws.FnExactHashSum', WHERE WHAT IT READS IS OF BULK AT MOST 1048576: true; the input reads as it did. -/
def fnExactHashSumUptoRow : OpenClaim := { program := "ytemlmffoehclhaadoor", sum := "d422ba709821c0be58594cb03e2615af2b8b6e1f71637e45e4a72e940ea38b82", func := "loop.example/g00548/laws.FnExactHashSum", spec := "fnExactHashSum", named := ["loop.example/g00548/impl.roundWords"], apart := false, laid := [("loop.example/g00548/impl.roundWords", laid_loop_example_g00548_impl_roundWords)], narrowed := true }
def FnExactHashSumUptoSaid : Prop := fnExactHashSumUptoRow.holds Tryd.pinned (OpenSpec.upto fnExactHashSumSpec)

/-- 'laws.FnExactHashOf', WHERE WHAT IT READS IS OF BULK AT MOST 1048576: true; the input reads as it did. -/
def fnExactHashOfUptoRow : OpenClaim := { program := "ytemlmffoehclhaadoor", sum := "d422ba709821c0be58594cb03e2615af2b8b6e1f71637e45e4a72e940ea38b82", func := "loop.example/g00548/laws.FnExactHashOf", spec := "fnExactHashOf", named := ["loop.example/g00548/impl.roundWords"], apart := false, laid := [("loop.example/g00548/impl.roundWords", laid_loop_example_g00548_impl_roundWords)], narrowed := true }
def FnExactHashOfUptoSaid : Prop := fnExactHashOfUptoRow.holds Tryd.pinned (OpenSpec.upto fnExactHashOfSpec)

/-- 'laws.FnExactLeafDigest', WHERE WHAT IT READS IS OF BULK AT MOST 1048576: true; the input reads as it did. -/
def fnExactLeafDigestUptoRow : OpenClaim := { program := "ytemlmffoehclhaadoor", sum := "d422ba709821c0be58594cb03e2615af2b8b6e1f71637e45e4a72e940ea38b82", func := "loop.example/g00548/laws.FnExactLeafDigest", spec := "fnExactLeafDigest", named := ["loop.example/g00548/impl.roundWords"], apart := false, laid := [("loop.example/g00548/impl.roundWords", laid_loop_example_g00548_impl_roundWords)], narrowed := true }
def FnExactLeafDigestUptoSaid : Prop := fnExactLeafDigestUptoRow.holds Tryd.pinned (OpenSpec.upto fnExactLeafDigestSpec)

/-- 'laws.FnExactJoinDigests', WHERE WHAT IT READS IS OF BULK AT MOST 1048576: true; the input reads as it did. -/
def fnExactJoinDigestsUptoRow : OpenClaim := { program := "ytemlmffoehclhaadoor", sum := "d422ba709821c0be58594cb03e2615af2b8b6e1f71637e45e4a72e940ea38b82", func := "loop.example/g00548/laws.FnExactJoinDigests", spec := "fnExactJoinDigests", named := ["loop.example/g00548/impl.roundWords"], apart := false, laid := [("loop.example/g00548/impl.roundWords", laid_loop_example_g00548_impl_roundWords)], narrowed := true }
def FnExactJoinDigestsUptoSaid : Prop := fnExactJoinDigestsUptoRow.holds Tryd.pinned (OpenSpec.upto fnExactJoinDigestsSpec)

/-- 'laws.FnExactRootOf', WHERE WHAT IT READS IS OF BULK AT MOST 1048576: true; the input reads as it did. -/
def fnExactRootOfUptoRow : OpenClaim := { program := "ytemlmffoehclhaadoor", sum := "d422ba709821c0be58594cb03e2615af2b8b6e1f71637e45e4a72e940ea38b82", func := "loop.example/g00548/laws.FnExactRootOf", spec := "fnExactRootOf", named := ["loop.example/g00548/impl.roundWords"], apart := false, laid := [("loop.example/g00548/impl.roundWords", laid_loop_example_g00548_impl_roundWords)], narrowed := true }
def FnExactRootOfUptoSaid : Prop := fnExactRootOfUptoRow.holds Tryd.pinned (OpenSpec.upto fnExactRootOfSpec)

/-- 'laws.FnExactProofOf', WHERE WHAT IT READS IS OF BULK AT MOST 1048576: true; the input reads as it did. -/
def fnExactProofOfUptoRow : OpenClaim := { program := "ytemlmffoehclhaadoor", sum := "d422ba709821c0be58594cb03e2615af2b8b6e1f71637e45e4a72e940ea38b82", func := "loop.example/g00548/laws.FnExactProofOf", spec := "fnExactProofOf", named := ["loop.example/g00548/impl.roundWords"], apart := false, laid := [("loop.example/g00548/impl.roundWords", laid_loop_example_g00548_impl_roundWords)], narrowed := true }
def FnExactProofOfUptoSaid : Prop := fnExactProofOfUptoRow.holds Tryd.pinned (OpenSpec.upto fnExactProofOfSpec)

/-- 'laws.FnExactCheckProof', WHERE WHAT IT READS IS OF BULK AT MOST 1048576: true; the input reads as it did. -/
def fnExactCheckProofUptoRow : OpenClaim := { program := "ytemlmffoehclhaadoor", sum := "d422ba709821c0be58594cb03e2615af2b8b6e1f71637e45e4a72e940ea38b82", func := "loop.example/g00548/laws.FnExactCheckProof", spec := "fnExactCheckProof", named := ["loop.example/g00548/impl.roundWords"], apart := false, laid := [("loop.example/g00548/impl.roundWords", laid_loop_example_g00548_impl_roundWords)], narrowed := true }
def FnExactCheckProofUptoSaid : Prop := fnExactCheckProofUptoRow.holds Tryd.pinned (OpenSpec.upto fnExactCheckProofSpec)

/-- 'laws.FnExactChainTip', WHERE WHAT IT READS IS OF BULK AT MOST 1048576: true; the input reads as it did. -/
def fnExactChainTipUptoRow : OpenClaim := { program := "ytemlmffoehclhaadoor", sum := "d422ba709821c0be58594cb03e2615af2b8b6e1f71637e45e4a72e940ea38b82", func := "loop.example/g00548/laws.FnExactChainTip", spec := "fnExactChainTip", named := ["loop.example/g00548/impl.roundWords"], apart := false, laid := [("loop.example/g00548/impl.roundWords", laid_loop_example_g00548_impl_roundWords)], narrowed := true }
def FnExactChainTipUptoSaid : Prop := fnExactChainTipUptoRow.holds Tryd.pinned (OpenSpec.upto fnExactChainTipSpec)

end Rows
end Go.Proofs.YtemlmffoehclhaaDoor
