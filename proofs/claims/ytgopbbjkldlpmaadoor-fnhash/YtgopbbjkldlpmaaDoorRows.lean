/-
  NARROWER THAN 'FOR EVERY INPUT', by the rows' own cells (each row's printed sentence says how): FnHash: laid · FnExactCodeWord: laid · FnExactCodeOf: laid · FnExactHashMore: laid · FnExactHashSum: laid · FnExactHashOf: laid.
  DERIVED. THE GIVEN ROWS OF THIS SEAT. 6 by the template 'for every input the law returns true; each argument reads behind the call as it read before'; 0 by the template 'total and deterministic' (their statements: YtgopbbjkldlpmaaDoorTotals.lean).
  GIVEN WITH THE SEED: the statements are not yours to turn. If you find one false, say at which input.
  Laid BY PROGRAM, IN A SANDBOX (cutbox-rows.mjs): the forced cells as the released guide's own fill.sh prints them over the translation 13f9a9e02b1bf0b5… (all of the seat's roots in one cut). By AI agents, Wed Nov 11 2026. No macro, syntax, notation, axiom, sorry.
-/
import Derived.Test.YtgopbbjkldlpmaaDoorChecked
import GoSem.Claim
import GoSem.ClaimJoined
import GoSem.ClaimMapViews
import Derived.JoinedTies
import Derived.KernelRfl
namespace Go.Proofs.YtgopbbjkldlpmaaDoor
/- THE CELL 'sum', in the pinned program and in every row, IS THE sha256 OF THE DUMP (.gsa) THAT YtgopbbjkldlpmaaDoorProg.lean LOADS. Nothing in Lean hashes anything: it is a label: what it is worth is what the hold of that sum in a sandbox is worth. -/
noncomputable def Tryd.pinned : Pinned := { name := "ytgopbbjkldlpmaadoor", sum := "13f9a9e02b1bf0b5a562fccdb6b8fca06a6c8f98b0bf0a7128bed1c7642921a9", checked := Tryd.checked }
namespace Rows
def none {H : Type} : Left H := { results := [], args := [] }

/- WHAT THE LISTED PACKAGE-LEVEL VARIABLES READ AS WHEN THE CALL BEGINS. Each datum BY PROGRAM (the guide's laid-datum.mjs) off the statement by which the dump's own 'gosem.cut.vars' lays the variable. In a bare row this is a premise. The card (YtgopbbjkldlpmaaDoorCards.lean) ties it to the program's text. -/
def laid_loop_example_g00548_impl_roundWords {H : Type} : DataW H := .agg [.lit (.int .u32 1116352408), .lit (.int .u32 1899447441), .lit (.int .u32 3049323471), .lit (.int .u32 3921009573), .lit (.int .u32 961987163), .lit (.int .u32 1508970993), .lit (.int .u32 2453635748), .lit (.int .u32 2870763221), .lit (.int .u32 3624381080), .lit (.int .u32 310598401), .lit (.int .u32 607225278), .lit (.int .u32 1426881987), .lit (.int .u32 1925078388), .lit (.int .u32 2162078206), .lit (.int .u32 2614888103), .lit (.int .u32 3248222580), .lit (.int .u32 3835390401), .lit (.int .u32 4022224774), .lit (.int .u32 264347078), .lit (.int .u32 604807628), .lit (.int .u32 770255983), .lit (.int .u32 1249150122), .lit (.int .u32 1555081692), .lit (.int .u32 1996064986), .lit (.int .u32 2554220882), .lit (.int .u32 2821834349), .lit (.int .u32 2952996808), .lit (.int .u32 3210313671), .lit (.int .u32 3336571891), .lit (.int .u32 3584528711), .lit (.int .u32 113926993), .lit (.int .u32 338241895), .lit (.int .u32 666307205), .lit (.int .u32 773529912), .lit (.int .u32 1294757372), .lit (.int .u32 1396182291), .lit (.int .u32 1695183700), .lit (.int .u32 1986661051), .lit (.int .u32 2177026350), .lit (.int .u32 2456956037), .lit (.int .u32 2730485921), .lit (.int .u32 2820302411), .lit (.int .u32 3259730800), .lit (.int .u32 3345764771), .lit (.int .u32 3516065817), .lit (.int .u32 3600352804), .lit (.int .u32 4094571909), .lit (.int .u32 275423344), .lit (.int .u32 430227734), .lit (.int .u32 506948616), .lit (.int .u32 659060556), .lit (.int .u32 883997877), .lit (.int .u32 958139571), .lit (.int .u32 1322822218), .lit (.int .u32 1537002063), .lit (.int .u32 1747873779), .lit (.int .u32 1955562222), .lit (.int .u32 2024104815), .lit (.int .u32 2227730452), .lit (.int .u32 2361852424), .lit (.int .u32 2428436474), .lit (.int .u32 2756734187), .lit (.int .u32 3204031479), .lit (.int .u32 3329325298)]
def laid_loop_example_g00548_impl_codeWords {H : Type} : DataW H := .agg [.lit (.string [111, 107]), .lit (.string [98, 97, 100]), .lit (.string [108, 111, 110, 103]), .lit (.string [102, 111, 114, 109]), .lit (.string [114, 97, 110, 103, 101]), .lit (.string [110, 111, 110, 101]), .lit (.string [109, 97, 110, 121]), .lit (.string [102, 117, 108, 108]), .lit (.string [115, 105, 122, 101]), .lit (.string [116, 97, 103]), .lit (.string [116, 97, 109, 112, 101, 114, 101, 100]), .lit (.string [116, 111, 114, 110]), .lit (.string [115, 116, 97, 115, 104]), .lit (.string [116, 97, 112, 101]), .lit (.string [99, 104, 101, 99, 107]), .lit (.string [112, 101, 110, 100, 105, 110, 103]), .lit (.string [100, 111, 119, 110]), .lit (.string [117, 112]), .lit (.string [115, 112, 101, 110, 116]), .lit (.string [107, 101, 121])]

/-- 'laws.FnHash': WHATEVER THE INPUT: true; the input reads as it did. -/
def fnHashSpec : ChangeSpec := { name := "fnHash", vars := ["loop.example/g00548/impl.roundWords"], fn := fun _ => fun
  | [d1, d2, g1] => { results := [.lit (.bool true)], args := [d1, d2], vars := [g1] }
  | _ => none }
def fnHashRow : OpenClaim := { program := "ytgopbbjkldlpmaadoor", sum := "13f9a9e02b1bf0b5a562fccdb6b8fca06a6c8f98b0bf0a7128bed1c7642921a9", func := "loop.example/g00548/laws.FnHash", spec := "fnHash", named := ["loop.example/g00548/impl.roundWords"], apart := false, laid := [("loop.example/g00548/impl.roundWords", laid_loop_example_g00548_impl_roundWords)] }
def FnHashSaid : Prop := fnHashRow.holds Tryd.pinned (OpenSpec.ofChange fnHashSpec)

/-- ITS FALSE NEIGHBOUR: 'it returns false'. Refute it at one input. -/
def fnHashWrong : ChangeSpec := { name := "fnHash", vars := ["loop.example/g00548/impl.roundWords"], fn := fun _ => fun
  | [d1, d2, g1] => { results := [.lit (.bool false)], args := [d1, d2], vars := [g1] }
  | _ => none }
def FnHashWrongFalsely : Prop := fnHashRow.holds Tryd.pinned (OpenSpec.ofChange fnHashWrong)

/-- 'laws.FnExactCodeWord': WHATEVER THE INPUT: true; the input reads as it did. -/
def fnExactCodeWordSpec : ChangeSpec := { name := "fnExactCodeWord", vars := ["loop.example/g00548/impl.codeWords"], fn := fun _ => fun
  | [d, g1] => { results := [.lit (.bool true)], args := [d], vars := [g1] }
  | _ => none }
def fnExactCodeWordRow : OpenClaim := { program := "ytgopbbjkldlpmaadoor", sum := "13f9a9e02b1bf0b5a562fccdb6b8fca06a6c8f98b0bf0a7128bed1c7642921a9", func := "loop.example/g00548/laws.FnExactCodeWord", spec := "fnExactCodeWord", named := ["loop.example/g00548/impl.codeWords"], apart := false, laid := [("loop.example/g00548/impl.codeWords", laid_loop_example_g00548_impl_codeWords)] }
def FnExactCodeWordSaid : Prop := fnExactCodeWordRow.holds Tryd.pinned (OpenSpec.ofChange fnExactCodeWordSpec)

/-- ITS FALSE NEIGHBOUR: 'it returns false'. Refute it at one input. -/
def fnExactCodeWordWrong : ChangeSpec := { name := "fnExactCodeWord", vars := ["loop.example/g00548/impl.codeWords"], fn := fun _ => fun
  | [d, g1] => { results := [.lit (.bool false)], args := [d], vars := [g1] }
  | _ => none }
def FnExactCodeWordWrongFalsely : Prop := fnExactCodeWordRow.holds Tryd.pinned (OpenSpec.ofChange fnExactCodeWordWrong)

/-- 'laws.FnExactCodeOf': WHATEVER THE INPUT: true; the input reads as it did. -/
def fnExactCodeOfSpec : ChangeSpec := { name := "fnExactCodeOf", vars := ["loop.example/g00548/impl.codeWords"], fn := fun _ => fun
  | [d, g1] => { results := [.lit (.bool true)], args := [d], vars := [g1] }
  | _ => none }
def fnExactCodeOfRow : OpenClaim := { program := "ytgopbbjkldlpmaadoor", sum := "13f9a9e02b1bf0b5a562fccdb6b8fca06a6c8f98b0bf0a7128bed1c7642921a9", func := "loop.example/g00548/laws.FnExactCodeOf", spec := "fnExactCodeOf", named := ["loop.example/g00548/impl.codeWords"], apart := false, laid := [("loop.example/g00548/impl.codeWords", laid_loop_example_g00548_impl_codeWords)] }
def FnExactCodeOfSaid : Prop := fnExactCodeOfRow.holds Tryd.pinned (OpenSpec.ofChange fnExactCodeOfSpec)

/-- ITS FALSE NEIGHBOUR: 'it returns false'. Refute it at one input. -/
def fnExactCodeOfWrong : ChangeSpec := { name := "fnExactCodeOf", vars := ["loop.example/g00548/impl.codeWords"], fn := fun _ => fun
  | [d, g1] => { results := [.lit (.bool false)], args := [d], vars := [g1] }
  | _ => none }
def FnExactCodeOfWrongFalsely : Prop := fnExactCodeOfRow.holds Tryd.pinned (OpenSpec.ofChange fnExactCodeOfWrong)

/-- 'laws.FnExactHashMore': WHATEVER THE INPUT: true; the input reads as it did. -/
def fnExactHashMoreSpec : ChangeSpec := { name := "fnExactHashMore", vars := ["loop.example/g00548/impl.roundWords"], fn := fun _ => fun
  | [d1, d2, g1] => { results := [.lit (.bool true)], args := [d1, d2], vars := [g1] }
  | _ => none }
def fnExactHashMoreRow : OpenClaim := { program := "ytgopbbjkldlpmaadoor", sum := "13f9a9e02b1bf0b5a562fccdb6b8fca06a6c8f98b0bf0a7128bed1c7642921a9", func := "loop.example/g00548/laws.FnExactHashMore", spec := "fnExactHashMore", named := ["loop.example/g00548/impl.roundWords"], apart := false, laid := [("loop.example/g00548/impl.roundWords", laid_loop_example_g00548_impl_roundWords)] }
def FnExactHashMoreSaid : Prop := fnExactHashMoreRow.holds Tryd.pinned (OpenSpec.ofChange fnExactHashMoreSpec)

/-- ITS FALSE NEIGHBOUR: 'it returns false'. Refute it at one input. -/
def fnExactHashMoreWrong : ChangeSpec := { name := "fnExactHashMore", vars := ["loop.example/g00548/impl.roundWords"], fn := fun _ => fun
  | [d1, d2, g1] => { results := [.lit (.bool false)], args := [d1, d2], vars := [g1] }
  | _ => none }
def FnExactHashMoreWrongFalsely : Prop := fnExactHashMoreRow.holds Tryd.pinned (OpenSpec.ofChange fnExactHashMoreWrong)

/-- 'laws.FnExactHashSum': WHATEVER THE INPUT: true; the input reads as it did. -/
def fnExactHashSumSpec : ChangeSpec := { name := "fnExactHashSum", vars := ["loop.example/g00548/impl.roundWords"], fn := fun _ => fun
  | [d, g1] => { results := [.lit (.bool true)], args := [d], vars := [g1] }
  | _ => none }
def fnExactHashSumRow : OpenClaim := { program := "ytgopbbjkldlpmaadoor", sum := "13f9a9e02b1bf0b5a562fccdb6b8fca06a6c8f98b0bf0a7128bed1c7642921a9", func := "loop.example/g00548/laws.FnExactHashSum", spec := "fnExactHashSum", named := ["loop.example/g00548/impl.roundWords"], apart := false, laid := [("loop.example/g00548/impl.roundWords", laid_loop_example_g00548_impl_roundWords)] }
def FnExactHashSumSaid : Prop := fnExactHashSumRow.holds Tryd.pinned (OpenSpec.ofChange fnExactHashSumSpec)

/-- ITS FALSE NEIGHBOUR: 'it returns false'. Refute it at one input. -/
def fnExactHashSumWrong : ChangeSpec := { name := "fnExactHashSum", vars := ["loop.example/g00548/impl.roundWords"], fn := fun _ => fun
  | [d, g1] => { results := [.lit (.bool false)], args := [d], vars := [g1] }
  | _ => none }
def FnExactHashSumWrongFalsely : Prop := fnExactHashSumRow.holds Tryd.pinned (OpenSpec.ofChange fnExactHashSumWrong)

/-- 'laws.FnExactHashOf': WHATEVER THE INPUT: true; the input reads as it did. -/
def fnExactHashOfSpec : ChangeSpec := { name := "fnExactHashOf", vars := ["loop.example/g00548/impl.roundWords"], fn := fun _ => fun
  | [d, g1] => { results := [.lit (.bool true)], args := [d], vars := [g1] }
  | _ => none }
def fnExactHashOfRow : OpenClaim := { program := "ytgopbbjkldlpmaadoor", sum := "13f9a9e02b1bf0b5a562fccdb6b8fca06a6c8f98b0bf0a7128bed1c7642921a9", func := "loop.example/g00548/laws.FnExactHashOf", spec := "fnExactHashOf", named := ["loop.example/g00548/impl.roundWords"], apart := false, laid := [("loop.example/g00548/impl.roundWords", laid_loop_example_g00548_impl_roundWords)] }
def FnExactHashOfSaid : Prop := fnExactHashOfRow.holds Tryd.pinned (OpenSpec.ofChange fnExactHashOfSpec)

/-- ITS FALSE NEIGHBOUR: 'it returns false'. Refute it at one input. -/
def fnExactHashOfWrong : ChangeSpec := { name := "fnExactHashOf", vars := ["loop.example/g00548/impl.roundWords"], fn := fun _ => fun
  | [d, g1] => { results := [.lit (.bool false)], args := [d], vars := [g1] }
  | _ => none }
def FnExactHashOfWrongFalsely : Prop := fnExactHashOfRow.holds Tryd.pinned (OpenSpec.ofChange fnExactHashOfWrong)

/- THE SECOND FORM. 'bulk': how many values and letters a reading holds, each counted each time it is reached (what is shared counts as often as it is met; a slice's spare places count too). A statement '..UptoSaid' is the law's where the arguments, and the package variables that the reading takes, are together of bulk at most 1048576: NARROWER than '..Said'. Prove '..Said' where nothing that the law and all that it calls make is longer than what came in: it says more and counts as full. Else prove '..UptoSaid'. A law counts once. -/
mutual
def uptoBulk {H : Type} : DataW H → Nat
  | .lit (.string bytes) => bytes.length + 1
  | .lit _ => 1
  | .nil => 1
  | .ptr d => uptoBulk d + 1
  | .slice elems spare => uptoBulkAll elems + uptoBulkAll spare + 1
  | .agg parts => uptoBulkAll parts + 1
  | .iface _ d => uptoBulk d + 1
  | .map entries => uptoBulkEntries entries + 1
  | .held _ => 1
def uptoBulkAll {H : Type} : List (DataW H) → Nat
  | [] => 0
  | d :: r => uptoBulk d + uptoBulkAll r
def uptoBulkEntries {H : Type} : List (Lit × DataW H) → Nat
  | [] => 0
  | x :: r => uptoBulkEntry x + uptoBulkEntries r
def uptoBulkEntry {H : Type} : Lit × DataW H → Nat
  | (.string bytes, d) => bytes.length + uptoBulk d + 1
  | (_, d) => uptoBulk d + 1
 end
def uptoSmall : (H : Type) → List (DataW H) → Bool := fun _ ds => decide (uptoBulkAll ds ≤ 1048576)
def OpenSpec.upto (s : _root_.Go.ChangeSpec) : _root_.Go.OpenSpec := { _root_.Go.OpenSpec.ofChange s with cond := some uptoSmall }

/-- 'laws.FnHash', WHERE WHAT IT READS IS OF BULK AT MOST 1048576: true; the input reads as it did. -/
def fnHashUptoRow : OpenClaim := { program := "ytgopbbjkldlpmaadoor", sum := "13f9a9e02b1bf0b5a562fccdb6b8fca06a6c8f98b0bf0a7128bed1c7642921a9", func := "loop.example/g00548/laws.FnHash", spec := "fnHash", named := ["loop.example/g00548/impl.roundWords"], apart := false, laid := [("loop.example/g00548/impl.roundWords", laid_loop_example_g00548_impl_roundWords)], narrowed := true }
def FnHashUptoSaid : Prop := fnHashUptoRow.holds Tryd.pinned (OpenSpec.upto fnHashSpec)

/-- 'laws.FnExactCodeWord', WHERE WHAT IT READS IS OF BULK AT MOST 1048576: true; the input reads as it did. -/
def fnExactCodeWordUptoRow : OpenClaim := { program := "ytgopbbjkldlpmaadoor", sum := "13f9a9e02b1bf0b5a562fccdb6b8fca06a6c8f98b0bf0a7128bed1c7642921a9", func := "loop.example/g00548/laws.FnExactCodeWord", spec := "fnExactCodeWord", named := ["loop.example/g00548/impl.codeWords"], apart := false, laid := [("loop.example/g00548/impl.codeWords", laid_loop_example_g00548_impl_codeWords)], narrowed := true }
def FnExactCodeWordUptoSaid : Prop := fnExactCodeWordUptoRow.holds Tryd.pinned (OpenSpec.upto fnExactCodeWordSpec)

/-- 'laws.FnExactCodeOf', WHERE WHAT IT READS IS OF BULK AT MOST 1048576: true; the input reads as it did. -/
def fnExactCodeOfUptoRow : OpenClaim := { program := "ytgopbbjkldlpmaadoor", sum := "13f9a9e02b1bf0b5a562fccdb6b8fca06a6c8f98b0bf0a7128bed1c7642921a9", func := "loop.example/g00548/laws.FnExactCodeOf", spec := "fnExactCodeOf", named := ["loop.example/g00548/impl.codeWords"], apart := false, laid := [("loop.example/g00548/impl.codeWords", laid_loop_example_g00548_impl_codeWords)], narrowed := true }
def FnExactCodeOfUptoSaid : Prop := fnExactCodeOfUptoRow.holds Tryd.pinned (OpenSpec.upto fnExactCodeOfSpec)

/-- 'laws.FnExactHashMore', WHERE WHAT IT READS IS OF BULK AT MOST 1048576: true; the input reads as it did. -/
def fnExactHashMoreUptoRow : OpenClaim := { program := "ytgopbbjkldlpmaadoor", sum := "13f9a9e02b1bf0b5a562fccdb6b8fca06a6c8f98b0bf0a7128bed1c7642921a9", func := "loop.example/g00548/laws.FnExactHashMore", spec := "fnExactHashMore", named := ["loop.example/g00548/impl.roundWords"], apart := false, laid := [("loop.example/g00548/impl.roundWords", laid_loop_example_g00548_impl_roundWords)], narrowed := true }
def FnExactHashMoreUptoSaid : Prop := fnExactHashMoreUptoRow.holds Tryd.pinned (OpenSpec.upto fnExactHashMoreSpec)

/-- 'laws.FnExactHashSum', WHERE WHAT IT READS IS OF BULK AT MOST 1048576: true; the input reads as it did. -/
def fnExactHashSumUptoRow : OpenClaim := { program := "ytgopbbjkldlpmaadoor", sum := "13f9a9e02b1bf0b5a562fccdb6b8fca06a6c8f98b0bf0a7128bed1c7642921a9", func := "loop.example/g00548/laws.FnExactHashSum", spec := "fnExactHashSum", named := ["loop.example/g00548/impl.roundWords"], apart := false, laid := [("loop.example/g00548/impl.roundWords", laid_loop_example_g00548_impl_roundWords)], narrowed := true }
def FnExactHashSumUptoSaid : Prop := fnExactHashSumUptoRow.holds Tryd.pinned (OpenSpec.upto fnExactHashSumSpec)

/-- 'laws.FnExactHashOf', WHERE WHAT IT READS IS OF BULK AT MOST 1048576: true; the input reads as it did. -/
def fnExactHashOfUptoRow : OpenClaim := { program := "ytgopbbjkldlpmaadoor", sum := "13f9a9e02b1bf0b5a562fccdb6b8fca06a6c8f98b0bf0a7128bed1c7642921a9", func := "loop.example/g00548/laws.FnExactHashOf", spec := "fnExactHashOf", named := ["loop.example/g00548/impl.roundWords"], apart := false, laid := [("loop.example/g00548/impl.roundWords", laid_loop_example_g00548_impl_roundWords)], narrowed := true }
def FnExactHashOfUptoSaid : Prop := fnExactHashOfUptoRow.holds Tryd.pinned (OpenSpec.upto fnExactHashOfSpec)

end Rows
end Go.Proofs.YtgopbbjkldlpmaaDoor
