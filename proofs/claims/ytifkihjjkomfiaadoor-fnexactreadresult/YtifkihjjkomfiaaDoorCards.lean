/-
  DERIVED. GIVEN WITH THE SEED: THE CARDS: each row of YtifkihjjkomfiaaDoorRows.lean that lists a variable, with what it lists TIED to the program's text (the seventh form; the later family's looks); each row that meets fmt, with fmt's text TOLD by the authors' own Lean function (tested against real Go, not proved from fmt's source: count such statements apart). THE CARD IS WHAT COUNTS. Prove the row's statement (the work); the ties are given (YtifkihjjkomfiaaDoorTie.lean); close each card by the builder's one call (the guide's Derived/Test/ToyasCard.lean, 'card_holds'). Laid BY PROGRAM, IN A SANDBOX (cutbox-door.mjs). By AI agents, Wed Nov 11 2026. No macro, syntax, notation, axiom, sorry.
-/
import Derived.Test.YtifkihjjkomfiaaDoorRows
import GoSem.ClaimSeven
namespace Go.Proofs.YtifkihjjkomfiaaDoor
namespace Rows

/-- THE TIED CARD OF 'laws.FnExactResultText'. -/
def fnExactResultTextCard : Claim7 := { stood := { row := fnExactResultTextRow, standIns := [], harness := (true, "28592b79f3697e3cc9d39498e062b5239b0edccc550fd40f7deeb50f5c980c36"), looks := true }, kinds := [], alts := [], laidByText := true, laidKinds := [.data, .data, .data, .data], laidTests := true, laidLooks := .later }
def FnExactResultTextCardSaid : Prop := Claim7.holds Tryd.pinned (.plain (OpenSpec.ofChange fnExactResultTextSpec)) fnExactResultTextCard

/-- THE TIED CARD OF 'laws.FnExactReadResult'. -/
def fnExactReadResultCard : Claim7 := { stood := { row := fnExactReadResultRow, standIns := [], harness := (true, "28592b79f3697e3cc9d39498e062b5239b0edccc550fd40f7deeb50f5c980c36"), looks := true }, kinds := [], alts := [], laidByText := true, laidKinds := [.data, .data, .data, .sentinel, .sentinel, .data], laidTests := true, laidLooks := .later }
def FnExactReadResultCardSaid : Prop := Claim7.holds Tryd.pinned (.plain (OpenSpec.ofChange fnExactReadResultSpec)) fnExactReadResultCard

/-- THE SECOND FORM's CARD OF 'laws.FnExactResultText'. -/
def fnExactResultTextUptoCard : Claim7 := { stood := { row := fnExactResultTextUptoRow, standIns := [], harness := (true, "28592b79f3697e3cc9d39498e062b5239b0edccc550fd40f7deeb50f5c980c36"), looks := true }, kinds := [], alts := [], laidByText := true, laidKinds := [.data, .data, .data, .data], laidTests := true, laidLooks := .later }
def FnExactResultTextUptoCardSaid : Prop := Claim7.holds Tryd.pinned (.plain (OpenSpec.upto fnExactResultTextSpec)) fnExactResultTextUptoCard

/-- THE SECOND FORM's CARD OF 'laws.FnExactReadResult'. -/
def fnExactReadResultUptoCard : Claim7 := { stood := { row := fnExactReadResultUptoRow, standIns := [], harness := (true, "28592b79f3697e3cc9d39498e062b5239b0edccc550fd40f7deeb50f5c980c36"), looks := true }, kinds := [], alts := [], laidByText := true, laidKinds := [.data, .data, .data, .sentinel, .sentinel, .data], laidTests := true, laidLooks := .later }
def FnExactReadResultUptoCardSaid : Prop := Claim7.holds Tryd.pinned (.plain (OpenSpec.upto fnExactReadResultSpec)) fnExactReadResultUptoCard
end Rows
end Go.Proofs.YtifkihjjkomfiaaDoor
