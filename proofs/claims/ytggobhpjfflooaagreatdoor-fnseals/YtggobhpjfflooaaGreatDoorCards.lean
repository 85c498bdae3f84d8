/-
  DERIVED. GIVEN WITH THE SEED: THE CARDS: each row of YtggobhpjfflooaaGreatDoorRows.lean that lists a variable, with what it lists TIED to the program's text (the seventh form; the later family's looks); each row that meets fmt, with fmt's text TOLD by the authors' own Lean function (tested against real Go, not proved from fmt's source: count such statements apart). THE CARD IS WHAT COUNTS. Prove the row's statement (the work); the ties are given (YtggobhpjfflooaaGreatDoorTie.lean); close each card by the builder's one call (the guide's Derived/Test/ToyasCard.lean, 'card_holds'). Laid BY PROGRAM, IN A SANDBOX (cutbox-door.mjs). By AI agents, Wed Nov 11 2026. No macro, syntax, notation, axiom, sorry.
-/
import Derived.Test.YtggobhpjfflooaaGreatDoorRows
import GoSem.ClaimSeven
namespace Go.Proofs.YtggobhpjfflooaaGreatDoor
namespace Rows

/-- THE TIED CARD OF 'laws.FnSeals'. -/
def fnSealsCard : Claim7 := { stood := { row := fnSealsRow, standIns := [], harness := (true, "82c209d624ec5f0b40846367fdd788c081e77484ca2816a649e5ba81ff6e85f9"), looks := true }, kinds := [], alts := [], laidByText := true, laidKinds := [.handle, .sentinel, .sentinel, .sentinel], laidTests := true, laidLooks := .later }
def FnSealsCardSaid : Prop := Claim7.holds Tryz.pinned (.plain (OpenSpec.ofChange fnSealsSpec)) fnSealsCard

/-- THE TIED CARD OF 'laws.FnExactOpenAt'. -/
def fnExactOpenAtCard : Claim7 := { stood := { row := fnExactOpenAtRow, standIns := [], harness := (true, "82c209d624ec5f0b40846367fdd788c081e77484ca2816a649e5ba81ff6e85f9"), looks := true }, kinds := [], alts := [], laidByText := true, laidKinds := [.handle, .sentinel, .sentinel, .sentinel], laidTests := true, laidLooks := .later }
def FnExactOpenAtCardSaid : Prop := Claim7.holds Tryz.pinned (.plain (OpenSpec.ofChange fnExactOpenAtSpec)) fnExactOpenAtCard

/-- THE SECOND FORM's CARD OF 'laws.FnSeals'. -/
def fnSealsUptoCard : Claim7 := { stood := { row := fnSealsUptoRow, standIns := [], harness := (true, "82c209d624ec5f0b40846367fdd788c081e77484ca2816a649e5ba81ff6e85f9"), looks := true }, kinds := [], alts := [], laidByText := true, laidKinds := [.handle, .sentinel, .sentinel, .sentinel], laidTests := true, laidLooks := .later }
def FnSealsUptoCardSaid : Prop := Claim7.holds Tryz.pinned (.plain (OpenSpec.upto fnSealsSpec)) fnSealsUptoCard

/-- THE SECOND FORM's CARD OF 'laws.FnExactOpenAt'. -/
def fnExactOpenAtUptoCard : Claim7 := { stood := { row := fnExactOpenAtUptoRow, standIns := [], harness := (true, "82c209d624ec5f0b40846367fdd788c081e77484ca2816a649e5ba81ff6e85f9"), looks := true }, kinds := [], alts := [], laidByText := true, laidKinds := [.handle, .sentinel, .sentinel, .sentinel], laidTests := true, laidLooks := .later }
def FnExactOpenAtUptoCardSaid : Prop := Claim7.holds Tryz.pinned (.plain (OpenSpec.upto fnExactOpenAtSpec)) fnExactOpenAtUptoCard
end Rows
end Go.Proofs.YtggobhpjfflooaaGreatDoor
