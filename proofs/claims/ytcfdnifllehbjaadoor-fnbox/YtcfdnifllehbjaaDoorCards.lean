/-
  DERIVED. GIVEN WITH THE SEED: THE CARDS: each row of YtcfdnifllehbjaaDoorRows.lean that lists a variable, with what it lists TIED to the program's text (the seventh form; the later family's looks); each row that meets fmt, with fmt's text TOLD by the authors' own Lean function (tested against real Go, not proved from fmt's source: count such statements apart). THE CARD IS WHAT COUNTS. Prove the row's statement (the work); the ties are given (YtcfdnifllehbjaaDoorTie.lean); close each card by the builder's one call (the guide's Derived/Test/ToyasCard.lean, 'card_holds'). Laid BY PROGRAM, IN A SANDBOX (cutbox-door.mjs). By AI agents, Wed Nov 11 2026. No macro, syntax, notation, axiom, sorry.
-/
import Derived.Test.YtcfdnifllehbjaaDoorRows
import GoSem.ClaimSeven
namespace Go.Proofs.YtcfdnifllehbjaaDoor
namespace Rows

/-- THE TIED CARD OF 'laws.FnBox'. -/
def fnBoxCard : Claim7 := { stood := { row := fnBoxRow, standIns := [], harness := (true, "e719d2db780c5dd0e1239ba3e6076c1a678d1cffc81bac843f4da9abdd8130ba"), looks := true }, kinds := [], alts := [], laidByText := true, laidKinds := [.sentinel, .sentinel, .sentinel], laidTests := true, laidLooks := .later }
def FnBoxCardSaid : Prop := Claim7.holds Tryd.pinned (.plain (OpenSpec.ofChange fnBoxSpec)) fnBoxCard

/-- THE TIED CARD OF 'laws.FnExactSealBox'. -/
def fnExactSealBoxCard : Claim7 := { stood := { row := fnExactSealBoxRow, standIns := [], harness := (true, "e719d2db780c5dd0e1239ba3e6076c1a678d1cffc81bac843f4da9abdd8130ba"), looks := true }, kinds := [], alts := [], laidByText := true, laidKinds := [.sentinel, .sentinel], laidTests := true, laidLooks := .later }
def FnExactSealBoxCardSaid : Prop := Claim7.holds Tryd.pinned (.plain (OpenSpec.ofChange fnExactSealBoxSpec)) fnExactSealBoxCard

/-- THE TIED CARD OF 'laws.FnExactOpenBox'. -/
def fnExactOpenBoxCard : Claim7 := { stood := { row := fnExactOpenBoxRow, standIns := [], harness := (true, "e719d2db780c5dd0e1239ba3e6076c1a678d1cffc81bac843f4da9abdd8130ba"), looks := true }, kinds := [], alts := [], laidByText := true, laidKinds := [.sentinel, .sentinel, .sentinel], laidTests := true, laidLooks := .later }
def FnExactOpenBoxCardSaid : Prop := Claim7.holds Tryd.pinned (.plain (OpenSpec.ofChange fnExactOpenBoxSpec)) fnExactOpenBoxCard

/-- THE TIED CARD OF 'laws.FnExactBoxTag'. -/
def fnExactBoxTagCard : Claim7 := { stood := { row := fnExactBoxTagRow, standIns := [], harness := (true, "e719d2db780c5dd0e1239ba3e6076c1a678d1cffc81bac843f4da9abdd8130ba"), looks := true }, kinds := [], alts := [], laidByText := true, laidKinds := [.sentinel, .sentinel], laidTests := true, laidLooks := .later }
def FnExactBoxTagCardSaid : Prop := Claim7.holds Tryd.pinned (.plain (OpenSpec.ofChange fnExactBoxTagSpec)) fnExactBoxTagCard

/-- THE SECOND FORM's CARD OF 'laws.FnBox'. -/
def fnBoxUptoCard : Claim7 := { stood := { row := fnBoxUptoRow, standIns := [], harness := (true, "e719d2db780c5dd0e1239ba3e6076c1a678d1cffc81bac843f4da9abdd8130ba"), looks := true }, kinds := [], alts := [], laidByText := true, laidKinds := [.sentinel, .sentinel, .sentinel], laidTests := true, laidLooks := .later }
def FnBoxUptoCardSaid : Prop := Claim7.holds Tryd.pinned (.plain (OpenSpec.upto fnBoxSpec)) fnBoxUptoCard

/-- THE SECOND FORM's CARD OF 'laws.FnExactSealBox'. -/
def fnExactSealBoxUptoCard : Claim7 := { stood := { row := fnExactSealBoxUptoRow, standIns := [], harness := (true, "e719d2db780c5dd0e1239ba3e6076c1a678d1cffc81bac843f4da9abdd8130ba"), looks := true }, kinds := [], alts := [], laidByText := true, laidKinds := [.sentinel, .sentinel], laidTests := true, laidLooks := .later }
def FnExactSealBoxUptoCardSaid : Prop := Claim7.holds Tryd.pinned (.plain (OpenSpec.upto fnExactSealBoxSpec)) fnExactSealBoxUptoCard

/-- THE SECOND FORM's CARD OF 'laws.FnExactOpenBox'. -/
def fnExactOpenBoxUptoCard : Claim7 := { stood := { row := fnExactOpenBoxUptoRow, standIns := [], harness := (true, "e719d2db780c5dd0e1239ba3e6076c1a678d1cffc81bac843f4da9abdd8130ba"), looks := true }, kinds := [], alts := [], laidByText := true, laidKinds := [.sentinel, .sentinel, .sentinel], laidTests := true, laidLooks := .later }
def FnExactOpenBoxUptoCardSaid : Prop := Claim7.holds Tryd.pinned (.plain (OpenSpec.upto fnExactOpenBoxSpec)) fnExactOpenBoxUptoCard

/-- THE SECOND FORM's CARD OF 'laws.FnExactBoxTag'. -/
def fnExactBoxTagUptoCard : Claim7 := { stood := { row := fnExactBoxTagUptoRow, standIns := [], harness := (true, "e719d2db780c5dd0e1239ba3e6076c1a678d1cffc81bac843f4da9abdd8130ba"), looks := true }, kinds := [], alts := [], laidByText := true, laidKinds := [.sentinel, .sentinel], laidTests := true, laidLooks := .later }
def FnExactBoxTagUptoCardSaid : Prop := Claim7.holds Tryd.pinned (.plain (OpenSpec.upto fnExactBoxTagSpec)) fnExactBoxTagUptoCard
end Rows
end Go.Proofs.YtcfdnifllehbjaaDoor
