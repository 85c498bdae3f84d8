/-
  DERIVED. GIVEN WITH THE SEED: THE CARDS: each row of YtggobhpjfflooaaDoorRows.lean that lists a variable, with what it lists TIED to the program's text (the seventh form; the later family's looks); each row that meets fmt, with fmt's text TOLD by the authors' own Lean function (tested against real Go, not proved from fmt's source: count such statements apart). THE CARD IS WHAT COUNTS. Prove the row's statement (the work); the ties are given (YtggobhpjfflooaaDoorTie.lean); close each card by the builder's one call (the guide's Derived/Test/ToyasCard.lean, 'card_holds'). Laid BY PROGRAM, IN A SANDBOX (cutbox-door.mjs). By AI agents, Wed Nov 11 2026. No macro, syntax, notation, axiom, sorry.
-/
import Derived.Test.YtggobhpjfflooaaDoorRows
import GoSem.ClaimSeven
namespace Go.Proofs.YtggobhpjfflooaaDoor
namespace Rows

/-- THE TIED CARD OF 'laws.FnBox'. -/
def fnBoxCard : Claim7 := { stood := { row := fnBoxRow, standIns := [], harness := (true, "09d5634d7fc4addcb18505dd186d5581ad8123631b018d0bf7d7139e8ecaaf73"), looks := true }, kinds := [], alts := [], laidByText := true, laidKinds := [.sentinel, .sentinel, .sentinel], laidTests := true, laidLooks := .later }
def FnBoxCardSaid : Prop := Claim7.holds Tryd.pinned (.plain (OpenSpec.ofChange fnBoxSpec)) fnBoxCard

/-- THE TIED CARD OF 'laws.FnExactSealBox'. -/
def fnExactSealBoxCard : Claim7 := { stood := { row := fnExactSealBoxRow, standIns := [], harness := (true, "09d5634d7fc4addcb18505dd186d5581ad8123631b018d0bf7d7139e8ecaaf73"), looks := true }, kinds := [], alts := [], laidByText := true, laidKinds := [.sentinel, .sentinel], laidTests := true, laidLooks := .later }
def FnExactSealBoxCardSaid : Prop := Claim7.holds Tryd.pinned (.plain (OpenSpec.ofChange fnExactSealBoxSpec)) fnExactSealBoxCard

/-- THE TIED CARD OF 'laws.FnExactOpenBox'. -/
def fnExactOpenBoxCard : Claim7 := { stood := { row := fnExactOpenBoxRow, standIns := [], harness := (true, "09d5634d7fc4addcb18505dd186d5581ad8123631b018d0bf7d7139e8ecaaf73"), looks := true }, kinds := [], alts := [], laidByText := true, laidKinds := [.sentinel, .sentinel, .sentinel], laidTests := true, laidLooks := .later }
def FnExactOpenBoxCardSaid : Prop := Claim7.holds Tryd.pinned (.plain (OpenSpec.ofChange fnExactOpenBoxSpec)) fnExactOpenBoxCard

/-- THE TIED CARD OF 'laws.FnExactBoxTag'. -/
def fnExactBoxTagCard : Claim7 := { stood := { row := fnExactBoxTagRow, standIns := [], harness := (true, "09d5634d7fc4addcb18505dd186d5581ad8123631b018d0bf7d7139e8ecaaf73"), looks := true }, kinds := [], alts := [], laidByText := true, laidKinds := [.sentinel, .sentinel], laidTests := true, laidLooks := .later }
def FnExactBoxTagCardSaid : Prop := Claim7.holds Tryd.pinned (.plain (OpenSpec.ofChange fnExactBoxTagSpec)) fnExactBoxTagCard

/-- THE TIED CARD OF 'laws.FnExactNonceOf'. -/
def fnExactNonceOfCard : Claim7 := { stood := { row := fnExactNonceOfRow, standIns := [], harness := (true, "09d5634d7fc4addcb18505dd186d5581ad8123631b018d0bf7d7139e8ecaaf73"), looks := true }, kinds := [], alts := [], laidByText := true, laidKinds := [.handle, .sentinel, .sentinel], laidTests := true, laidLooks := .later }
def FnExactNonceOfCardSaid : Prop := Claim7.holds Tryd.pinned (.plain (OpenSpec.ofChange fnExactNonceOfSpec)) fnExactNonceOfCard

/-- THE TIED CARD OF 'laws.FnExactSealAt'. -/
def fnExactSealAtCard : Claim7 := { stood := { row := fnExactSealAtRow, standIns := [], harness := (true, "09d5634d7fc4addcb18505dd186d5581ad8123631b018d0bf7d7139e8ecaaf73"), looks := true }, kinds := [], alts := [], laidByText := true, laidKinds := [.handle, .sentinel, .sentinel], laidTests := true, laidLooks := .later }
def FnExactSealAtCardSaid : Prop := Claim7.holds Tryd.pinned (.plain (OpenSpec.ofChange fnExactSealAtSpec)) fnExactSealAtCard

/-- THE TIED CARD OF 'laws.FnExactIntsText'. -/
def fnExactIntsTextCard : Claim7 := { stood := { row := fnExactIntsTextRow, standIns := [], harness := (true, "09d5634d7fc4addcb18505dd186d5581ad8123631b018d0bf7d7139e8ecaaf73"), looks := true }, kinds := [], alts := [], laidByText := true, laidKinds := [.handle, .sentinel, .sentinel], laidTests := true, laidLooks := .later }
def FnExactIntsTextCardSaid : Prop := Claim7.holds Tryd.pinned (.plain (OpenSpec.ofChange fnExactIntsTextSpec)) fnExactIntsTextCard

/-- THE TIED CARD OF 'laws.FnExactTextInts'. -/
def fnExactTextIntsCard : Claim7 := { stood := { row := fnExactTextIntsRow, standIns := [], harness := (true, "09d5634d7fc4addcb18505dd186d5581ad8123631b018d0bf7d7139e8ecaaf73"), looks := true }, kinds := [], alts := [], laidByText := true, laidKinds := [.handle, .sentinel, .sentinel], laidTests := true, laidLooks := .later }
def FnExactTextIntsCardSaid : Prop := Claim7.holds Tryd.pinned (.plain (OpenSpec.ofChange fnExactTextIntsSpec)) fnExactTextIntsCard

/-- THE SECOND FORM's CARD OF 'laws.FnBox'. -/
def fnBoxUptoCard : Claim7 := { stood := { row := fnBoxUptoRow, standIns := [], harness := (true, "09d5634d7fc4addcb18505dd186d5581ad8123631b018d0bf7d7139e8ecaaf73"), looks := true }, kinds := [], alts := [], laidByText := true, laidKinds := [.sentinel, .sentinel, .sentinel], laidTests := true, laidLooks := .later }
def FnBoxUptoCardSaid : Prop := Claim7.holds Tryd.pinned (.plain (OpenSpec.upto fnBoxSpec)) fnBoxUptoCard

/-- THE SECOND FORM's CARD OF 'laws.FnExactSealBox'. -/
def fnExactSealBoxUptoCard : Claim7 := { stood := { row := fnExactSealBoxUptoRow, standIns := [], harness := (true, "09d5634d7fc4addcb18505dd186d5581ad8123631b018d0bf7d7139e8ecaaf73"), looks := true }, kinds := [], alts := [], laidByText := true, laidKinds := [.sentinel, .sentinel], laidTests := true, laidLooks := .later }
def FnExactSealBoxUptoCardSaid : Prop := Claim7.holds Tryd.pinned (.plain (OpenSpec.upto fnExactSealBoxSpec)) fnExactSealBoxUptoCard

/-- THE SECOND FORM's CARD OF 'laws.FnExactOpenBox'. -/
def fnExactOpenBoxUptoCard : Claim7 := { stood := { row := fnExactOpenBoxUptoRow, standIns := [], harness := (true, "09d5634d7fc4addcb18505dd186d5581ad8123631b018d0bf7d7139e8ecaaf73"), looks := true }, kinds := [], alts := [], laidByText := true, laidKinds := [.sentinel, .sentinel, .sentinel], laidTests := true, laidLooks := .later }
def FnExactOpenBoxUptoCardSaid : Prop := Claim7.holds Tryd.pinned (.plain (OpenSpec.upto fnExactOpenBoxSpec)) fnExactOpenBoxUptoCard

/-- THE SECOND FORM's CARD OF 'laws.FnExactBoxTag'. -/
def fnExactBoxTagUptoCard : Claim7 := { stood := { row := fnExactBoxTagUptoRow, standIns := [], harness := (true, "09d5634d7fc4addcb18505dd186d5581ad8123631b018d0bf7d7139e8ecaaf73"), looks := true }, kinds := [], alts := [], laidByText := true, laidKinds := [.sentinel, .sentinel], laidTests := true, laidLooks := .later }
def FnExactBoxTagUptoCardSaid : Prop := Claim7.holds Tryd.pinned (.plain (OpenSpec.upto fnExactBoxTagSpec)) fnExactBoxTagUptoCard

/-- THE SECOND FORM's CARD OF 'laws.FnExactNonceOf'. -/
def fnExactNonceOfUptoCard : Claim7 := { stood := { row := fnExactNonceOfUptoRow, standIns := [], harness := (true, "09d5634d7fc4addcb18505dd186d5581ad8123631b018d0bf7d7139e8ecaaf73"), looks := true }, kinds := [], alts := [], laidByText := true, laidKinds := [.handle, .sentinel, .sentinel], laidTests := true, laidLooks := .later }
def FnExactNonceOfUptoCardSaid : Prop := Claim7.holds Tryd.pinned (.plain (OpenSpec.upto fnExactNonceOfSpec)) fnExactNonceOfUptoCard

/-- THE SECOND FORM's CARD OF 'laws.FnExactSealAt'. -/
def fnExactSealAtUptoCard : Claim7 := { stood := { row := fnExactSealAtUptoRow, standIns := [], harness := (true, "09d5634d7fc4addcb18505dd186d5581ad8123631b018d0bf7d7139e8ecaaf73"), looks := true }, kinds := [], alts := [], laidByText := true, laidKinds := [.handle, .sentinel, .sentinel], laidTests := true, laidLooks := .later }
def FnExactSealAtUptoCardSaid : Prop := Claim7.holds Tryd.pinned (.plain (OpenSpec.upto fnExactSealAtSpec)) fnExactSealAtUptoCard

/-- THE SECOND FORM's CARD OF 'laws.FnExactIntsText'. -/
def fnExactIntsTextUptoCard : Claim7 := { stood := { row := fnExactIntsTextUptoRow, standIns := [], harness := (true, "09d5634d7fc4addcb18505dd186d5581ad8123631b018d0bf7d7139e8ecaaf73"), looks := true }, kinds := [], alts := [], laidByText := true, laidKinds := [.handle, .sentinel, .sentinel], laidTests := true, laidLooks := .later }
def FnExactIntsTextUptoCardSaid : Prop := Claim7.holds Tryd.pinned (.plain (OpenSpec.upto fnExactIntsTextSpec)) fnExactIntsTextUptoCard

/-- THE SECOND FORM's CARD OF 'laws.FnExactTextInts'. -/
def fnExactTextIntsUptoCard : Claim7 := { stood := { row := fnExactTextIntsUptoRow, standIns := [], harness := (true, "09d5634d7fc4addcb18505dd186d5581ad8123631b018d0bf7d7139e8ecaaf73"), looks := true }, kinds := [], alts := [], laidByText := true, laidKinds := [.handle, .sentinel, .sentinel], laidTests := true, laidLooks := .later }
def FnExactTextIntsUptoCardSaid : Prop := Claim7.holds Tryd.pinned (.plain (OpenSpec.upto fnExactTextIntsSpec)) fnExactTextIntsUptoCard
end Rows
end Go.Proofs.YtggobhpjfflooaaDoor
