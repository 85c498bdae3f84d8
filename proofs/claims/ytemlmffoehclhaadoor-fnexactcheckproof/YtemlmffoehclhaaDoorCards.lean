/-
  DERIVED. GIVEN WITH THE SEED: THE CARDS: each row of YtemlmffoehclhaaDoorRows.lean that lists a variable, with what it lists TIED to the program's text (the seventh form; the later family's looks); each row that meets fmt, with fmt's text TOLD by the authors' own Lean function (tested against real Go, not proved from fmt's source: count such statements apart). THE CARD IS WHAT COUNTS. Prove the row's statement (the work); the ties are given (YtemlmffoehclhaaDoorTie.lean); close each card by the builder's one call (the guide's Derived/Test/ToyasCard.lean, 'card_holds'). Laid BY PROGRAM, IN A SANDBOX (cutbox-door.mjs). By AI agents, Wed Nov 11 2026. No macro, syntax, notation, axiom, sorry.
-/
import Derived.Test.YtemlmffoehclhaaDoorRows
import GoSem.ClaimSeven
namespace Go.Proofs.YtemlmffoehclhaaDoor
namespace Rows

/-- THE TIED CARD OF 'laws.FnHash'. -/
def fnHashCard : Claim7 := { stood := { row := fnHashRow, standIns := [], harness := (true, "b1ca9b37f8fc2aa1d55336292e1e762a2fb520722731e6e55dc12bc7013720c1"), looks := false }, kinds := [], alts := [], laidByText := true, laidKinds := [.data], laidTests := true, laidLooks := .later }
def FnHashCardSaid : Prop := Claim7.holds Tryd.pinned (.plain (OpenSpec.ofChange fnHashSpec)) fnHashCard

/-- THE TIED CARD OF 'laws.FnProof'. -/
def fnProofCard : Claim7 := { stood := { row := fnProofRow, standIns := [], harness := (true, "b1ca9b37f8fc2aa1d55336292e1e762a2fb520722731e6e55dc12bc7013720c1"), looks := false }, kinds := [], alts := [], laidByText := true, laidKinds := [.data], laidTests := true, laidLooks := .later }
def FnProofCardSaid : Prop := Claim7.holds Tryd.pinned (.plain (OpenSpec.ofChange fnProofSpec)) fnProofCard

/-- THE TIED CARD OF 'laws.FnExactHashSum'. -/
def fnExactHashSumCard : Claim7 := { stood := { row := fnExactHashSumRow, standIns := [], harness := (true, "b1ca9b37f8fc2aa1d55336292e1e762a2fb520722731e6e55dc12bc7013720c1"), looks := false }, kinds := [], alts := [], laidByText := true, laidKinds := [.data], laidTests := true, laidLooks := .later }
def FnExactHashSumCardSaid : Prop := Claim7.holds Tryd.pinned (.plain (OpenSpec.ofChange fnExactHashSumSpec)) fnExactHashSumCard

/-- THE TIED CARD OF 'laws.FnExactHashOf'. -/
def fnExactHashOfCard : Claim7 := { stood := { row := fnExactHashOfRow, standIns := [], harness := (true, "b1ca9b37f8fc2aa1d55336292e1e762a2fb520722731e6e55dc12bc7013720c1"), looks := false }, kinds := [], alts := [], laidByText := true, laidKinds := [.data], laidTests := true, laidLooks := .later }
def FnExactHashOfCardSaid : Prop := Claim7.holds Tryd.pinned (.plain (OpenSpec.ofChange fnExactHashOfSpec)) fnExactHashOfCard

/-- THE TIED CARD OF 'laws.FnExactLeafDigest'. -/
def fnExactLeafDigestCard : Claim7 := { stood := { row := fnExactLeafDigestRow, standIns := [], harness := (true, "b1ca9b37f8fc2aa1d55336292e1e762a2fb520722731e6e55dc12bc7013720c1"), looks := false }, kinds := [], alts := [], laidByText := true, laidKinds := [.data], laidTests := true, laidLooks := .later }
def FnExactLeafDigestCardSaid : Prop := Claim7.holds Tryd.pinned (.plain (OpenSpec.ofChange fnExactLeafDigestSpec)) fnExactLeafDigestCard

/-- THE TIED CARD OF 'laws.FnExactJoinDigests'. -/
def fnExactJoinDigestsCard : Claim7 := { stood := { row := fnExactJoinDigestsRow, standIns := [], harness := (true, "b1ca9b37f8fc2aa1d55336292e1e762a2fb520722731e6e55dc12bc7013720c1"), looks := false }, kinds := [], alts := [], laidByText := true, laidKinds := [.data], laidTests := true, laidLooks := .later }
def FnExactJoinDigestsCardSaid : Prop := Claim7.holds Tryd.pinned (.plain (OpenSpec.ofChange fnExactJoinDigestsSpec)) fnExactJoinDigestsCard

/-- THE TIED CARD OF 'laws.FnExactRootOf'. -/
def fnExactRootOfCard : Claim7 := { stood := { row := fnExactRootOfRow, standIns := [], harness := (true, "b1ca9b37f8fc2aa1d55336292e1e762a2fb520722731e6e55dc12bc7013720c1"), looks := false }, kinds := [], alts := [], laidByText := true, laidKinds := [.data], laidTests := true, laidLooks := .later }
def FnExactRootOfCardSaid : Prop := Claim7.holds Tryd.pinned (.plain (OpenSpec.ofChange fnExactRootOfSpec)) fnExactRootOfCard

/-- THE TIED CARD OF 'laws.FnExactProofOf'. -/
def fnExactProofOfCard : Claim7 := { stood := { row := fnExactProofOfRow, standIns := [], harness := (true, "b1ca9b37f8fc2aa1d55336292e1e762a2fb520722731e6e55dc12bc7013720c1"), looks := false }, kinds := [], alts := [], laidByText := true, laidKinds := [.data], laidTests := true, laidLooks := .later }
def FnExactProofOfCardSaid : Prop := Claim7.holds Tryd.pinned (.plain (OpenSpec.ofChange fnExactProofOfSpec)) fnExactProofOfCard

/-- THE TIED CARD OF 'laws.FnExactCheckProof'. -/
def fnExactCheckProofCard : Claim7 := { stood := { row := fnExactCheckProofRow, standIns := [], harness := (true, "b1ca9b37f8fc2aa1d55336292e1e762a2fb520722731e6e55dc12bc7013720c1"), looks := false }, kinds := [], alts := [], laidByText := true, laidKinds := [.data], laidTests := true, laidLooks := .later }
def FnExactCheckProofCardSaid : Prop := Claim7.holds Tryd.pinned (.plain (OpenSpec.ofChange fnExactCheckProofSpec)) fnExactCheckProofCard

/-- THE TIED CARD OF 'laws.FnExactChainTip'. -/
def fnExactChainTipCard : Claim7 := { stood := { row := fnExactChainTipRow, standIns := [], harness := (true, "b1ca9b37f8fc2aa1d55336292e1e762a2fb520722731e6e55dc12bc7013720c1"), looks := false }, kinds := [], alts := [], laidByText := true, laidKinds := [.data], laidTests := true, laidLooks := .later }
def FnExactChainTipCardSaid : Prop := Claim7.holds Tryd.pinned (.plain (OpenSpec.ofChange fnExactChainTipSpec)) fnExactChainTipCard

/-- THE SECOND FORM's CARD OF 'laws.FnHash'. -/
def fnHashUptoCard : Claim7 := { stood := { row := fnHashUptoRow, standIns := [], harness := (true, "b1ca9b37f8fc2aa1d55336292e1e762a2fb520722731e6e55dc12bc7013720c1"), looks := false }, kinds := [], alts := [], laidByText := true, laidKinds := [.data], laidTests := true, laidLooks := .later }
def FnHashUptoCardSaid : Prop := Claim7.holds Tryd.pinned (.plain (OpenSpec.upto fnHashSpec)) fnHashUptoCard

/-- THE SECOND FORM's CARD OF 'laws.FnProof'. -/
def fnProofUptoCard : Claim7 := { stood := { row := fnProofUptoRow, standIns := [], harness := (true, "b1ca9b37f8fc2aa1d55336292e1e762a2fb520722731e6e55dc12bc7013720c1"), looks := false }, kinds := [], alts := [], laidByText := true, laidKinds := [.data], laidTests := true, laidLooks := .later }
def FnProofUptoCardSaid : Prop := Claim7.holds Tryd.pinned (.plain (OpenSpec.upto fnProofSpec)) fnProofUptoCard

/-- THE SECOND FORM's CARD OF 'laws.FnExactHashSum'. -/
def fnExactHashSumUptoCard : Claim7 := { stood := { row := fnExactHashSumUptoRow, standIns := [], harness := (true, "b1ca9b37f8fc2aa1d55336292e1e762a2fb520722731e6e55dc12bc7013720c1"), looks := false }, kinds := [], alts := [], laidByText := true, laidKinds := [.data], laidTests := true, laidLooks := .later }
def FnExactHashSumUptoCardSaid : Prop := Claim7.holds Tryd.pinned (.plain (OpenSpec.upto fnExactHashSumSpec)) fnExactHashSumUptoCard

/-- THE SECOND FORM's CARD OF 'laws.FnExactHashOf'. -/
def fnExactHashOfUptoCard : Claim7 := { stood := { row := fnExactHashOfUptoRow, standIns := [], harness := (true, "b1ca9b37f8fc2aa1d55336292e1e762a2fb520722731e6e55dc12bc7013720c1"), looks := false }, kinds := [], alts := [], laidByText := true, laidKinds := [.data], laidTests := true, laidLooks := .later }
def FnExactHashOfUptoCardSaid : Prop := Claim7.holds Tryd.pinned (.plain (OpenSpec.upto fnExactHashOfSpec)) fnExactHashOfUptoCard

/-- THE SECOND FORM's CARD OF 'laws.FnExactLeafDigest'. -/
def fnExactLeafDigestUptoCard : Claim7 := { stood := { row := fnExactLeafDigestUptoRow, standIns := [], harness := (true, "b1ca9b37f8fc2aa1d55336292e1e762a2fb520722731e6e55dc12bc7013720c1"), looks := false }, kinds := [], alts := [], laidByText := true, laidKinds := [.data], laidTests := true, laidLooks := .later }
def FnExactLeafDigestUptoCardSaid : Prop := Claim7.holds Tryd.pinned (.plain (OpenSpec.upto fnExactLeafDigestSpec)) fnExactLeafDigestUptoCard

/-- THE SECOND FORM's CARD OF 'laws.FnExactJoinDigests'. -/
def fnExactJoinDigestsUptoCard : Claim7 := { stood := { row := fnExactJoinDigestsUptoRow, standIns := [], harness := (true, "b1ca9b37f8fc2aa1d55336292e1e762a2fb520722731e6e55dc12bc7013720c1"), looks := false }, kinds := [], alts := [], laidByText := true, laidKinds := [.data], laidTests := true, laidLooks := .later }
def FnExactJoinDigestsUptoCardSaid : Prop := Claim7.holds Tryd.pinned (.plain (OpenSpec.upto fnExactJoinDigestsSpec)) fnExactJoinDigestsUptoCard

/-- THE SECOND FORM's CARD OF 'laws.FnExactRootOf'. -/
def fnExactRootOfUptoCard : Claim7 := { stood := { row := fnExactRootOfUptoRow, standIns := [], harness := (true, "b1ca9b37f8fc2aa1d55336292e1e762a2fb520722731e6e55dc12bc7013720c1"), looks := false }, kinds := [], alts := [], laidByText := true, laidKinds := [.data], laidTests := true, laidLooks := .later }
def FnExactRootOfUptoCardSaid : Prop := Claim7.holds Tryd.pinned (.plain (OpenSpec.upto fnExactRootOfSpec)) fnExactRootOfUptoCard

/-- THE SECOND FORM's CARD OF 'laws.FnExactProofOf'. -/
def fnExactProofOfUptoCard : Claim7 := { stood := { row := fnExactProofOfUptoRow, standIns := [], harness := (true, "b1ca9b37f8fc2aa1d55336292e1e762a2fb520722731e6e55dc12bc7013720c1"), looks := false }, kinds := [], alts := [], laidByText := true, laidKinds := [.data], laidTests := true, laidLooks := .later }
def FnExactProofOfUptoCardSaid : Prop := Claim7.holds Tryd.pinned (.plain (OpenSpec.upto fnExactProofOfSpec)) fnExactProofOfUptoCard

/-- THE SECOND FORM's CARD OF 'laws.FnExactCheckProof'. -/
def fnExactCheckProofUptoCard : Claim7 := { stood := { row := fnExactCheckProofUptoRow, standIns := [], harness := (true, "b1ca9b37f8fc2aa1d55336292e1e762a2fb520722731e6e55dc12bc7013720c1"), looks := false }, kinds := [], alts := [], laidByText := true, laidKinds := [.data], laidTests := true, laidLooks := .later }
def FnExactCheckProofUptoCardSaid : Prop := Claim7.holds Tryd.pinned (.plain (OpenSpec.upto fnExactCheckProofSpec)) fnExactCheckProofUptoCard

/-- THE SECOND FORM's CARD OF 'laws.FnExactChainTip'. -/
def fnExactChainTipUptoCard : Claim7 := { stood := { row := fnExactChainTipUptoRow, standIns := [], harness := (true, "b1ca9b37f8fc2aa1d55336292e1e762a2fb520722731e6e55dc12bc7013720c1"), looks := false }, kinds := [], alts := [], laidByText := true, laidKinds := [.data], laidTests := true, laidLooks := .later }
def FnExactChainTipUptoCardSaid : Prop := Claim7.holds Tryd.pinned (.plain (OpenSpec.upto fnExactChainTipSpec)) fnExactChainTipUptoCard
end Rows
end Go.Proofs.YtemlmffoehclhaaDoor
