/-
  DERIVED. GIVEN WITH THE SEED: THE CARDS: each row of YtnhpamfmbledmaaDoorRows.lean that lists a variable, with what it lists TIED to the program's text (the seventh form; the later family's looks); each row that meets fmt, with fmt's text TOLD by the authors' own Lean function (tested against real Go, not proved from fmt's source: count such statements apart). THE CARD IS WHAT COUNTS. Prove the row's statement (the work); the ties are given (YtnhpamfmbledmaaDoorTie.lean); close each card by the builder's one call (the guide's Derived/Test/ToyasCard.lean, 'card_holds'). Laid BY PROGRAM, IN A SANDBOX (cutbox-door.mjs). By AI agents, Wed Nov 11 2026. No macro, syntax, notation, axiom, sorry.
-/
import Derived.Test.YtnhpamfmbledmaaDoorRows
import GoSem.ClaimSeven
namespace Go.Proofs.YtnhpamfmbledmaaDoor
namespace Rows

/-- THE TIED CARD OF 'hypogeumlaw05.CipherBlocks'. -/
def cipherBlocksCard : Claim7 := { stood := { row := cipherBlocksRow, standIns := [], harness := (true, "85ec9d79bdced9898cfac56c08deb7ef87c6fae120e0828565aee42682de06f7"), looks := false }, kinds := [], alts := [], laidByText := true, laidKinds := [.data], laidTests := true, laidLooks := .later }
def CipherBlocksCardSaid : Prop := Claim7.holds Tryd.pinned (.plain (OpenSpec.ofChange cipherBlocksSpec)) cipherBlocksCard

/-- THE TIED CARD OF 'hypogeumlaw05.CipherGives'. -/
def cipherGivesCard : Claim7 := { stood := { row := cipherGivesRow, standIns := [], harness := (true, "85ec9d79bdced9898cfac56c08deb7ef87c6fae120e0828565aee42682de06f7"), looks := false }, kinds := [], alts := [], laidByText := true, laidKinds := [.data], laidTests := true, laidLooks := .later }
def CipherGivesCardSaid : Prop := Claim7.holds Tryd.pinned (.plain (OpenSpec.ofChange cipherGivesSpec)) cipherGivesCard

/-- THE TIED CARD OF 'hypogeumlaw05.CipherMixes'. -/
def cipherMixesCard : Claim7 := { stood := { row := cipherMixesRow, standIns := [], harness := (true, "85ec9d79bdced9898cfac56c08deb7ef87c6fae120e0828565aee42682de06f7"), looks := false }, kinds := [], alts := [], laidByText := true, laidKinds := [.data], laidTests := true, laidLooks := .later }
def CipherMixesCardSaid : Prop := Claim7.holds Tryd.pinned (.plain (OpenSpec.ofChange cipherMixesSpec)) cipherMixesCard

/-- THE TIED CARD OF 'hypogeumlaw05.CipherTwice'. -/
def cipherTwiceCard : Claim7 := { stood := { row := cipherTwiceRow, standIns := [], harness := (true, "85ec9d79bdced9898cfac56c08deb7ef87c6fae120e0828565aee42682de06f7"), looks := false }, kinds := [], alts := [], laidByText := true, laidKinds := [.data], laidTests := true, laidLooks := .later }
def CipherTwiceCardSaid : Prop := Claim7.holds Tryd.pinned (.plain (OpenSpec.ofChange cipherTwiceSpec)) cipherTwiceCard

/-- THE TIED CARD OF 'hypogeumlaw05.CipherParts'. -/
def cipherPartsCard : Claim7 := { stood := { row := cipherPartsRow, standIns := [], harness := (true, "85ec9d79bdced9898cfac56c08deb7ef87c6fae120e0828565aee42682de06f7"), looks := false }, kinds := [], alts := [], laidByText := true, laidKinds := [.data], laidTests := true, laidLooks := .later }
def CipherPartsCardSaid : Prop := Claim7.holds Tryd.pinned (.plain (OpenSpec.ofChange cipherPartsSpec)) cipherPartsCard

/-- THE SECOND FORM's CARD OF 'hypogeumlaw05.CipherBlocks'. -/
def cipherBlocksUptoCard : Claim7 := { stood := { row := cipherBlocksUptoRow, standIns := [], harness := (true, "85ec9d79bdced9898cfac56c08deb7ef87c6fae120e0828565aee42682de06f7"), looks := false }, kinds := [], alts := [], laidByText := true, laidKinds := [.data], laidTests := true, laidLooks := .later }
def CipherBlocksUptoCardSaid : Prop := Claim7.holds Tryd.pinned (.plain (OpenSpec.upto cipherBlocksSpec)) cipherBlocksUptoCard

/-- THE SECOND FORM's CARD OF 'hypogeumlaw05.CipherGives'. -/
def cipherGivesUptoCard : Claim7 := { stood := { row := cipherGivesUptoRow, standIns := [], harness := (true, "85ec9d79bdced9898cfac56c08deb7ef87c6fae120e0828565aee42682de06f7"), looks := false }, kinds := [], alts := [], laidByText := true, laidKinds := [.data], laidTests := true, laidLooks := .later }
def CipherGivesUptoCardSaid : Prop := Claim7.holds Tryd.pinned (.plain (OpenSpec.upto cipherGivesSpec)) cipherGivesUptoCard

/-- THE SECOND FORM's CARD OF 'hypogeumlaw05.CipherMixes'. -/
def cipherMixesUptoCard : Claim7 := { stood := { row := cipherMixesUptoRow, standIns := [], harness := (true, "85ec9d79bdced9898cfac56c08deb7ef87c6fae120e0828565aee42682de06f7"), looks := false }, kinds := [], alts := [], laidByText := true, laidKinds := [.data], laidTests := true, laidLooks := .later }
def CipherMixesUptoCardSaid : Prop := Claim7.holds Tryd.pinned (.plain (OpenSpec.upto cipherMixesSpec)) cipherMixesUptoCard

/-- THE SECOND FORM's CARD OF 'hypogeumlaw05.CipherTwice'. -/
def cipherTwiceUptoCard : Claim7 := { stood := { row := cipherTwiceUptoRow, standIns := [], harness := (true, "85ec9d79bdced9898cfac56c08deb7ef87c6fae120e0828565aee42682de06f7"), looks := false }, kinds := [], alts := [], laidByText := true, laidKinds := [.data], laidTests := true, laidLooks := .later }
def CipherTwiceUptoCardSaid : Prop := Claim7.holds Tryd.pinned (.plain (OpenSpec.upto cipherTwiceSpec)) cipherTwiceUptoCard

/-- THE SECOND FORM's CARD OF 'hypogeumlaw05.CipherParts'. -/
def cipherPartsUptoCard : Claim7 := { stood := { row := cipherPartsUptoRow, standIns := [], harness := (true, "85ec9d79bdced9898cfac56c08deb7ef87c6fae120e0828565aee42682de06f7"), looks := false }, kinds := [], alts := [], laidByText := true, laidKinds := [.data], laidTests := true, laidLooks := .later }
def CipherPartsUptoCardSaid : Prop := Claim7.holds Tryd.pinned (.plain (OpenSpec.upto cipherPartsSpec)) cipherPartsUptoCard
end Rows
end Go.Proofs.YtnhpamfmbledmaaDoor
