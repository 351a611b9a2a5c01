/-
  DERIVED. GIVEN WITH THE SEED: THE CARDS: each row of YtfmbilnbbpbpeaaDoorRows.lean that lists a variable, with what it lists TIED to the program's text (the seventh form; the later family's looks); each row that meets fmt, with fmt's text TOLD by the authors' own Lean function (tested against real Go, not proved from fmt's source: count such statements apart). THE CARD IS WHAT COUNTS. Prove the row's statement (the work); the ties are given (YtfmbilnbbpbpeaaDoorTie.lean); close each card by the builder's one call (the guide's Derived/Test/ToyasCard.lean, 'card_holds'). Laid BY PROGRAM, IN A SANDBOX (cutbox-door.mjs). By AI agents, Wed Nov 11 2026. No macro, syntax, notation, axiom, sorry.
-/
import Derived.Test.YtfmbilnbbpbpeaaDoorRows
import GoSem.ClaimSeven
namespace Go.Proofs.YtfmbilnbbpbpeaaDoor
namespace Rows

/-- THE TIED CARD OF 'hypogeumlaw04.StretchKeys'. -/
def stretchKeysCard : Claim7 := { stood := { row := stretchKeysRow, standIns := [], harness := (true, "0c908daab1823fd3b1c1d162f6d2be54f18a5f839e5af0d7dbfc64c13b7aa74c"), looks := false }, kinds := [], alts := [], laidByText := true, laidKinds := [.data, .data], laidTests := true, laidLooks := .later }
def StretchKeysCardSaid : Prop := Claim7.holds Tryd.pinned (.plain (OpenSpec.ofChange stretchKeysSpec)) stretchKeysCard

/-- THE TIED CARD OF 'hypogeumlaw04.StretchBegins'. -/
def stretchBeginsCard : Claim7 := { stood := { row := stretchBeginsRow, standIns := [], harness := (true, "0c908daab1823fd3b1c1d162f6d2be54f18a5f839e5af0d7dbfc64c13b7aa74c"), looks := false }, kinds := [], alts := [], laidByText := true, laidKinds := [.data, .data], laidTests := true, laidLooks := .later }
def StretchBeginsCardSaid : Prop := Claim7.holds Tryd.pinned (.plain (OpenSpec.ofChange stretchBeginsSpec)) stretchBeginsCard

/-- THE TIED CARD OF 'hypogeumlaw04.StretchRounds'. -/
def stretchRoundsCard : Claim7 := { stood := { row := stretchRoundsRow, standIns := [], harness := (true, "0c908daab1823fd3b1c1d162f6d2be54f18a5f839e5af0d7dbfc64c13b7aa74c"), looks := false }, kinds := [], alts := [], laidByText := true, laidKinds := [.data, .data], laidTests := true, laidLooks := .later }
def StretchRoundsCardSaid : Prop := Claim7.holds Tryd.pinned (.plain (OpenSpec.ofChange stretchRoundsSpec)) stretchRoundsCard

/-- THE TIED CARD OF 'hypogeumlaw04.StretchWhole'. -/
def stretchWholeCard : Claim7 := { stood := { row := stretchWholeRow, standIns := [], harness := (true, "0c908daab1823fd3b1c1d162f6d2be54f18a5f839e5af0d7dbfc64c13b7aa74c"), looks := false }, kinds := [], alts := [], laidByText := true, laidKinds := [.data, .data], laidTests := true, laidLooks := .later }
def StretchWholeCardSaid : Prop := Claim7.holds Tryd.pinned (.plain (OpenSpec.ofChange stretchWholeSpec)) stretchWholeCard

/-- THE SECOND FORM's CARD OF 'hypogeumlaw04.StretchKeys'. -/
def stretchKeysUptoCard : Claim7 := { stood := { row := stretchKeysUptoRow, standIns := [], harness := (true, "0c908daab1823fd3b1c1d162f6d2be54f18a5f839e5af0d7dbfc64c13b7aa74c"), looks := false }, kinds := [], alts := [], laidByText := true, laidKinds := [.data, .data], laidTests := true, laidLooks := .later }
def StretchKeysUptoCardSaid : Prop := Claim7.holds Tryd.pinned (.plain (OpenSpec.upto stretchKeysSpec)) stretchKeysUptoCard

/-- THE SECOND FORM's CARD OF 'hypogeumlaw04.StretchBegins'. -/
def stretchBeginsUptoCard : Claim7 := { stood := { row := stretchBeginsUptoRow, standIns := [], harness := (true, "0c908daab1823fd3b1c1d162f6d2be54f18a5f839e5af0d7dbfc64c13b7aa74c"), looks := false }, kinds := [], alts := [], laidByText := true, laidKinds := [.data, .data], laidTests := true, laidLooks := .later }
def StretchBeginsUptoCardSaid : Prop := Claim7.holds Tryd.pinned (.plain (OpenSpec.upto stretchBeginsSpec)) stretchBeginsUptoCard

/-- THE SECOND FORM's CARD OF 'hypogeumlaw04.StretchRounds'. -/
def stretchRoundsUptoCard : Claim7 := { stood := { row := stretchRoundsUptoRow, standIns := [], harness := (true, "0c908daab1823fd3b1c1d162f6d2be54f18a5f839e5af0d7dbfc64c13b7aa74c"), looks := false }, kinds := [], alts := [], laidByText := true, laidKinds := [.data, .data], laidTests := true, laidLooks := .later }
def StretchRoundsUptoCardSaid : Prop := Claim7.holds Tryd.pinned (.plain (OpenSpec.upto stretchRoundsSpec)) stretchRoundsUptoCard

/-- THE SECOND FORM's CARD OF 'hypogeumlaw04.StretchWhole'. -/
def stretchWholeUptoCard : Claim7 := { stood := { row := stretchWholeUptoRow, standIns := [], harness := (true, "0c908daab1823fd3b1c1d162f6d2be54f18a5f839e5af0d7dbfc64c13b7aa74c"), looks := false }, kinds := [], alts := [], laidByText := true, laidKinds := [.data, .data], laidTests := true, laidLooks := .later }
def StretchWholeUptoCardSaid : Prop := Claim7.holds Tryd.pinned (.plain (OpenSpec.upto stretchWholeSpec)) stretchWholeUptoCard
end Rows
end Go.Proofs.YtfmbilnbbpbpeaaDoor
