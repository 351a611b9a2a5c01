/-
  DERIVED. GIVEN WITH THE SEED: THE CARDS: each row of YtgafdlcncojeoaaDoorRows.lean that lists a variable, with what it lists TIED to the program's text (the seventh form; the later family's looks); each row that meets fmt, with fmt's text TOLD by the authors' own Lean function (tested against real Go, not proved from fmt's source: count such statements apart). THE CARD IS WHAT COUNTS. Prove the row's statement (the work); the ties are given (YtgafdlcncojeoaaDoorTie.lean); close each card by the builder's one call (the guide's Derived/Test/ToyasCard.lean, 'card_holds'). Laid BY PROGRAM, IN A SANDBOX (cutbox-door.mjs). By AI agents, Wed Nov 11 2026. No macro, syntax, notation, axiom, sorry.
-/
import Derived.Test.YtgafdlcncojeoaaDoorRows
import GoSem.ClaimSeven
namespace Go.Proofs.YtgafdlcncojeoaaDoor
namespace Rows

/-- THE TIED CARD OF 'hypogeumlaw07.BoxSeals'. -/
def boxSealsCard : Claim7 := { stood := { row := boxSealsRow, standIns := [], harness := (true, "2b91f75d96384eb04f43380e7d23ba3efa932cabc7a3303f809425d9fe82ca40"), looks := false }, kinds := [], alts := [], laidByText := true, laidKinds := [.data], laidTests := true, laidLooks := .later }
def BoxSealsCardSaid : Prop := Claim7.holds Tryd.pinned (.plain (OpenSpec.ofChange boxSealsSpec)) boxSealsCard

/-- THE TIED CARD OF 'hypogeumlaw07.BoxOpens'. -/
def boxOpensCard : Claim7 := { stood := { row := boxOpensRow, standIns := [], harness := (true, "2b91f75d96384eb04f43380e7d23ba3efa932cabc7a3303f809425d9fe82ca40"), looks := false }, kinds := [], alts := [], laidByText := true, laidKinds := [.data], laidTests := true, laidLooks := .later }
def BoxOpensCardSaid : Prop := Claim7.holds Tryd.pinned (.plain (OpenSpec.ofChange boxOpensSpec)) boxOpensCard

/-- THE TIED CARD OF 'hypogeumlaw07.BoxBack'. -/
def boxBackCard : Claim7 := { stood := { row := boxBackRow, standIns := [], harness := (true, "2b91f75d96384eb04f43380e7d23ba3efa932cabc7a3303f809425d9fe82ca40"), looks := false }, kinds := [], alts := [], laidByText := true, laidKinds := [.data], laidTests := true, laidLooks := .later }
def BoxBackCardSaid : Prop := Claim7.holds Tryd.pinned (.plain (OpenSpec.ofChange boxBackSpec)) boxBackCard

/-- THE TIED CARD OF 'hypogeumlaw07.BoxForm'. -/
def boxFormCard : Claim7 := { stood := { row := boxFormRow, standIns := [], harness := (true, "2b91f75d96384eb04f43380e7d23ba3efa932cabc7a3303f809425d9fe82ca40"), looks := false }, kinds := [], alts := [], laidByText := true, laidKinds := [.data], laidTests := true, laidLooks := .later }
def BoxFormCardSaid : Prop := Claim7.holds Tryd.pinned (.plain (OpenSpec.ofChange boxFormSpec)) boxFormCard

/-- THE SECOND FORM's CARD OF 'hypogeumlaw07.BoxSeals'. -/
def boxSealsUptoCard : Claim7 := { stood := { row := boxSealsUptoRow, standIns := [], harness := (true, "2b91f75d96384eb04f43380e7d23ba3efa932cabc7a3303f809425d9fe82ca40"), looks := false }, kinds := [], alts := [], laidByText := true, laidKinds := [.data], laidTests := true, laidLooks := .later }
def BoxSealsUptoCardSaid : Prop := Claim7.holds Tryd.pinned (.plain (OpenSpec.upto boxSealsSpec)) boxSealsUptoCard

/-- THE SECOND FORM's CARD OF 'hypogeumlaw07.BoxOpens'. -/
def boxOpensUptoCard : Claim7 := { stood := { row := boxOpensUptoRow, standIns := [], harness := (true, "2b91f75d96384eb04f43380e7d23ba3efa932cabc7a3303f809425d9fe82ca40"), looks := false }, kinds := [], alts := [], laidByText := true, laidKinds := [.data], laidTests := true, laidLooks := .later }
def BoxOpensUptoCardSaid : Prop := Claim7.holds Tryd.pinned (.plain (OpenSpec.upto boxOpensSpec)) boxOpensUptoCard

/-- THE SECOND FORM's CARD OF 'hypogeumlaw07.BoxBack'. -/
def boxBackUptoCard : Claim7 := { stood := { row := boxBackUptoRow, standIns := [], harness := (true, "2b91f75d96384eb04f43380e7d23ba3efa932cabc7a3303f809425d9fe82ca40"), looks := false }, kinds := [], alts := [], laidByText := true, laidKinds := [.data], laidTests := true, laidLooks := .later }
def BoxBackUptoCardSaid : Prop := Claim7.holds Tryd.pinned (.plain (OpenSpec.upto boxBackSpec)) boxBackUptoCard

/-- THE SECOND FORM's CARD OF 'hypogeumlaw07.BoxForm'. -/
def boxFormUptoCard : Claim7 := { stood := { row := boxFormUptoRow, standIns := [], harness := (true, "2b91f75d96384eb04f43380e7d23ba3efa932cabc7a3303f809425d9fe82ca40"), looks := false }, kinds := [], alts := [], laidByText := true, laidKinds := [.data], laidTests := true, laidLooks := .later }
def BoxFormUptoCardSaid : Prop := Claim7.holds Tryd.pinned (.plain (OpenSpec.upto boxFormSpec)) boxFormUptoCard
end Rows
end Go.Proofs.YtgafdlcncojeoaaDoor
