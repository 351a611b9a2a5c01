/-
  DERIVED. GIVEN WITH THE SEED: THE CARDS: each row of YtlnoopmblmkgkaaGreatDoorRows.lean that lists a variable, with what it lists TIED to the program's text (the seventh form; the later family's looks); each row that meets fmt, with fmt's text TOLD by the authors' own Lean function (tested against real Go, not proved from fmt's source: count such statements apart). THE CARD IS WHAT COUNTS. Prove the row's statement (the work); the ties are given (YtlnoopmblmkgkaaGreatDoorTie.lean); close each card by the builder's one call (the guide's Derived/Test/ToyasCard.lean, 'card_holds'). Laid BY PROGRAM, IN A SANDBOX (cutbox-door.mjs). By AI agents, Wed Nov 11 2026. No macro, syntax, notation, axiom, sorry.
-/
import Derived.Test.YtlnoopmblmkgkaaGreatDoorRows
import GoSem.ClaimSeven
namespace Go.Proofs.YtlnoopmblmkgkaaGreatDoor
namespace Rows

/-- THE TIED CARD OF 'hypogeumlaw11.KeyfileMakes'. -/
def keyfileMakesCard : Claim7 := { stood := { row := keyfileMakesRow, standIns := [], harness := (true, "45b8e0d32107efecb7a326f9a63c23f89e0d71fd112812eb8f3a7ef08feed4fd"), looks := false }, kinds := [], alts := [], laidByText := true, laidKinds := [.data, .data, .data], laidTests := true, laidLooks := .later }
def KeyfileMakesCardSaid : Prop := Claim7.holds Tryz.pinned (.plain (OpenSpec.ofChange keyfileMakesSpec)) keyfileMakesCard

/-- THE TIED CARD OF 'hypogeumlaw11.KeyfileOpens'. -/
def keyfileOpensCard : Claim7 := { stood := { row := keyfileOpensRow, standIns := [], harness := (true, "45b8e0d32107efecb7a326f9a63c23f89e0d71fd112812eb8f3a7ef08feed4fd"), looks := false }, kinds := [], alts := [], laidByText := true, laidKinds := [.data, .data, .data], laidTests := true, laidLooks := .later }
def KeyfileOpensCardSaid : Prop := Claim7.holds Tryz.pinned (.plain (OpenSpec.ofChange keyfileOpensSpec)) keyfileOpensCard

/-- THE TIED CARD OF 'hypogeumlaw11.KeyfileForeign'. -/
def keyfileForeignCard : Claim7 := { stood := { row := keyfileForeignRow, standIns := [], harness := (true, "45b8e0d32107efecb7a326f9a63c23f89e0d71fd112812eb8f3a7ef08feed4fd"), looks := false }, kinds := [], alts := [], laidByText := true, laidKinds := [.data, .data, .data], laidTests := true, laidLooks := .later }
def KeyfileForeignCardSaid : Prop := Claim7.holds Tryz.pinned (.plain (OpenSpec.ofChange keyfileForeignSpec)) keyfileForeignCard

/-- THE TIED CARD OF 'hypogeumlaw11.KeyfileReads'. -/
def keyfileReadsCard : Claim7 := { stood := { row := keyfileReadsRow, standIns := [], harness := (true, "45b8e0d32107efecb7a326f9a63c23f89e0d71fd112812eb8f3a7ef08feed4fd"), looks := false }, kinds := [], alts := [], laidByText := true, laidKinds := [.data, .data, .data], laidTests := true, laidLooks := .later }
def KeyfileReadsCardSaid : Prop := Claim7.holds Tryz.pinned (.plain (OpenSpec.ofChange keyfileReadsSpec)) keyfileReadsCard

/-- THE TIED CARD OF 'hypogeumlaw11.KeyfileBack'. -/
def keyfileBackCard : Claim7 := { stood := { row := keyfileBackRow, standIns := [], harness := (true, "45b8e0d32107efecb7a326f9a63c23f89e0d71fd112812eb8f3a7ef08feed4fd"), looks := false }, kinds := [], alts := [], laidByText := true, laidKinds := [.data, .data, .data], laidTests := true, laidLooks := .later }
def KeyfileBackCardSaid : Prop := Claim7.holds Tryz.pinned (.plain (OpenSpec.ofChange keyfileBackSpec)) keyfileBackCard

/-- THE TIED CARD OF 'hypogeumlaw11.KeyfileForm'. -/
def keyfileFormCard : Claim7 := { stood := { row := keyfileFormRow, standIns := [], harness := (true, "45b8e0d32107efecb7a326f9a63c23f89e0d71fd112812eb8f3a7ef08feed4fd"), looks := false }, kinds := [], alts := [], laidByText := true, laidKinds := [.data, .data, .data], laidTests := true, laidLooks := .later }
def KeyfileFormCardSaid : Prop := Claim7.holds Tryz.pinned (.plain (OpenSpec.ofChange keyfileFormSpec)) keyfileFormCard

/-- THE SECOND FORM's CARD OF 'hypogeumlaw11.KeyfileMakes'. -/
def keyfileMakesUptoCard : Claim7 := { stood := { row := keyfileMakesUptoRow, standIns := [], harness := (true, "45b8e0d32107efecb7a326f9a63c23f89e0d71fd112812eb8f3a7ef08feed4fd"), looks := false }, kinds := [], alts := [], laidByText := true, laidKinds := [.data, .data, .data], laidTests := true, laidLooks := .later }
def KeyfileMakesUptoCardSaid : Prop := Claim7.holds Tryz.pinned (.plain (OpenSpec.upto keyfileMakesSpec)) keyfileMakesUptoCard

/-- THE SECOND FORM's CARD OF 'hypogeumlaw11.KeyfileOpens'. -/
def keyfileOpensUptoCard : Claim7 := { stood := { row := keyfileOpensUptoRow, standIns := [], harness := (true, "45b8e0d32107efecb7a326f9a63c23f89e0d71fd112812eb8f3a7ef08feed4fd"), looks := false }, kinds := [], alts := [], laidByText := true, laidKinds := [.data, .data, .data], laidTests := true, laidLooks := .later }
def KeyfileOpensUptoCardSaid : Prop := Claim7.holds Tryz.pinned (.plain (OpenSpec.upto keyfileOpensSpec)) keyfileOpensUptoCard

/-- THE SECOND FORM's CARD OF 'hypogeumlaw11.KeyfileForeign'. -/
def keyfileForeignUptoCard : Claim7 := { stood := { row := keyfileForeignUptoRow, standIns := [], harness := (true, "45b8e0d32107efecb7a326f9a63c23f89e0d71fd112812eb8f3a7ef08feed4fd"), looks := false }, kinds := [], alts := [], laidByText := true, laidKinds := [.data, .data, .data], laidTests := true, laidLooks := .later }
def KeyfileForeignUptoCardSaid : Prop := Claim7.holds Tryz.pinned (.plain (OpenSpec.upto keyfileForeignSpec)) keyfileForeignUptoCard

/-- THE SECOND FORM's CARD OF 'hypogeumlaw11.KeyfileReads'. -/
def keyfileReadsUptoCard : Claim7 := { stood := { row := keyfileReadsUptoRow, standIns := [], harness := (true, "45b8e0d32107efecb7a326f9a63c23f89e0d71fd112812eb8f3a7ef08feed4fd"), looks := false }, kinds := [], alts := [], laidByText := true, laidKinds := [.data, .data, .data], laidTests := true, laidLooks := .later }
def KeyfileReadsUptoCardSaid : Prop := Claim7.holds Tryz.pinned (.plain (OpenSpec.upto keyfileReadsSpec)) keyfileReadsUptoCard

/-- THE SECOND FORM's CARD OF 'hypogeumlaw11.KeyfileBack'. -/
def keyfileBackUptoCard : Claim7 := { stood := { row := keyfileBackUptoRow, standIns := [], harness := (true, "45b8e0d32107efecb7a326f9a63c23f89e0d71fd112812eb8f3a7ef08feed4fd"), looks := false }, kinds := [], alts := [], laidByText := true, laidKinds := [.data, .data, .data], laidTests := true, laidLooks := .later }
def KeyfileBackUptoCardSaid : Prop := Claim7.holds Tryz.pinned (.plain (OpenSpec.upto keyfileBackSpec)) keyfileBackUptoCard

/-- THE SECOND FORM's CARD OF 'hypogeumlaw11.KeyfileForm'. -/
def keyfileFormUptoCard : Claim7 := { stood := { row := keyfileFormUptoRow, standIns := [], harness := (true, "45b8e0d32107efecb7a326f9a63c23f89e0d71fd112812eb8f3a7ef08feed4fd"), looks := false }, kinds := [], alts := [], laidByText := true, laidKinds := [.data, .data, .data], laidTests := true, laidLooks := .later }
def KeyfileFormUptoCardSaid : Prop := Claim7.holds Tryz.pinned (.plain (OpenSpec.upto keyfileFormSpec)) keyfileFormUptoCard
end Rows
end Go.Proofs.YtlnoopmblmkgkaaGreatDoor
