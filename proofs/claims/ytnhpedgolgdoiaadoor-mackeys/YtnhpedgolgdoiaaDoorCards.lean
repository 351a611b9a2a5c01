/-
  DERIVED. GIVEN WITH THE SEED: THE CARDS: each row of YtnhpedgolgdoiaaDoorRows.lean that lists a variable, with what it lists TIED to the program's text (the seventh form; the later family's looks); each row that meets fmt, with fmt's text TOLD by the authors' own Lean function (tested against real Go, not proved from fmt's source: count such statements apart). THE CARD IS WHAT COUNTS. Prove the row's statement (the work); the ties are given (YtnhpedgolgdoiaaDoorTie.lean); close each card by the builder's one call (the guide's Derived/Test/ToyasCard.lean, 'card_holds'). Laid BY PROGRAM, IN A SANDBOX (cutbox-door.mjs). By AI agents, Wed Nov 11 2026. No macro, syntax, notation, axiom, sorry.
-/
import Derived.Test.YtnhpedgolgdoiaaDoorRows
import GoSem.ClaimSeven
namespace Go.Proofs.YtnhpedgolgdoiaaDoor
namespace Rows

/-- THE TIED CARD OF 'hypogeumlaw03.MacTags'. -/
def macTagsCard : Claim7 := { stood := { row := macTagsRow, standIns := [], harness := (true, "95118f4dcfe440eb034f8071e4aceb6767fd630ad49fead2c7f77fbf576d640c"), looks := false }, kinds := [], alts := [], laidByText := true, laidKinds := [.data, .data], laidTests := true, laidLooks := .later }
def MacTagsCardSaid : Prop := Claim7.holds Tryd.pinned (.plain (OpenSpec.ofChange macTagsSpec)) macTagsCard

/-- THE TIED CARD OF 'hypogeumlaw03.MacKeys'. -/
def macKeysCard : Claim7 := { stood := { row := macKeysRow, standIns := [], harness := (true, "95118f4dcfe440eb034f8071e4aceb6767fd630ad49fead2c7f77fbf576d640c"), looks := false }, kinds := [], alts := [], laidByText := true, laidKinds := [.data, .data], laidTests := true, laidLooks := .later }
def MacKeysCardSaid : Prop := Claim7.holds Tryd.pinned (.plain (OpenSpec.ofChange macKeysSpec)) macKeysCard

/-- THE TIED CARD OF 'hypogeumlaw03.MacHolds'. -/
def macHoldsCard : Claim7 := { stood := { row := macHoldsRow, standIns := [], harness := (true, "95118f4dcfe440eb034f8071e4aceb6767fd630ad49fead2c7f77fbf576d640c"), looks := false }, kinds := [], alts := [], laidByText := true, laidKinds := [.data, .data], laidTests := true, laidLooks := .later }
def MacHoldsCardSaid : Prop := Claim7.holds Tryd.pinned (.plain (OpenSpec.ofChange macHoldsSpec)) macHoldsCard

/-- THE TIED CARD OF 'hypogeumlaw03.MacLong'. -/
def macLongCard : Claim7 := { stood := { row := macLongRow, standIns := [], harness := (true, "95118f4dcfe440eb034f8071e4aceb6767fd630ad49fead2c7f77fbf576d640c"), looks := false }, kinds := [], alts := [], laidByText := true, laidKinds := [.data, .data], laidTests := true, laidLooks := .later }
def MacLongCardSaid : Prop := Claim7.holds Tryd.pinned (.plain (OpenSpec.ofChange macLongSpec)) macLongCard

/-- THE TIED CARD OF 'hypogeumlaw03.MacOne'. -/
def macOneCard : Claim7 := { stood := { row := macOneRow, standIns := [], harness := (true, "95118f4dcfe440eb034f8071e4aceb6767fd630ad49fead2c7f77fbf576d640c"), looks := false }, kinds := [], alts := [], laidByText := true, laidKinds := [.data, .data], laidTests := true, laidLooks := .later }
def MacOneCardSaid : Prop := Claim7.holds Tryd.pinned (.plain (OpenSpec.ofChange macOneSpec)) macOneCard

/-- THE TIED CARD OF 'hypogeumlaw03.MacNobody'. -/
def macNobodyCard : Claim7 := { stood := { row := macNobodyRow, standIns := [], harness := (true, "95118f4dcfe440eb034f8071e4aceb6767fd630ad49fead2c7f77fbf576d640c"), looks := false }, kinds := [], alts := [], laidByText := true, laidKinds := [.data, .data], laidTests := true, laidLooks := .later }
def MacNobodyCardSaid : Prop := Claim7.holds Tryd.pinned (.plain (OpenSpec.ofChange macNobodySpec)) macNobodyCard

/-- THE SECOND FORM's CARD OF 'hypogeumlaw03.MacTags'. -/
def macTagsUptoCard : Claim7 := { stood := { row := macTagsUptoRow, standIns := [], harness := (true, "95118f4dcfe440eb034f8071e4aceb6767fd630ad49fead2c7f77fbf576d640c"), looks := false }, kinds := [], alts := [], laidByText := true, laidKinds := [.data, .data], laidTests := true, laidLooks := .later }
def MacTagsUptoCardSaid : Prop := Claim7.holds Tryd.pinned (.plain (OpenSpec.upto macTagsSpec)) macTagsUptoCard

/-- THE SECOND FORM's CARD OF 'hypogeumlaw03.MacKeys'. -/
def macKeysUptoCard : Claim7 := { stood := { row := macKeysUptoRow, standIns := [], harness := (true, "95118f4dcfe440eb034f8071e4aceb6767fd630ad49fead2c7f77fbf576d640c"), looks := false }, kinds := [], alts := [], laidByText := true, laidKinds := [.data, .data], laidTests := true, laidLooks := .later }
def MacKeysUptoCardSaid : Prop := Claim7.holds Tryd.pinned (.plain (OpenSpec.upto macKeysSpec)) macKeysUptoCard

/-- THE SECOND FORM's CARD OF 'hypogeumlaw03.MacHolds'. -/
def macHoldsUptoCard : Claim7 := { stood := { row := macHoldsUptoRow, standIns := [], harness := (true, "95118f4dcfe440eb034f8071e4aceb6767fd630ad49fead2c7f77fbf576d640c"), looks := false }, kinds := [], alts := [], laidByText := true, laidKinds := [.data, .data], laidTests := true, laidLooks := .later }
def MacHoldsUptoCardSaid : Prop := Claim7.holds Tryd.pinned (.plain (OpenSpec.upto macHoldsSpec)) macHoldsUptoCard

/-- THE SECOND FORM's CARD OF 'hypogeumlaw03.MacLong'. -/
def macLongUptoCard : Claim7 := { stood := { row := macLongUptoRow, standIns := [], harness := (true, "95118f4dcfe440eb034f8071e4aceb6767fd630ad49fead2c7f77fbf576d640c"), looks := false }, kinds := [], alts := [], laidByText := true, laidKinds := [.data, .data], laidTests := true, laidLooks := .later }
def MacLongUptoCardSaid : Prop := Claim7.holds Tryd.pinned (.plain (OpenSpec.upto macLongSpec)) macLongUptoCard

/-- THE SECOND FORM's CARD OF 'hypogeumlaw03.MacOne'. -/
def macOneUptoCard : Claim7 := { stood := { row := macOneUptoRow, standIns := [], harness := (true, "95118f4dcfe440eb034f8071e4aceb6767fd630ad49fead2c7f77fbf576d640c"), looks := false }, kinds := [], alts := [], laidByText := true, laidKinds := [.data, .data], laidTests := true, laidLooks := .later }
def MacOneUptoCardSaid : Prop := Claim7.holds Tryd.pinned (.plain (OpenSpec.upto macOneSpec)) macOneUptoCard

/-- THE SECOND FORM's CARD OF 'hypogeumlaw03.MacNobody'. -/
def macNobodyUptoCard : Claim7 := { stood := { row := macNobodyUptoRow, standIns := [], harness := (true, "95118f4dcfe440eb034f8071e4aceb6767fd630ad49fead2c7f77fbf576d640c"), looks := false }, kinds := [], alts := [], laidByText := true, laidKinds := [.data, .data], laidTests := true, laidLooks := .later }
def MacNobodyUptoCardSaid : Prop := Claim7.holds Tryd.pinned (.plain (OpenSpec.upto macNobodySpec)) macNobodyUptoCard
end Rows
end Go.Proofs.YtnhpedgolgdoiaaDoor
