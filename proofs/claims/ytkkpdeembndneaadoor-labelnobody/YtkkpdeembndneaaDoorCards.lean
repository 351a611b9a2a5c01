/-
  DERIVED. GIVEN WITH THE SEED: THE CARDS: each row of YtkkpdeembndneaaDoorRows.lean that lists a variable, with what it lists TIED to the program's text (the seventh form; the later family's looks); each row that meets fmt, with fmt's text TOLD by the authors' own Lean function (tested against real Go, not proved from fmt's source: count such statements apart). THE CARD IS WHAT COUNTS. Prove the row's statement (the work); the ties are given (YtkkpdeembndneaaDoorTie.lean); close each card by the builder's one call (the guide's Derived/Test/ToyasCard.lean, 'card_holds'). Laid BY PROGRAM, IN A SANDBOX (cutbox-door.mjs). By AI agents, Wed Nov 11 2026. No macro, syntax, notation, axiom, sorry.
-/
import Derived.Test.YtkkpdeembndneaaDoorRows
import GoSem.ClaimSeven
namespace Go.Proofs.YtkkpdeembndneaaDoor
namespace Rows

/-- THE TIED CARD OF 'hypogeumlaw09.LabelKeys'. -/
def labelKeysCard : Claim7 := { stood := { row := labelKeysRow, standIns := [], harness := (true, "6a65e7beba5dd1a237df8feac28d0bad259c05a9178a842ab17ab8666d6ffdf7"), looks := false }, kinds := [], alts := [], laidByText := true, laidKinds := [.data, .data], laidTests := true, laidLooks := .later }
def LabelKeysCardSaid : Prop := Claim7.holds Tryd.pinned (.plain (OpenSpec.ofChange labelKeysSpec)) labelKeysCard

/-- THE TIED CARD OF 'hypogeumlaw09.LabelNames'. -/
def labelNamesCard : Claim7 := { stood := { row := labelNamesRow, standIns := [], harness := (true, "6a65e7beba5dd1a237df8feac28d0bad259c05a9178a842ab17ab8666d6ffdf7"), looks := false }, kinds := [], alts := [], laidByText := true, laidKinds := [.data, .data], laidTests := true, laidLooks := .later }
def LabelNamesCardSaid : Prop := Claim7.holds Tryd.pinned (.plain (OpenSpec.ofChange labelNamesSpec)) labelNamesCard

/-- THE TIED CARD OF 'hypogeumlaw09.LabelRings'. -/
def labelRingsCard : Claim7 := { stood := { row := labelRingsRow, standIns := [], harness := (true, "6a65e7beba5dd1a237df8feac28d0bad259c05a9178a842ab17ab8666d6ffdf7"), looks := false }, kinds := [], alts := [], laidByText := true, laidKinds := [.data, .data], laidTests := true, laidLooks := .later }
def LabelRingsCardSaid : Prop := Claim7.holds Tryd.pinned (.plain (OpenSpec.ofChange labelRingsSpec)) labelRingsCard

/-- THE TIED CARD OF 'hypogeumlaw09.LabelNobody'. -/
def labelNobodyCard : Claim7 := { stood := { row := labelNobodyRow, standIns := [], harness := (true, "6a65e7beba5dd1a237df8feac28d0bad259c05a9178a842ab17ab8666d6ffdf7"), looks := false }, kinds := [], alts := [], laidByText := true, laidKinds := [.data, .data], laidTests := true, laidLooks := .later }
def LabelNobodyCardSaid : Prop := Claim7.holds Tryd.pinned (.plain (OpenSpec.ofChange labelNobodySpec)) labelNobodyCard

/-- THE SECOND FORM's CARD OF 'hypogeumlaw09.LabelKeys'. -/
def labelKeysUptoCard : Claim7 := { stood := { row := labelKeysUptoRow, standIns := [], harness := (true, "6a65e7beba5dd1a237df8feac28d0bad259c05a9178a842ab17ab8666d6ffdf7"), looks := false }, kinds := [], alts := [], laidByText := true, laidKinds := [.data, .data], laidTests := true, laidLooks := .later }
def LabelKeysUptoCardSaid : Prop := Claim7.holds Tryd.pinned (.plain (OpenSpec.upto labelKeysSpec)) labelKeysUptoCard

/-- THE SECOND FORM's CARD OF 'hypogeumlaw09.LabelNames'. -/
def labelNamesUptoCard : Claim7 := { stood := { row := labelNamesUptoRow, standIns := [], harness := (true, "6a65e7beba5dd1a237df8feac28d0bad259c05a9178a842ab17ab8666d6ffdf7"), looks := false }, kinds := [], alts := [], laidByText := true, laidKinds := [.data, .data], laidTests := true, laidLooks := .later }
def LabelNamesUptoCardSaid : Prop := Claim7.holds Tryd.pinned (.plain (OpenSpec.upto labelNamesSpec)) labelNamesUptoCard

/-- THE SECOND FORM's CARD OF 'hypogeumlaw09.LabelRings'. -/
def labelRingsUptoCard : Claim7 := { stood := { row := labelRingsUptoRow, standIns := [], harness := (true, "6a65e7beba5dd1a237df8feac28d0bad259c05a9178a842ab17ab8666d6ffdf7"), looks := false }, kinds := [], alts := [], laidByText := true, laidKinds := [.data, .data], laidTests := true, laidLooks := .later }
def LabelRingsUptoCardSaid : Prop := Claim7.holds Tryd.pinned (.plain (OpenSpec.upto labelRingsSpec)) labelRingsUptoCard

/-- THE SECOND FORM's CARD OF 'hypogeumlaw09.LabelNobody'. -/
def labelNobodyUptoCard : Claim7 := { stood := { row := labelNobodyUptoRow, standIns := [], harness := (true, "6a65e7beba5dd1a237df8feac28d0bad259c05a9178a842ab17ab8666d6ffdf7"), looks := false }, kinds := [], alts := [], laidByText := true, laidKinds := [.data, .data], laidTests := true, laidLooks := .later }
def LabelNobodyUptoCardSaid : Prop := Claim7.holds Tryd.pinned (.plain (OpenSpec.upto labelNobodySpec)) labelNobodyUptoCard
end Rows
end Go.Proofs.YtkkpdeembndneaaDoor
