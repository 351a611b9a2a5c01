/-
  DERIVED. GIVEN WITH THE SEED: THE CARDS: each row of YtnaanngbnnbpdaaDoorRows.lean that lists a variable, with what it lists TIED to the program's text (the seventh form; the later family's looks); each row that meets fmt, with fmt's text TOLD by the authors' own Lean function (tested against real Go, not proved from fmt's source: count such statements apart). THE CARD IS WHAT COUNTS. Prove the row's statement (the work); the ties are given (YtnaanngbnnbpdaaDoorTie.lean); close each card by the builder's one call (the guide's Derived/Test/ToyasCard.lean, 'card_holds'). Laid BY PROGRAM, IN A SANDBOX (cutbox-door.mjs). By AI agents, Wed Nov 11 2026. No macro, syntax, notation, axiom, sorry.
-/
import Derived.Test.YtnaanngbnnbpdaaDoorRows
import GoSem.ClaimSeven
namespace Go.Proofs.YtnaanngbnnbpdaaDoor
namespace Rows

/-- THE TIED CARD OF 'hypogeumlaw02.DigestSums'. -/
def digestSumsCard : Claim7 := { stood := { row := digestSumsRow, standIns := [], harness := (true, "c6deba088c270777f06d06976ca5b7bf9c870431276c145399d6361f2ec8df86"), looks := false }, kinds := [], alts := [], laidByText := true, laidKinds := [.data, .data], laidTests := true, laidLooks := .later }
def DigestSumsCardSaid : Prop := Claim7.holds Tryd.pinned (.plain (OpenSpec.ofChange digestSumsSpec)) digestSumsCard

/-- THE TIED CARD OF 'hypogeumlaw02.DigestParts'. -/
def digestPartsCard : Claim7 := { stood := { row := digestPartsRow, standIns := [], harness := (true, "c6deba088c270777f06d06976ca5b7bf9c870431276c145399d6361f2ec8df86"), looks := false }, kinds := [], alts := [], laidByText := true, laidKinds := [.data, .data], laidTests := true, laidLooks := .later }
def DigestPartsCardSaid : Prop := Claim7.holds Tryd.pinned (.plain (OpenSpec.ofChange digestPartsSpec)) digestPartsCard

/-- THE TIED CARD OF 'hypogeumlaw02.DigestAdds'. -/
def digestAddsCard : Claim7 := { stood := { row := digestAddsRow, standIns := [], harness := (true, "c6deba088c270777f06d06976ca5b7bf9c870431276c145399d6361f2ec8df86"), looks := false }, kinds := [], alts := [], laidByText := true, laidKinds := [.data, .data], laidTests := true, laidLooks := .later }
def DigestAddsCardSaid : Prop := Claim7.holds Tryd.pinned (.plain (OpenSpec.ofChange digestAddsSpec)) digestAddsCard

/-- THE TIED CARD OF 'hypogeumlaw02.DigestCopies'. -/
def digestCopiesCard : Claim7 := { stood := { row := digestCopiesRow, standIns := [], harness := (true, "c6deba088c270777f06d06976ca5b7bf9c870431276c145399d6361f2ec8df86"), looks := false }, kinds := [], alts := [], laidByText := true, laidKinds := [.data, .data], laidTests := true, laidLooks := .later }
def DigestCopiesCardSaid : Prop := Claim7.holds Tryd.pinned (.plain (OpenSpec.ofChange digestCopiesSpec)) digestCopiesCard

/-- THE TIED CARD OF 'hypogeumlaw02.DigestCut'. -/
def digestCutCard : Claim7 := { stood := { row := digestCutRow, standIns := [], harness := (true, "c6deba088c270777f06d06976ca5b7bf9c870431276c145399d6361f2ec8df86"), looks := false }, kinds := [], alts := [], laidByText := true, laidKinds := [.data, .data], laidTests := true, laidLooks := .later }
def DigestCutCardSaid : Prop := Claim7.holds Tryd.pinned (.plain (OpenSpec.ofChange digestCutSpec)) digestCutCard

/-- THE TIED CARD OF 'hypogeumlaw02.DigestNobody'. -/
def digestNobodyCard : Claim7 := { stood := { row := digestNobodyRow, standIns := [], harness := (true, "c6deba088c270777f06d06976ca5b7bf9c870431276c145399d6361f2ec8df86"), looks := false }, kinds := [], alts := [], laidByText := true, laidKinds := [.data, .data], laidTests := true, laidLooks := .later }
def DigestNobodyCardSaid : Prop := Claim7.holds Tryd.pinned (.plain (OpenSpec.ofChange digestNobodySpec)) digestNobodyCard

/-- THE SECOND FORM's CARD OF 'hypogeumlaw02.DigestSums'. -/
def digestSumsUptoCard : Claim7 := { stood := { row := digestSumsUptoRow, standIns := [], harness := (true, "c6deba088c270777f06d06976ca5b7bf9c870431276c145399d6361f2ec8df86"), looks := false }, kinds := [], alts := [], laidByText := true, laidKinds := [.data, .data], laidTests := true, laidLooks := .later }
def DigestSumsUptoCardSaid : Prop := Claim7.holds Tryd.pinned (.plain (OpenSpec.upto digestSumsSpec)) digestSumsUptoCard

/-- THE SECOND FORM's CARD OF 'hypogeumlaw02.DigestParts'. -/
def digestPartsUptoCard : Claim7 := { stood := { row := digestPartsUptoRow, standIns := [], harness := (true, "c6deba088c270777f06d06976ca5b7bf9c870431276c145399d6361f2ec8df86"), looks := false }, kinds := [], alts := [], laidByText := true, laidKinds := [.data, .data], laidTests := true, laidLooks := .later }
def DigestPartsUptoCardSaid : Prop := Claim7.holds Tryd.pinned (.plain (OpenSpec.upto digestPartsSpec)) digestPartsUptoCard

/-- THE SECOND FORM's CARD OF 'hypogeumlaw02.DigestAdds'. -/
def digestAddsUptoCard : Claim7 := { stood := { row := digestAddsUptoRow, standIns := [], harness := (true, "c6deba088c270777f06d06976ca5b7bf9c870431276c145399d6361f2ec8df86"), looks := false }, kinds := [], alts := [], laidByText := true, laidKinds := [.data, .data], laidTests := true, laidLooks := .later }
def DigestAddsUptoCardSaid : Prop := Claim7.holds Tryd.pinned (.plain (OpenSpec.upto digestAddsSpec)) digestAddsUptoCard

/-- THE SECOND FORM's CARD OF 'hypogeumlaw02.DigestCopies'. -/
def digestCopiesUptoCard : Claim7 := { stood := { row := digestCopiesUptoRow, standIns := [], harness := (true, "c6deba088c270777f06d06976ca5b7bf9c870431276c145399d6361f2ec8df86"), looks := false }, kinds := [], alts := [], laidByText := true, laidKinds := [.data, .data], laidTests := true, laidLooks := .later }
def DigestCopiesUptoCardSaid : Prop := Claim7.holds Tryd.pinned (.plain (OpenSpec.upto digestCopiesSpec)) digestCopiesUptoCard

/-- THE SECOND FORM's CARD OF 'hypogeumlaw02.DigestCut'. -/
def digestCutUptoCard : Claim7 := { stood := { row := digestCutUptoRow, standIns := [], harness := (true, "c6deba088c270777f06d06976ca5b7bf9c870431276c145399d6361f2ec8df86"), looks := false }, kinds := [], alts := [], laidByText := true, laidKinds := [.data, .data], laidTests := true, laidLooks := .later }
def DigestCutUptoCardSaid : Prop := Claim7.holds Tryd.pinned (.plain (OpenSpec.upto digestCutSpec)) digestCutUptoCard

/-- THE SECOND FORM's CARD OF 'hypogeumlaw02.DigestNobody'. -/
def digestNobodyUptoCard : Claim7 := { stood := { row := digestNobodyUptoRow, standIns := [], harness := (true, "c6deba088c270777f06d06976ca5b7bf9c870431276c145399d6361f2ec8df86"), looks := false }, kinds := [], alts := [], laidByText := true, laidKinds := [.data, .data], laidTests := true, laidLooks := .later }
def DigestNobodyUptoCardSaid : Prop := Claim7.holds Tryd.pinned (.plain (OpenSpec.upto digestNobodySpec)) digestNobodyUptoCard
end Rows
end Go.Proofs.YtnaanngbnnbpdaaDoor
