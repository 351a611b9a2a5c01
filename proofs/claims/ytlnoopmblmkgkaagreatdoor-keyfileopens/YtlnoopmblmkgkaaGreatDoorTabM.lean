/- As TabL, where the rows list digest's tables ahead of cipher's. -/
import Derived.Test.YtlnoopmblmkgkaaGreatDoorTabL
namespace Go.Proofs.YtlnoopmblmkgkaaGreatDoor
set_option maxRecDepth 100000
open Go.ChangeShapes Go.WideShapes Go.ChangeAt Go.RowKit

/-- The listed tables, as the rows list them. -/
def laid3b : List (String × DataW Unit) := [("hypogeum/digest.roundConstants", Rows.laid_hypogeum_digest_roundConstants), ("hypogeum/digest.startWords", Rows.laid_hypogeum_digest_startWords), ("hypogeum/cipher.quarters", Rows.laid_hypogeum_cipher_quarters)]

theorem tabs3_of_laid_b {W : World} (h : laidMetH Tryz.prog laid3b W) : Tabs3 W := by
  rw [MakeChecks.laidMetH_plain _ _ _ (by kernel_rfl)] at h
  have hc : TabC W := tabc_head h.tail.tail
  unfold laid3b at h
  rw [laidK, laidS] at h
  have h1 := Lib.tabIs_of_head gK tK Tryz.underlying213 Tryz.underlying81 cells_u32 cells_64 h
  have h2 := Lib.tabIs_of_head gS tS Tryz.underlying151 Tryz.underlying81 cells_u32 cells_8 h.tail
  refine ⟨⟨fun i hi => ?_, fun i hi => ?_⟩, hc⟩
  · rw [h1.cell gK i (by rw [List.length_map, shaK_len]; exact hi), getD_cast]
  · rw [h2.cell gS i (by rw [List.length_map, list_len]; exact hi), getD_cast]

theorem door_met3b (os : Os) (args : Array Value) : laidMetH Tryz.prog laid3b ((World.doorLaid Tryz.prog 32 os).forCall (fun _ _ => 0) ⟨#[], args, []⟩).memory :=
  laidMetH_of_parts3 (fuel := 8) (laidMet_of_run' 8 (by kernel_rfl) (by kernel_rfl)) (by kernel_rfl) (by kernel_rfl)

end Go.Proofs.YtlnoopmblmkgkaaGreatDoor
