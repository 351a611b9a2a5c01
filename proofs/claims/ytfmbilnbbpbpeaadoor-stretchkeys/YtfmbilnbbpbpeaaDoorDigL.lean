/- What the card's condition on the tables gives the walks; its witness. -/
import Derived.Test.YtfmbilnbbpbpeaaDoorDigC
import Derived.Test.YtfmbilnbbpbpeaaDoorRows
import Derived.Lib.LaidTab
import Derived.LaidMore
import Derived.ProofKit
import Derived.Stop.LaidErr
namespace Go.Proofs.YtfmbilnbbpbpeaaDoor
open Go.ChangeShapes Go.WideShapes Go.ChangeAt Go.RowKit

/-- The listed tables, as the rows list them. -/
def laid2 : List (String × DataW Unit) := [("hypogeum/digest.roundConstants", Rows.laid_hypogeum_digest_roundConstants), ("hypogeum/digest.startWords", Rows.laid_hypogeum_digest_startWords)]
theorem gK : Tryd.prog.globalNamed "hypogeum/digest.roundConstants" = some 1 := by kernel_rfl
theorem gS : Tryd.prog.globalNamed "hypogeum/digest.startWords" = some 0 := by kernel_rfl
theorem tK : (Tryd.prog.globals[1]?).map (·.type) = some 68 := by kernel_rfl
theorem tS : (Tryd.prog.globals[0]?).map (·.type) = some 43 := by kernel_rfl
theorem cells_u32 : Tryd.prog.cellsOf 40 = 1 := by kernel_rfl
theorem cells_64 : Tryd.prog.cellsOf 68 = 64 := by kernel_rfl
theorem cells_8 : Tryd.prog.cellsOf 43 = 8 := by kernel_rfl
theorem laidK : (Rows.laid_hypogeum_digest_roundConstants : DataW Unit) = Lib.tabData .u32 (shaK.map fun x : Nat => (x : Int)) := by kernel_rfl
theorem laidS : (Rows.laid_hypogeum_digest_startWords : DataW Unit) = Lib.tabData .u32 (shaS.list.map fun x : Nat => (x : Int)) := by kernel_rfl

theorem getD_cast (l : List Nat) (i : Nat) : (l.map fun x : Nat => (x : Int)).getD i 0 = ((l.getD i 0 : Nat) : Int) := by
  simp only [List.getD_eq_getElem?_getD, List.getElem?_map]
  cases l[i]? <;> rfl

theorem tabs_of_laid {W : World} (h : laidMetH Tryd.prog laid2 W) : Tabs W := by
  rw [MakeChecks.laidMetH_plain _ _ _ (by kernel_rfl)] at h
  unfold laid2 at h
  rw [laidK, laidS] at h
  have h1 := Lib.tabIs_of_head gK tK Tryd.underlying68 Tryd.underlying40 cells_u32 cells_64 h
  have h2 := Lib.tabIs_of_head gS tS Tryd.underlying43 Tryd.underlying40 cells_u32 cells_8 h.tail
  refine ⟨fun i hi => ?_, fun i hi => ?_⟩
  · rw [h1.cell gK i (by rw [List.length_map, shaK_len]; exact hi), getD_cast]
  · rw [h2.cell gS i (by rw [List.length_map, list_len]; exact hi), getD_cast]

theorem door_met (os : Os) (args : Array Value) : laidMetH Tryd.prog laid2 ((World.doorLaid Tryd.prog 19 os).forCall (fun _ _ => 0) ⟨#[], args, []⟩).memory :=
  laidMetH_of_parts3 (fuel := 8) (laidMet_of_run' 8 (by kernel_rfl) (by kernel_rfl)) (by kernel_rfl) (by kernel_rfl)

end Go.Proofs.YtfmbilnbbpbpeaaDoor

