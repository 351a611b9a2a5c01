/- What a card's condition on the tables of cipher and of digest, all three, gives the walks; its witness. -/
import Derived.Test.YtlnoopmblmkgkaaGreatDoorLD
import Derived.Test.YtlnoopmblmkgkaaGreatDoorChaL
namespace Go.Proofs.YtlnoopmblmkgkaaGreatDoor
set_option maxRecDepth 100000
open Go.ChangeShapes Go.WideShapes Go.ChangeAt Go.RowKit

/-- The listed tables, as the rows list them. -/
def laid3 : List (String × DataW Unit) := [("hypogeum/cipher.quarters", Rows.laid_hypogeum_cipher_quarters), ("hypogeum/digest.roundConstants", Rows.laid_hypogeum_digest_roundConstants), ("hypogeum/digest.startWords", Rows.laid_hypogeum_digest_startWords)]

/-- All three tables. -/
structure Tabs3 (w : World) : Prop where
  dig : Tabs w
  cip : TabC w
theorem Tabs3.next {w w' : World} (h : Tabs3 w) (hb : Below w.heap.size w w') : Tabs3 w' := ⟨h.dig.next hb, h.cip.next hb⟩

theorem tabs3_of_laid {W : World} (h : laidMetH Tryz.prog laid3 W) : Tabs3 W := by
  rw [MakeChecks.laidMetH_plain _ _ _ (by kernel_rfl)] at h
  have hc : TabC W := tabc_head h
  have h2 : laidMetH Tryz.prog laid2 W := by
    rw [MakeChecks.laidMetH_plain _ _ _ (by kernel_rfl)]
    exact h.tail
  exact ⟨tabs_of_laid h2, hc⟩

theorem door_met3 (os : Os) (args : Array Value) : laidMetH Tryz.prog laid3 ((World.doorLaid Tryz.prog 32 os).forCall (fun _ _ => 0) ⟨#[], args, []⟩).memory :=
  laidMetH_of_parts3 (fuel := 8) (laidMet_of_run' 8 (by kernel_rfl) (by kernel_rfl)) (by kernel_rfl) (by kernel_rfl)

end Go.Proofs.YtlnoopmblmkgkaaGreatDoor
