/- What a card's condition on the tables of cipher and of digest, all three, gives the walks; its witness. -/
import Derived.Test.YtlnoopmblmkgkaaGreatDoorLD
import Derived.Test.YtlnoopmblmkgkaaGreatDoorChaL
namespace Go.Proofs.YtlnoopmblmkgkaaGreatDoor
set_option maxRecDepth 100000
open Go.ChangeShapes Go.WideShapes Go.ChangeAt Go.RowKit

/-- All three tables. -/
structure Tabs3 (w : World) : Prop where
  dig : Tabs w
  cip : TabC w
theorem Tabs3.next {w w' : World} (h : Tabs3 w) (hb : Below w.heap.size w w') : Tabs3 w' := ⟨h.dig.next hb, h.cip.next hb⟩

end Go.Proofs.YtlnoopmblmkgkaaGreatDoor
