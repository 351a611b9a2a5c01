/- Layer 9, label: the law's own awake. -/
import Derived.Test.YtlnoopmblmkgkaaGreatDoorLJ
namespace Go.Proofs.YtlnoopmblmkgkaaGreatDoor
set_option maxRecDepth 100000
open Go Go.RowKit
set_option linter.unusedVariables false
set_option linter.unusedSimpArgs false

theorem made_sl {w w1 : World} {n : Nat} (b : Bl w1 w.heap.size (cb (List.replicate n 0)) 5) : Sl w1 w1.heap.size (some ⟨w.heap.size, 0, none⟩) n (cb (List.replicate n 0)) :=
  (b.sl (o := 0) (n := n) (by rw [List.drop_zero, List.take_of_length_le (by rw [cb_len]; simp)]) (by rw [cb_len]; simp)).up b.lt

end Go.Proofs.YtlnoopmblmkgkaaGreatDoor
