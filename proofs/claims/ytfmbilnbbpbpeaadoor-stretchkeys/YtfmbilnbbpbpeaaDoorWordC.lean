/- The walks of the laws of layer 1. -/
import Derived.Test.YtfmbilnbbpbpeaaDoorWordD
import Derived.Test.YtfmbilnbbpbpeaaDoorLift
namespace Go.Proofs.YtfmbilnbbpbpeaaDoor
open Go.RowKit
set_option linter.unusedVariables false

theorem u8_str {w : World} {B n : Nat} {A : Option Addr} {l : List UInt8} (h : Sl w B A n (cb l)) (c : Nat) : (convert 22 9 (.slice A n c)).run Tryd.prog w = .ok (.string ⟨l.toArray⟩) w :=
  run_string_of_sl h _ _ _ c Tryd.underlying22 Tryd.underlying5 Tryd.underlying9

theorem str_same (a b : List UInt8) : (a == b) = sameB a b := by
  rw [Bool.eq_iff_iff]
  simp [sameB]
theorem same_self (a : List UInt8) : sameB a a = true := by simp [sameB]

end Go.Proofs.YtfmbilnbbpbpeaaDoor

