/- The walk of the law Gf2Prime. -/
import Derived.Test.YtfgpaffdaeiloaaGfU
namespace Go.Proofs.Ytfgpaffdaeiloaa
set_option maxRecDepth 100000
open Go Go.RowKit
set_option linter.unusedVariables false
set_option linter.unusedSimpArgs false

set_option maxHeartbeats 1000000 in
theorem gf2Prime_walk (a0 : Int) (w : World) (w0 : (Lit.int .u64 a0).wf = true) :
    Calls Try.prog 7 #[.int .u64 a0] w fun e w' => e = .returned (.bool true) ∧ Below w.heap.size w w' := by
  obtain ⟨b0, b1⟩ := bounds_u64 w0
  clear w0
  obtain ⟨a, rfl⟩ := Int.eq_ofNat_of_zero_le b0
  obtain ⟨m, hm⟩ : ∃ m, m = a % 2097152 := ⟨_, rfl⟩
  have em : (a : Int) % 2097152 = (m : Int) := by omega
  have hml : m < 18446744073709551616 := by omega
  have AW := Lib.hid awake12_any
  have M1 := Lib.hid (fun w => irr_any m w hml)
  have M2 := Lib.hid (fun w => rirr_any m w hml)
  obtain ⟨V, hV⟩ : ∃ V, V = irrB m := ⟨_, rfl⟩
  rw [← hV] at M1 M2
  clear hV hm b0 b1
  go_enter Try.func7, Try.ntmps7
  go_wp2_with (first
    | (go_at_call 24; refine (M1.out _).mono ?_; rintro e w' ⟨rfl, rfl⟩)
    | (go_at_call 25; refine (M2.out _).mono ?_; rintro e w2 ⟨rfl, hb2⟩)
    | (go_at_call 16; refine (AW.out _).mono ?_; rintro e w' ⟨rfl, rfl⟩)
    | fail)
  go_ret
  exact ⟨rfl, hb2⟩

end Go.Proofs.Ytfgpaffdaeiloaa
