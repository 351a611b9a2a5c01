/- The law's own function awake; bytes copied and handed to Of. -/
import Derived.Test.YthgedpnoghgdhaaRolC
namespace Go.Proofs.Ythgedpnoghgdhaa
set_option maxRecDepth 100000
open Go Go.RowKit
set_option linter.unusedVariables false
set_option linter.unusedSimpArgs false

theorem rolOk_awake : rolOk 17349423945073011 = true := by decide
theorem rolV_awake : rolV 17349423945073011 [1, 0] = 256 := by
  have hd := deg_nb2 (x := 17349423945073011) (by decide) (by decide)
  unfold rolV
  rw [if_pos rolOk_awake]
  exact pr_self hd.1 (by decide)

set_option maxHeartbeats 1000000 in
theorem awake13_any (w : World) : Calls Try.prog 9 #[] w fun e w' => e = .returned (.bool true) ∧ Below w.heap.size w w' := by
  have hb1 : Below w.heap.size w (w.alloc (.cells #[.int .u8 1, .int .u8 0] 5)) := (Below.refl _ w).alloc (Nat.le_refl _) _
  have hs1 : Sl (w.alloc (.cells #[.int .u8 1, .int .u8 0] 5)) (w.alloc (.cells #[.int .u8 1, .int .u8 0] 5)).heap.size (some ⟨w.heap.size, 0, none⟩) 2 (cb [1, 0]) := by
    have := Sl.new w #[.int .u8 1, .int .u8 0] 5
    rw [alloc_size]
    exact this
  obtain ⟨W1, hW1⟩ : ∃ W, W = w.alloc (.cells #[.int .u8 1, .int .u8 0] 5) := ⟨_, rfl⟩
  rw [← hW1] at hb1 hs1
  have HW1 := Lib.hid hW1.symm
  clear hW1
  have HV := Lib.hid rolV_awake
  have HE : Hid (rolE 17349423945073011 = 0) := if_pos rolOk_awake
  go_enter Try.func9, Try.ntmps9
  go_wp2_with fail
  rw [HW1.out]
  refine (rolOf_any 17349423945073011 [1, 0] W1 _ 2 2 hs1 (by omega) (by decide)).mono ?_
  rintro e w2 ⟨rfl, hb2⟩
  rw [HV.out, HE.out]
  replace hb1 := next hb1 hb2
  clear hs1 hb2
  go_wp2_with fail
  refine (rolnew_bad 283 w2 (by decide) (by decide)).mono ?_
  rintro e w3 ⟨rfl, hb3⟩
  replace hb1 := next hb1 hb3
  go_wp2
  go_ret
  exact ⟨rfl, hb1⟩

end Go.Proofs.Ythgedpnoghgdhaa
