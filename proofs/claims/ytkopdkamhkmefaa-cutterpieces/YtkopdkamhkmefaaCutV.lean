/- The law's own function awake, of package cutter. -/
import Derived.Test.YtkopdkamhkmefaaCutJ
namespace Go.Proofs.Ytkopdkamhkmefaa
set_option maxRecDepth 100000
open Go Go.RowKit
set_option linter.unusedVariables false
set_option linter.unusedSimpArgs false

theorem built_cut0 : Try.prog.built 24 [] = some (cutC 0 0 0 0).toArray := by kernel_rfl
theorem built_cut1 : Try.prog.built 24 [(0, .int .u64 512), (2, .int .i64 2), (3, .int .i64 5)] = some (cutC 512 0 2 5).toArray := by kernel_rfl

set_option maxHeartbeats 1000000 in
theorem awake14_any (w : World) : Calls Try.prog 8 #[] w fun e w' => e = .returned (.bool true) ∧ Below w.heap.size w w' := by
  have hb1 : Below w.heap.size w (w.alloc (.cells #[.int .u8 1, .int .u8 2, .int .u8 3, .int .u8 4, .int .u8 5] 5)) := (Below.refl _ w).alloc (Nat.le_refl _) _
  have hs1 : Sl (w.alloc (.cells #[.int .u8 1, .int .u8 2, .int .u8 3, .int .u8 4, .int .u8 5] 5)) (w.alloc (.cells #[.int .u8 1, .int .u8 2, .int .u8 3, .int .u8 4, .int .u8 5] 5)).heap.size (some ⟨w.heap.size, 0, none⟩) 5 (cb [1, 2, 3, 4, 5]) := by
    have := Sl.new w #[.int .u8 1, .int .u8 2, .int .u8 3, .int .u8 4, .int .u8 5] 5
    rw [alloc_size]
    exact this
  obtain ⟨W1, hW1⟩ : ∃ W, W = w.alloc (.cells #[.int .u8 1, .int .u8 2, .int .u8 3, .int .u8 4, .int .u8 5] 5) := ⟨_, rfl⟩
  rw [← hW1] at hb1 hs1
  have HW1 := Lib.hid hW1.symm
  clear hW1
  have HV := Lib.hid cutLV_awake
  have HE : Hid (cutE 512 2 5 = 0) := if_pos (by decide)
  go_enter Try.func8, Try.ntmps8
  go_wp2_with (first
    | (refine wpList_build_to rfl 24 _ rfl (cutC 512 0 2 5) built_cut1 ?_)
    | fail)
  rw [HW1.out]
  refine (clens_any 512 0 2 5 [1, 2, 3, 4, 5] W1 _ 5 5 ⟨hs1, rfl, by omega, (by intro h; cases h)⟩ (by omega) (by decide) (by decide)).mono ?_
  rintro e w2 ⟨X, cx, rfl, own2, hb2⟩
  rw [HV.out] at own2 ⊢
  rw [HE.out]
  replace hb1 := next hb1 hb2
  have y2 := Sl.own own2
  clear hs1 hb2 own2
  go_wp2_with (first
    | (refine wpList_build_to rfl 24 _ rfl (cutC 0 0 0 0) built_cut0 ?_)
    | fail)
  refine (cnew_bad 0 0 0 0 w2 (by decide) (by decide)).mono ?_
  rintro e w3 ⟨rfl, hb3⟩
  replace hb1 := next hb1 hb3
  replace y2 := y2.nx hb3
  clear hb3
  have hbn : Below w3.heap.size w3 (w3.alloc (.cells #[.int .i64 2, .int .i64 2, .int .i64 1] 3)) := (Below.refl _ w3).alloc (Nat.le_refl _) _
  have hs3 : Sl (w3.alloc (.cells #[.int .i64 2, .int .i64 2, .int .i64 1] 3)) (w3.heap.size + 1) (some ⟨w3.heap.size, 0, none⟩) 3 (is [2, 2, 1]) := Sl.new w3 #[.int .i64 2, .int .i64 2, .int .i64 1] 3
  have y3 := y2.nx hbn
  have HS := Lib.hid (same14_any [2, 2, 1] [2, 2, 1] true (by decide))
  go_wp2_with (first
    | (go_at_call 13; refine (HS.out _ _ _ _ _ 3 3 _ _ y3 hs3 (Nat.le_refl _) (by simp) (by decide) (by decide)).mono ?_; rintro e w4 ⟨rfl, hb4⟩)
    | fail)
  go_ret
  exact ⟨rfl, next hb1 (hbn.trans (hb4.mono (by simp)))⟩

end Go.Proofs.Ytkopdkamhkmefaa
