/- The walk of the law KeyfileReads. -/
import Derived.Test.YtlnoopmblmkgkaaGreatDoorKefV
import Derived.Test.YtlnoopmblmkgkaaGreatDoorKefW
import Derived.Test.YtlnoopmblmkgkaaGreatDoorKefL
namespace Go.Proofs.YtlnoopmblmkgkaaGreatDoor
set_option maxRecDepth 100000
open Go Go.RowKit
set_option linter.unusedVariables false
set_option linter.unusedSimpArgs false

set_option maxHeartbeats 4000000 in
theorem keyfileReads_walk (A0 : Option Addr) (n0 c0 : Nat) (l0 : List UInt8) (w : World) (hT : Tabs3 w) (s0 : InBytes w A0 n0 c0 l0) :
    Calls Tryz.prog 6 #[.slice A0 n0 c0] w fun e w' => e = .returned (.bool true) ∧ Below w.heap.size w w' := by
  have y0 := s0.bys
  have hn : n0 ≤ 140737488351232 := Nat.le_trans s0.cap s0.room
  obtain ⟨F, hF⟩ : ∃ F, F = gtF l0 := ⟨_, rfl⟩
  obtain ⟨E, hE⟩ : ∃ E, E = gtE l0 := ⟨_, rfl⟩
  obtain ⟨E2, hE2⟩ : ∃ E, E = szE l0 := ⟨_, rfl⟩
  obtain ⟨N, hN⟩ : ∃ E, E = szN l0 := ⟨_, rfl⟩
  have HF : Hid (gtF l0 = F) := hF.symm
  have HE : Hid (gtE l0 = E) := hE.symm
  have HE2 : Hid (szE l0 = E2) := hE2.symm
  have HN : Hid (szN l0 = N) := hN.symm
  have hEE : (E == E) = true := by simp
  have hEE2 : (E2 == E2) = true := by simp
  have hNN : ((N : Int) == (N : Int)) = true := by simp
  have HT := Lib.hid hT
  clear hF hE hE2 hN hT s0
  have mk0 : True := trivial
  go_enter Tryz.func6, Tryz.ntmps6
  go_wp2_with (first
    | (go_at_call 12; refine (own_any l0 w w.heap.size A0 n0 c0 y0.sl y0.none_ (by omega) (Nat.le_refl _)).mono ?_; rintro e w1 ⟨X1, c1, rfl, x1⟩; have y1 := x1.bys; have hb1 := x1.below)
    | (go_at_call 24; refine (size_any l0 w1 X1 n0 c1 y1.sl y1.cap y1.none_ (by omega)).mono ?_; rw [HE2.out, HN.out]; rintro e w2 ⟨rfl, hd2⟩; have hbb2 := hd2.below w1.heap.size; have hb2 := next hb1 hbb2; have y12 := y1.nx hbb2)
    | (go_at_call 25; refine (rsize_any l0 w2 A0 n0 c0 (y0.nx hb2).sl y0.cap y0.none_ (by omega)).mono ?_; rw [HE2.out, HN.out]; rintro e w3 ⟨rfl, hbb3⟩; have hb3 := next hb2 hbb3; have y13 := y12.nx hbb3)
    | (go_at_call 26; refine (get_any l0 w3 X1 n0 c1 y13.sl y13.cap y13.none_ hn).mono ?_; rw [HE.out, HF.out]; rintro e w4 ⟨A4, n4, c4, B4, m4, d4, rfl, f4, hbb4⟩; obtain ⟨b5, hbb5, hz5⟩ := put_new w4 nilF (fC A4 n4 c4 F.r F.nu B4 m4 d4) 35 rfl; obtain ⟨W5, hW5⟩ : ∃ W, W = (w4.alloc (.cells nilF.toArray 35)).setCells w4.heap.size 0 (fC A4 n4 c4 F.r F.nu B4 m4 d4) := ⟨_, rfl⟩; rw [← hW5] at b5 hbb5 hz5; have HW5 := Lib.hid hW5; have f5 := f4.nx hbb5; have hb5 := next (next hb3 hbb4) hbb5; have y15 := (y13.nx hbb4).nx hbb5; clear hW5 mk0; have mk4 : True := trivial)
    | (have := mk4; refine wpList_alloc_zero rfl 35 rfl nilF zero_kf ?_)
    | (have := mk4; refine wpList_store_mid rfl 35 _ _ rfl _ _ (fC A4 n4 c4 F.r F.nu B4 m4 d4).toArray rfl rfl (Bl.there_ (Bl.new w4 nilF 35) (by simp [nilF, fC])) size_kf (all_oneCell_toArray (fC_one _ _ _ _ _ _ _ _)) ?_; change wpList _ _ _ _ _ (World.setCells (w4.alloc (.cells nilF.toArray 35)) w4.heap.size 0 (fC A4 n4 c4 F.r F.nu B4 m4 d4)); rw [← HW5.out]; clear mk4; have mk5 : True := trivial)
    | (have := mk5; go_at_call 27; refine (rget_any l0 W5 A0 n0 c0 (y0.nx hb5).sl y0.cap y0.none_ hn).mono ?_; rw [HE.out, HF.out]; rintro e w6 ⟨A6, n6, c6, B6, m6, d6, rfl, f6, hbb6⟩; obtain ⟨b7, hbb7, hz7⟩ := put_new w6 nilF (fC A6 n6 c6 F.r F.nu B6 m6 d6) 39 rfl; obtain ⟨W7, hW7⟩ : ∃ W, W = (w6.alloc (.cells nilF.toArray 39)).setCells w6.heap.size 0 (fC A6 n6 c6 F.r F.nu B6 m6 d6) := ⟨_, rfl⟩; rw [← hW7] at b7 hbb7 hz7; have HW7 := Lib.hid hW7; have f57 := (f5.nx hbb6).nx hbb7; have f7 := f6.nx hbb7; have hb7 := next (next hb5 hbb6) hbb7; have y17 := (y15.nx hbb6).nx hbb7; have b57 := (b5.next hbb6).next hbb7; have wh57 := b57.whole; have wh7 := b7.whole; clear hW7 mk5; have mk6 : True := trivial)
    | (have := mk6; refine wpList_alloc_zero rfl 39 rfl nilF zero_rf ?_)
    | (have := mk6; refine wpList_store_mid rfl 39 _ _ rfl _ _ (fC A6 n6 c6 F.r F.nu B6 m6 d6).toArray rfl rfl (Bl.there_ (Bl.new w6 nilF 39) (by simp [nilF, fC])) size_rf (all_oneCell_toArray (fC_one _ _ _ _ _ _ _ _)) ?_; change wpList _ _ _ _ _ (World.setCells (w6.alloc (.cells nilF.toArray 39)) w6.heap.size 0 (fC A6 n6 c6 F.r F.nu B6 m6 d6)); rw [← HW7.out]; clear mk6; have mk7 : True := trivial)
    | (have := mk7; refine wpList_load_want (by rfl) 35 _ rfl _ _ rfl (fC A4 n4 c4 F.r F.nu B4 m4 d4) _ wh57 Tryz.underlying35 rfl size_kf ?_)
    | (have := mk7; refine wpList_load_want (by rfl) 39 _ rfl _ _ rfl (fC A6 n6 c6 F.r F.nu B6 m6 d6) _ wh7 Tryz.underlying39 rfl size_rf ?_)
    | (have := mk7; go_at_call 15; refine (same_any11 F.S F.X F.r F.nu A4 n4 c4 B4 m4 d4 A6 n6 c6 B6 m6 d6 W7 f57 f7).mono ?_; rintro e w8 ⟨rfl, hbb8⟩; have hb8 := next hb7 hbb8; have u1 := u8_str (y17.nx hbb8).sl c1; have u2 := u8_str (y0.nx hb8).sl c0)
    | (have := mk7; go_at_call 10; refine (awake11_any w8 (HT.out.next hb8)).mono ?_; rintro e w9 ⟨rfl, hbb9⟩)
    | fail)
  go_ret
  exact ⟨rfl, next hb8 hbb9⟩

end Go.Proofs.YtlnoopmblmkgkaaGreatDoor
