/- Layer 11, keyfile: Make. -/
import Derived.Test.YtlnoopmblmkgkaaGreatDoorKefH
import Derived.Test.YtlnoopmblmkgkaaGreatDoorKefG
namespace Go.Proofs.YtlnoopmblmkgkaaGreatDoor
set_option maxRecDepth 100000
open Go Go.RowKit
set_option linter.unusedVariables false
set_option linter.unusedSimpArgs false

/-- The file that Make tells. -/
def mkF (pass S : List UInt8) (r nu : Int) (m : RM) : FV := if mkE S r nu m = 0 then ⟨S, r, nu, mkB pass S r nu m⟩ else nilV
theorem mkE_yes {S : List UInt8} {r nu : Int} {m : RM} (h : kfit S.length r nu ((textR m).length + 16 : Nat) = true) : mkE S r nu m = 0 := by unfold mkE; rw [if_pos h]
theorem mkE_no {S : List UInt8} {r nu : Int} {m : RM} (h : kfit S.length r nu ((textR m).length + 16 : Nat) = false) : mkE S r nu m = 1 := by unfold mkE; rw [if_neg (by rw [h]; decide)]

set_option maxHeartbeats 4000000 in
theorem make_any (pass S : List UInt8) (m : RM) (Ap : Option Addr) (np cp : Nat) (A : Option Addr) (n c : Nat) (r nu : Int) (g : Nat) (w : World) (hp : By w Ap np cp pass) (hs : By w A n c S) (hr : Rg w w.heap.size g m) (hnp : np ≤ 100000000) (hn : n ≤ 140737488351232) (hT : Tabs3 w) :
    Calls Tryz.prog 13 #[.slice Ap np cp, .slice A n c, .int .i64 r, .int .i64 nu, .pointer (some ⟨g, 0, none⟩)] w (RetFile w (mkF pass S r nu m) (mkE S r nu m)) := by
  obtain ⟨i0, hi, hz0, hz1, hz2⟩ := info_parts u8_info
  have ok := hr.2.1
  have hl64 := ring_le ok
  have htl := textR_len ok
  obtain ⟨W0, HW0, b0, hb0, hsz0⟩ := put_f w nilF 35
  obtain ⟨T, hT'⟩ : ∃ T, T = textR m := ⟨_, rfl⟩
  obtain ⟨tn, htn⟩ : ∃ tn, tn = 33 * m.length := ⟨_, rfl⟩
  have htt := textof_any g m W0 ((hr.next hb0).up hb0.size)
  rw [← hT', ← htn] at htt
  have HTT := Lib.hid htt
  have htn2 : tn ≤ 2112 := by omega
  have hTl : T.length = tn := by rw [hT', htl, htn]
  have HTX : Hid (textR m = T) := hT'.symm
  have HTL := Lib.hid hTl
  have HSL := Lib.hid hs.len
  have hqs : ((tn + 16 : Nat) : Int) = (tn : Int) + 16 := by omega
  have hk0 : kfit S.length r nu ((textR m).length + 16 : Nat) = kfit n r nu ((tn + 16 : Nat) : Int) := by rw [← hT', hTl, hs.len]
  have HP := Lib.hid hp
  have HSA := Lib.hid hs
  have HT := Lib.hid hT
  cases hk : kfit n r nu ((tn + 16 : Nat) : Int) with
  | false =>
    have e1 := mkE_no (hk0.trans hk)
    have hF : mkF pass S r nu m = nilV := by unfold mkF; rw [e1]; rfl
    rw [e1, hF]
    have HK := Lib.hid hk
    clear hqs hT' htn htt hTl hk0 hk e1 hF htl hl64 hs hp hT hr hsz0
    have mk0 : True := trivial
    go_enter Tryz.func13, Tryz.ntmps13
    go_wp2_with (first
      | (have := mk0; refine wpList_alloc_zero rfl 35 rfl nilF zero_kf ?_; rw [HW0.out]; clear mk0; have mk1 : True := trivial)
      | (have := mk2; refine wpList_alloc_zero rfl 35 rfl nilF zero_kf ?_)
      | (have := mk1; go_at_call 32; refine HTT.out.mono ?_; rintro e w1 ⟨X1, c1, rfl, x1⟩; have b1 := b0.next x1.below; have hb1 := next hb0 x1.below; obtain ⟨W2, hW2⟩ : ∃ W, W = w1.alloc (.cells #[.slice X1 tn c1] 22) := ⟨_, rfl⟩; have bt2 : Bl W2 w1.heap.size [.slice X1 tn c1] 22 := (by rw [hW2]; exact Bl.newA w1 #[.slice X1 tn c1] 22); have hbb2 : Below w1.heap.size w1 W2 := (by rw [hW2]; exact (Below.refl _ w1).alloc (Nat.le_refl _) _); have b2 := b1.next hbb2; have hb2 := next hb1 hbb2; have HW2 : Hid (w1.alloc (.cells #[.slice X1 tn c1] 22) = W2) := hW2.symm; clear hW2 mk1; have mk2 : True := trivial)
      | (have := mk2; go_at_call 33; rw [HW2.out]; refine (bsizeN_any tn W2 (by omega)).mono ?_; rintro e w' ⟨rfl, rfl⟩)
      | (have := mk2; at_make; refine wpList_make_full _ rfl _ _ 22 rfl W2.heap.size 5 i0 (.int .u8 0) 1 Tryz.underlying22 hi hz0 hz1 .i64 .i64 _ _ (tn + 16) rfl rfl (by omega) (by omega) (by rw [hz2]; omega) (by unfold maxLen; omega) (Nat.le_refl _) ?_; intro w3 hown hgrow; obtain ⟨b3x, hbb3⟩ := made_block1 (n := tn + 16) (by unfold maxLen; omega) hown hgrow; clear hown hgrow b3x; have b3 := b2.next hbb3; have hb3 := next hb2 hbb3; have bt3 := bt2.next hbb3; obtain ⟨b4f, hbb4, hz4⟩ := put_new w3 nilF (fC A n c r nu (some ⟨W2.heap.size, 0, none⟩) (tn + 16) (tn + 16)) 35 rfl; obtain ⟨W4, hW4⟩ : ∃ W, W = (w3.alloc (.cells nilF.toArray 35)).setCells w3.heap.size 0 (fC A n c r nu (some ⟨W2.heap.size, 0, none⟩) (tn + 16) (tn + 16)) := ⟨_, rfl⟩; rw [← hW4] at b4f hbb4 hz4; have HW4 := Lib.hid hW4; have b4 := b3.next hbb4; have hb4 := next hb3 hbb4; have bt4 := bt3.next hbb4; have wh4 := b4f.whole; clear hW4)
      | (have := mk2; refine wpList_build_to rfl 35 _ rfl (fC A n c r nu (some ⟨W2.heap.size, 0, none⟩) (tn + 16) (tn + 16)) (built_kf _ _ _ _ _ _ _ _) ?_)
      | (have := mk2; refine wpList_store_mid rfl 35 _ _ rfl _ _ ((fC A n c r nu (some ⟨W2.heap.size, 0, none⟩) (tn + 16) (tn + 16))).toArray rfl rfl (Bl.there_ (Bl.new w3 nilF 35) (by simp [nilF, fC])) size_kf (all_oneCell_toArray (fC_one _ _ _ _ _ _ _ _)) ?_; change wpList _ _ _ _ _ (World.setCells (w3.alloc (.cells nilF.toArray 35)) w3.heap.size 0 (fC A n c r nu (some ⟨W2.heap.size, 0, none⟩) (tn + 16) (tn + 16))); rw [← HW4.out]; clear mk2; have mk4 : True := trivial)
      | (have := mk5; refine wpList_load_mid rfl 35 _ rfl _ _ rfl (fC A n c r nu (some ⟨W2.heap.size, 0, none⟩) (tn + 16) (tn + 16)) _ wh5 Tryz.underlying35 rfl size_kf ?_)
      | (have := mk4; refine wpList_load_mid rfl 35 _ rfl _ _ rfl (fC A n c r nu (some ⟨W2.heap.size, 0, none⟩) (tn + 16) (tn + 16)) _ wh4 Tryz.underlying35 rfl size_kf ?_)
      | (have := mk4; go_at_call 20; refine (fright_any A n c r nu (some ⟨W2.heap.size, 0, none⟩) (tn + 16) (tn + 16) W4 (by omega) (by omega)).mono ?_; rintro e w5 ⟨rfl, hbb5⟩; rw [HK.out]; have b5 := b4.next hbb5; have hb5 := next hb4 hbb5; have bt5 := bt4.next hbb5; have b5f := b4f.next hbb5; have wh5 := b5f.whole; clear mk4; have mk5 : True := trivial)
      | (have := mk5; refine wpList_build_to rfl 35 _ rfl nilF built_kf0 ?_)
      | (have := mk5; refine wpList_store_mid rfl 35 _ _ rfl _ _ nilF.toArray rfl rfl (b5.there_ (by simp [nilF, fC])) size_kf (all_oneCell_toArray nilF_one) ?_)
      | fail)
    exact ret_row_tmp Tryz.results13 rfl (b5.over (vs := nilF) rfl) Tryz.underlying35 rfl size_kf rfl (retFile_nil rfl (below_setCells hb5 (Nat.le_refl _) _ _))
  | true =>
    have e1 := mkE_yes (hk0.trans hk)
    have hF : mkF pass S r nu m = ⟨S, r, nu, mkB pass S r nu m⟩ := by unfold mkF; rw [e1]; rfl
    rw [e1, hF]
    obtain ⟨⟨k1, k2, k3⟩, k4, k5, k6, k7, k8⟩ := (kfit_iff _ _ _ _).1 hk
    obtain ⟨rn, rfl⟩ : ∃ x : Nat, r = x := ⟨r.toNat, by omega⟩
    obtain ⟨un, rfl⟩ : ∃ x : Nat, nu = x := ⟨nu.toNat, by omega⟩
    subst k4
    obtain ⟨Bx, hBx⟩ : ∃ b, b = mkB pass S rn un m := ⟨_, rfl⟩
    have hBe : boxL (fkey pass S rn) (nonceL 0 un) (headL S rn un (tn + 16)) T = Bx := by rw [hBx]; unfold mkB; rw [← hT', hTl, Int.toNat_natCast, Int.toNat_natCast]
    have hBl : Bx.length = tn + 16 := by rw [hBx, mkB_len, ← hT', hTl]
    rw [← hBx]
    have HBE := Lib.hid hBe
    have HBL := Lib.hid hBl
    have HK := Lib.hid hk
    clear hqs hT' htn htt hTl hk0 hk e1 hF htl hl64 hs hp hT hr hsz0 k1 k2 k3 hBx hBe hBl
    have mk0 : True := trivial
    go_enter Tryz.func13, Tryz.ntmps13
    go_wp2_with (first
      | (have := mk0; refine wpList_alloc_zero rfl 35 rfl nilF zero_kf ?_; rw [HW0.out]; clear mk0; have mk1 : True := trivial)
      | (have := mk2; refine wpList_alloc_zero rfl 35 rfl nilF zero_kf ?_)
      | (have := mk1; go_at_call 32; refine HTT.out.mono ?_; rintro e w1 ⟨X1, c1, rfl, x1⟩; have b1 := b0.next x1.below; have hb1 := next hb0 x1.below; obtain ⟨W2, hW2⟩ : ∃ W, W = w1.alloc (.cells #[.slice X1 tn c1] 22) := ⟨_, rfl⟩; have bt2 : Bl W2 w1.heap.size [.slice X1 tn c1] 22 := (by rw [hW2]; exact Bl.newA w1 #[.slice X1 tn c1] 22); have hbb2 : Below w1.heap.size w1 W2 := (by rw [hW2]; exact (Below.refl _ w1).alloc (Nat.le_refl _) _); have b2 := b1.next hbb2; have hb2 := next hb1 hbb2; have HW2 : Hid (w1.alloc (.cells #[.slice X1 tn c1] 22) = W2) := hW2.symm; clear hW2 mk1; have mk2 : True := trivial)
      | (have := mk2; go_at_call 33; rw [HW2.out]; refine (bsizeN_any tn W2 (by omega)).mono ?_; rintro e w' ⟨rfl, rfl⟩)
      | (have := mk2; at_make; refine wpList_make_full _ rfl _ _ 22 rfl W2.heap.size 5 i0 (.int .u8 0) 1 Tryz.underlying22 hi hz0 hz1 .i64 .i64 _ _ (tn + 16) rfl rfl (by omega) (by omega) (by rw [hz2]; omega) (by unfold maxLen; omega) (Nat.le_refl _) ?_; intro w3 hown hgrow; obtain ⟨b3x, hbb3⟩ := made_block1 (n := tn + 16) (by unfold maxLen; omega) hown hgrow; clear hown hgrow b3x; have b3 := b2.next hbb3; have hb3 := next hb2 hbb3; have bt3 := bt2.next hbb3; obtain ⟨b4f, hbb4, hz4⟩ := put_new w3 nilF (fC A 16 c rn un (some ⟨W2.heap.size, 0, none⟩) (tn + 16) (tn + 16)) 35 rfl; obtain ⟨W4, hW4⟩ : ∃ W, W = (w3.alloc (.cells nilF.toArray 35)).setCells w3.heap.size 0 (fC A 16 c rn un (some ⟨W2.heap.size, 0, none⟩) (tn + 16) (tn + 16)) := ⟨_, rfl⟩; rw [← hW4] at b4f hbb4 hz4; have HW4 := Lib.hid hW4; have b4 := b3.next hbb4; have hb4 := next hb3 hbb4; have bt4 := bt3.next hbb4; have wh4 := b4f.whole; clear hW4)
      | (have := mk2; refine wpList_build_to rfl 35 _ rfl (fC A 16 c rn un (some ⟨W2.heap.size, 0, none⟩) (tn + 16) (tn + 16)) (built_kf _ _ _ _ _ _ _ _) ?_)
      | (have := mk2; refine wpList_store_mid rfl 35 _ _ rfl _ _ ((fC A 16 c rn un (some ⟨W2.heap.size, 0, none⟩) (tn + 16) (tn + 16))).toArray rfl rfl (Bl.there_ (Bl.new w3 nilF 35) (by simp [nilF, fC])) size_kf (all_oneCell_toArray (fC_one _ _ _ _ _ _ _ _)) ?_; change wpList _ _ _ _ _ (World.setCells (w3.alloc (.cells nilF.toArray 35)) w3.heap.size 0 (fC A 16 c rn un (some ⟨W2.heap.size, 0, none⟩) (tn + 16) (tn + 16))); rw [← HW4.out]; clear mk2; have mk4 : True := trivial)
      | (have := mk5; refine wpList_load_mid rfl 35 _ rfl _ _ rfl (fC A 16 c rn un (some ⟨W2.heap.size, 0, none⟩) (tn + 16) (tn + 16)) _ wh5 Tryz.underlying35 rfl size_kf ?_)
      | (have := mk4; refine wpList_load_mid rfl 35 _ rfl _ _ rfl (fC A 16 c rn un (some ⟨W2.heap.size, 0, none⟩) (tn + 16) (tn + 16)) _ wh4 Tryz.underlying35 rfl size_kf ?_)
      | (have := mk4; go_at_call 20; refine (fright_any A 16 c rn un (some ⟨W2.heap.size, 0, none⟩) (tn + 16) (tn + 16) W4 (by omega) (by omega)).mono ?_; rintro e w5 ⟨rfl, hbb5⟩; rw [HK.out]; have b5 := b4.next hbb5; have hb5 := next hb4 hbb5; have bt5 := bt4.next hbb5; have b5f := b4f.next hbb5; have wh5 := b5f.whole; clear mk4; have mk5 : True := trivial)
      | (have := mk5; go_at_call 34; refine (useS_any pass S T Ap np cp A c rn un (some ⟨W2.heap.size, 0, none⟩) (tn + 16) (tn + 16) w1.heap.size X1 tn c1 w5 (HP.out.nx hb5) (HSA.out.nx hb5) ((((x1.bys.nx hbb2).nx hbb3).nx hbb4).nx hbb5) (bt5.cell 0) ⟨by omega, by omega⟩ (by omega) (by omega) hnp (by omega) (HT.out.next hb5)).mono ?_; rintro e w6 ⟨X6, n6, c6, rfl, x6⟩; rw [HBE.out] at x6; obtain rfl : n6 = tn + 16 := x6.len.trans HBL.out; have b6 := b5.next x6.below; have hb6 := next hb5 x6.below; have o6 : Off w.heap.size (tn + 16) X6 := (fun _ ad e => by have := x6.new ad e; have := b5.lt; omega); clear mk5; have mk6 : True := trivial)
      | (have := mk6; go_at_call 37; refine (clone_any S w6 w6.heap.size A 16 c (HSA.out.nx hb6).sl HSA.out.cap HSA.out.none_ (by decide) (Nat.le_refl _)).mono ?_; rintro e w7 ⟨X7, c7, rfl, x7⟩; have b7 := b6.next x7.below; have hb7 := next hb6 x7.below; have o7 : Off w.heap.size 16 X7 := own_off x7.own b6.lt; have y6 := x6.bys.nx x7.below; have y7 := x7.bys)
      | (have := mk6; refine wpList_build_to rfl 35 _ rfl (fC X7 16 c7 rn un X6 (tn + 16) c6) (built_kf _ _ _ _ _ _ _ _) ?_)
      | (have := mk6; refine wpList_store_mid rfl 35 _ _ rfl _ _ (fC X7 16 c7 rn un X6 (tn + 16) c6).toArray rfl rfl (b7.there_ (by simp [nilF, fC])) size_kf (all_oneCell_toArray (fC_one _ _ _ _ _ _ _ _)) ?_)
      | fail)
    have hF : Hid (Fil (w7.setCells w.heap.size 0 (fC X7 16 c7 rn un X6 (tn + 16) c6)) X7 16 c7 S X6 (tn + 16) c6 Bx) := ⟨y7.nb (but_setCells (but_refl w7 _) 0 _) o7, y6.nb (but_setCells (but_refl w7 _) 0 _) o6⟩
    exact ret_row_tmp Tryz.results13 rfl (b7.over (vs := fC X7 16 c7 rn un X6 (tn + 16) c6) rfl) Tryz.underlying35 rfl size_kf rfl ⟨X7, 16, c7, X6, tn + 16, c6, rfl, hF.out, below_setCells hb7 (Nat.le_refl _) _ _⟩

end Go.Proofs.YtlnoopmblmkgkaaGreatDoor
