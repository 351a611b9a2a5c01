/- Layer 11, keyfile, the document's: Make. -/
import Derived.Test.YtlnoopmblmkgkaaGreatDoorKefK
import Derived.Test.YtlnoopmblmkgkaaGreatDoorKefM
import Derived.Test.YtlnoopmblmkgkaaGreatDoorKefI
import Derived.Test.YtlnoopmblmkgkaaGreatDoorLX
import Derived.Test.YtlnoopmblmkgkaaGreatDoorLQ
import Derived.Test.YtlnoopmblmkgkaaGreatDoorLS
namespace Go.Proofs.YtlnoopmblmkgkaaGreatDoor
set_option maxRecDepth 100000
open Go Go.RowKit
set_option linter.unusedVariables false
set_option linter.unusedSimpArgs false

theorem By.off {w : World} {A : Option Addr} {n c g : Nat} {l : List UInt8} (h : By w A n c l) (hg : w.heap.size ≤ g) : Off g n A := h.sl.off hg

theorem Rr.lift {w : World} {B B' : Nat} {A : Option Addr} {n c : Nat} {m : RM} (h : Rr w B A n c m) (hB : B ≤ B') : Rr w B' A n c m := by
  obtain ⟨h1, h2, h3, xs, h4, h5, h6⟩ := h
  refine ⟨h1, h2, h3, xs, h4, h5, fun j hj => ?_⟩
  obtain ⟨a, K, d, b, c, e⟩ := h6 j hj
  exact ⟨a, K, d, b, c.up hB, e⟩

set_option maxHeartbeats 4000000 in
theorem rmake_any11 (pass S : List UInt8) (m : RM) (ok : RingOk m) (Ap : Option Addr) (np cp : Nat) (As : Option Addr) (ns cs : Nat) (r nu : Int) (A : Option Addr) (n c : Nat) (w : World) (hp : By w Ap np cp pass) (hs : By w As ns cs S) (hr : Rr w w.heap.size A n c m) (hnp : np ≤ 100000000) (hns : ns ≤ 140737488351232) :
    Calls Tryz.prog 14 #[.slice Ap np cp, .slice As ns cs, .int .i64 r, .int .i64 nu, .agg #[.slice A n c]] w (RetFile w (mkF pass S r nu m) (mkE S r nu m)) := by
  have hl64 := ring_le ok
  have htl := textR_len ok
  -- the ring's variable, the result's, the file's
  have bq := Bl.newA w #[.slice A n c] 30
  have hbq : Below w.heap.size w (w.alloc (.cells #[.slice A n c] 30)) := (Below.refl _ w).alloc (Nat.le_refl _) _
  obtain ⟨W0, hW0⟩ : ∃ W, W = w.alloc (.cells #[.slice A n c] 30) := ⟨_, rfl⟩
  rw [← hW0] at bq hbq
  have HW0 : Hid (w.alloc (.cells #[.slice A n c] 30) = W0) := hW0.symm
  obtain ⟨W1, HW1, b1, hbb1, hsz1⟩ := put_f W0 nilF 39
  obtain ⟨b2f, hbb2, hsz2⟩ := put_new W1 nilF (fC As ns cs r nu none 0 0) 39 rfl
  obtain ⟨W2, hW2⟩ : ∃ W, W = (W1.alloc (.cells nilF.toArray 39)).setCells W1.heap.size 0 (fC As ns cs r nu none 0 0) := ⟨_, rfl⟩
  rw [← hW2] at b2f hbb2 hsz2
  have HW2 := Lib.hid hW2
  obtain ⟨gr, hgr⟩ : ∃ g, g = W0.heap.size := ⟨_, rfl⟩
  obtain ⟨gf, hgf⟩ : ∃ g, g = W1.heap.size := ⟨_, rfl⟩
  have hqr : w.heap.size < gr := by rw [hgr]; exact bq.lt
  have hrf : gr < gf := by rw [hgf, hgr]; exact b1.lt
  rw [← hgr] at b1
  rw [← hgf] at b2f
  have HGR := Lib.hid hgr
  have HGF := Lib.hid hgf
  have hb2 := next (next hbq hbb1) hbb2
  have bq2 := (bq.next hbb1).next hbb2
  have b2 := b1.next hbb2
  have cq2 : W2.cell? ⟨w.heap.size, 0, none⟩ = some (.slice A n c) := bq2.cell 0
  obtain ⟨T, hT'⟩ : ∃ T, T = textR m := ⟨_, rfl⟩
  obtain ⟨tn, htn⟩ : ∃ tn, tn = T.length := ⟨_, rfl⟩
  have htn2 : tn ≤ 2112 := by rw [htn, hT', htl]; omega
  have htt := rtext_any11 m ok W2 A n c ((hr.next (Nat.le_refl _) hb2).lift hb2.size)
  rw [← hT', ← htn] at htt
  have HTT := Lib.hid htt
  have HTL : Hid (T.length = tn) := htn.symm
  have hqs : ((tn + 16 : Nat) : Int) = (tn : Int) + 16 := by omega
  have hk0 : kfit S.length r nu ((textR m).length + 16 : Nat) = kfit ns r nu ((tn : Int) + 16) := by rw [← hT', ← htn, hs.len, hqs]
  have HP := Lib.hid hp
  have HSA := Lib.hid hs
  have HSL := Lib.hid hs.len
  have wh2 := b2f.whole
  cases hk : kfit ns r nu ((tn : Int) + 16) with
  | false =>
    have e1 := mkE_no (hk0.trans hk)
    have hF : mkF pass S r nu m = nilV := by unfold mkF; rw [e1]; rfl
    rw [e1, hF]
    have HK := Lib.hid hk
    clear hqs hT' htn htt hk0 hk e1 hF htl hl64 hs hp hr hsz1 hsz2 hgr hgf hW0 hW2 b1 bq bq2 hbq hbb1 hbb2 wh2
    have mk0 : True := trivial
    go_enter Tryz.func14, Tryz.ntmps14
    go_wp2_with (first
      | (rw [HW0.out])
      | (have := mk0; refine wpList_alloc_zero rfl 39 rfl nilF zero_rf ?_; rw [HW1.out, ← HGR.out]; clear mk0; have mk1 : True := trivial)
      | (have := mk1; refine wpList_alloc_zero rfl 39 rfl nilF zero_rf ?_)
      | (have := mk1; refine wpList_build_to rfl 39 _ rfl (fC As ns cs r nu none 0 0) (built_rf3 _ _ _ _ _) ?_)
      | (have := mk1; refine wpList_store_mid rfl 39 _ _ rfl _ _ ((fC As ns cs r nu none 0 0)).toArray rfl rfl (Bl.there_ (Bl.new W1 nilF 39) (by simp [nilF, fC])) size_rf (all_oneCell_toArray (fC_one _ _ _ _ _ _ _ _)) ?_; change wpList _ _ _ _ _ (World.setCells (W1.alloc (.cells nilF.toArray 39)) W1.heap.size 0 (fC As ns cs r nu none 0 0)); rw [← HW2.out, ← HGF.out]; clear mk1; have mk2 : True := trivial)
      | (have := mk2; go_at_call 38; refine HTT.out.mono ?_; rintro e w3 ⟨X3, c3, rfl, x3⟩; have b3 := b2.next x3.below; have hb3 := next hb2 x3.below; have b3f := b2f.next x3.below; have wh3 := b3f.whole; clear mk2; have mk3 : True := trivial)
      | (have := mk3; refine wpList_load_mid rfl 39 _ rfl _ _ rfl (fC As ns cs r nu none 0 0) _ wh3 Tryz.underlying39 rfl size_rf ?_)
      | (have := mk3; go_at_call 21; refine (named_any As ns cs r nu none 0 0 ((tn : Int) + 16) w3 (by omega)).mono ?_; rintro e w4 ⟨rfl, hbb4⟩; rw [HK.out]; have b4 := b3.next hbb4; have hb4 := next hb3 hbb4; have b4f := b3f.next hbb4; have wh4 := b4f.whole; clear mk3; have mk4 : True := trivial)
      | (have := mk4; refine wpList_build_to rfl 39 _ rfl nilF built_rf0 ?_)
      | (have := mk4; refine wpList_store_mid rfl 39 _ _ rfl _ _ nilF.toArray rfl rfl (b4.there_ (by simp [nilF, fC])) size_rf (all_oneCell_toArray nilF_one) ?_)
      | fail)
    exact ret_row_tmp Tryz.results14 rfl (b4.over (vs := nilF) rfl) Tryz.underlying39 rfl size_rf rfl (retFile_nil rfl (below_setCells hb4 (Nat.le_of_lt hqr) _ _))
  | true =>
    have e1 := mkE_yes (hk0.trans hk)
    have hF : mkF pass S r nu m = ⟨S, r, nu, mkB pass S r nu m⟩ := by unfold mkF; rw [e1]; rfl
    rw [e1, hF]
    obtain ⟨⟨k1, k2, k3⟩, k4, k5, k6, k7, k8⟩ := (kfit_iff _ _ _ _).1 hk
    obtain ⟨rn, rfl⟩ : ∃ x : Nat, r = x := ⟨r.toNat, by omega⟩
    obtain ⟨un, rfl⟩ : ∃ x : Nat, nu = x := ⟨nu.toNat, by omega⟩
    subst k4
    obtain ⟨K, hK⟩ : ∃ K, K = fkey pass S rn := ⟨_, rfl⟩
    obtain ⟨N, hN⟩ : ∃ N, N = nonceL 0 un := ⟨_, rfl⟩
    obtain ⟨H, hH⟩ : ∃ H, H = headL S rn un (tn + 16) := ⟨_, rfl⟩
    have hfit := fkey_fit pass S (r := (rn : Int)) un (by omega) (by omega)
    obtain ⟨Bx, hBx⟩ : ∃ b, b = mkB pass S rn un m := ⟨_, rfl⟩
    have hBe : boxL K N H T = Bx := by rw [hBx, hK, hN, hH]; unfold mkB; rw [← hT', ← htn, Int.toNat_natCast, Int.toNat_natCast]
    have hBl : Bx.length = tn + 16 := by rw [hBx, mkB_len, ← hT', ← htn]
    rw [← hBx]
    have HSE : Hid (sealE K N = 0 ∧ sealR K N H T = Bx) := by unfold Hid sealE sealR; rw [hK, hN, if_pos hfit, if_pos hfit, ← hK, ← hN]; exact ⟨rfl, hBe⟩
    have HKE : Hid (keyE rn 32 = 0 ∧ keyL pass S rn 32 = K ∧ K.length = 32) := by unfold Hid; have := fkey_len pass S (r := (rn : Int)) (by omega) (by omega); rw [hK]; exact ⟨this.2, rfl, this.1⟩
    have HNE : Hid (nbE 0 un = 0 ∧ nbL 0 un = N) := by unfold Hid; rw [hN]; exact ⟨(nb_file (by omega)).2, (nb_file (by omega)).1⟩
    have HHD : Hid (∀ v, By v As 16 cs S → Calls Tryz.prog 42 #[.agg (fC As 16 cs rn un none 0 0).toArray, .int .i64 ((tn : Int) + 16)] v (RetBytes 5 v 33 H)) := by
      unfold Hid; intro v hv
      have := head_any11 S As cs rn un none 0 0 (tn + 16) v hv (by omega) (by omega) (by omega)
      rw [← hH, hqs] at this
      exact this
    have HBL := Lib.hid hBl
    have HK := Lib.hid hk
    have hS1 : Off gr 16 As := hs.off (by omega)
    have hS2 : Off gf 16 As := hs.off (by omega)
    clear hqs hT' htn htt hk0 hk e1 hF htl hl64 hs hp hr hsz1 hsz2 hgr hgf hW0 hW2 b1 bq bq2 hbq hbb1 hbb2 wh2 hK hN hH hfit hBx hBe hBl k1 k2 k3
    have mk0 : True := trivial
    go_enter Tryz.func14, Tryz.ntmps14
    go_wp2_with (first
      | (rw [HW0.out])
      | (have := mk0; refine wpList_alloc_zero rfl 39 rfl nilF zero_rf ?_; rw [HW1.out, ← HGR.out]; clear mk0; have mk1 : True := trivial)
      | (have := mk1; refine wpList_alloc_zero rfl 39 rfl nilF zero_rf ?_)
      | (have := mk1; refine wpList_build_to rfl 39 _ rfl (fC As 16 cs rn un none 0 0) (built_rf3 _ _ _ _ _) ?_)
      | (have := mk1; refine wpList_store_mid rfl 39 _ _ rfl _ _ ((fC As 16 cs rn un none 0 0)).toArray rfl rfl (Bl.there_ (Bl.new W1 nilF 39) (by simp [nilF, fC])) size_rf (all_oneCell_toArray (fC_one _ _ _ _ _ _ _ _)) ?_; change wpList _ _ _ _ _ (World.setCells (W1.alloc (.cells nilF.toArray 39)) W1.heap.size 0 (fC As 16 cs rn un none 0 0)); rw [← HW2.out, ← HGF.out]; clear mk1; have mk2 : True := trivial)
      | (have := mk2; go_at_call 38; refine HTT.out.mono ?_; rintro e w3 ⟨X3, c3, rfl, x3⟩; have b3 := b2.next x3.below; have hb3 := next hb2 x3.below; have b3f := b2f.next x3.below; have wh3 := b3f.whole; clear mk2; have mk3 : True := trivial)
      | (have := mk3; refine wpList_load_mid rfl 39 _ rfl _ _ rfl (fC As 16 cs rn un none 0 0) _ wh3 Tryz.underlying39 rfl size_rf ?_)
      | (have := mk3; go_at_call 21; refine (named_any As 16 cs rn un none 0 0 ((tn : Int) + 16) w3 (by omega)).mono ?_; rintro e w4 ⟨rfl, hbb4⟩; rw [HK.out]; have b4 := b3.next hbb4; have hb4 := next hb3 hbb4; have b4f := b3f.next hbb4; have wh4 := b4f.whole; clear mk3; have mk4 : True := trivial)
      | (have := mk4; go_at_call 39; refine (rkey_any pass S rn 32 w4 w4.heap.size Ap As np cp 16 cs (HP.out.nx hb4).sl HP.out.none_ hnp (HSA.out.nx hb4).sl HSA.out.none_ (by decide) (Nat.le_refl _)).mono ?_; rintro e w5 ⟨X5, n5, c5, rfl, x5⟩; rw [HKE.out.1]; rw [HKE.out.2.1] at x5; obtain rfl : n5 = 32 := x5.len.trans HKE.out.2.2; have b5 := b4.next x5.below; have hb5 := next hb4 x5.below; have b5f := b4f.next x5.below; have y5 := x5.bys; clear mk4; have mk5 : True := trivial)
      | (have := mk5; go_at_call 40; refine (rnof_any 0 un w5).mono ?_; rintro e w6 ⟨X6, n6, c6, rfl, x6⟩; rw [HNE.out.1]; rw [HNE.out.2] at x6; have b6 := b5.next x6.below; have hb6 := next hb5 x6.below; have b6f := b5f.next x6.below; have y56 := y5.nx x6.below; have y6 := x6.bys; have wh6 := b6f.whole; clear mk5; have mk6 : True := trivial)
      | (have := mk6; refine wpList_load_mid rfl 39 _ rfl _ _ rfl (fC As 16 cs rn un none 0 0) _ wh6 Tryz.underlying39 rfl size_rf ?_)
      | (have := mk6; go_at_call 42; refine (HHD.out w6 (HSA.out.nx hb6)).mono ?_; rintro e w7 ⟨X7, c7, rfl, x7⟩; have b7 := b6.next x7.below; have hb7 := next hb6 x7.below; have b7f := b6f.next x7.below; have y57 := y56.nx x7.below; have y67 := y6.nx x7.below; have y7 := x7.bys; clear mk6; have mk7 : True := trivial)
      | (have := mk7; go_at_call 41; refine (rseal_any K N H T X5 X6 X7 X3 32 n6 33 tn c5 c6 c7 c3 w7 y57.sl y67.sl y7.sl (((((x3.bys.nx hbb4).nx x5.below).nx x6.below).nx x7.below)).sl y57.cap y67.cap x3.bys.cap y57.none_ y67.none_ y7.none_ x3.bys.none_ (by decide) (by omega)).mono ?_; rintro e w8 ⟨X8, n8, c8, rfl, x8⟩; rw [HSE.out.1]; rw [HSE.out.2] at x8; obtain rfl : n8 = tn + 16 := x8.len.trans HBL.out; have b8 := b7.next x8.below; have hb8 := next hb7 x8.below; have b8f := b7f.next x8.below; have y8 := x8.bys; have o8r : Off gr (tn + 16) X8 := (fun _ ad e => by have := x8.new ad e; have := b7.lt; omega); have o8f : Off gf (tn + 16) X8 := (fun _ ad e => by have := x8.new ad e; have := b7f.lt; omega); have q38 : w8.cell? ⟨gf, 3, none⟩ = some (.slice none 0 0) := b8f.cell 3; have f38 := b8f.frozen 3; obtain ⟨W9, hW9⟩ : ∃ W, W = w8.setCell ⟨gf, 3, none⟩ (.slice X8 (tn + 16) c8) := ⟨_, rfl⟩; have b9f : Bl W9 gf (fC As 16 cs rn un X8 (tn + 16) c8) 39 := (by rw [hW9]; exact b8f.set 3 _); have b9 : Bl W9 gr nilF 39 := (by rw [hW9]; exact b8.set_other ⟨gf, 3, none⟩ _ (by show gr ≠ gf; omega)); have hb9 : Below w.heap.size w W9 := (by rw [hW9]; exact hb8.setCell (by show w.heap.size ≤ gf; omega) _); have yb9 : By W9 X8 (tn + 16) c8 Bx := (by rw [hW9]; exact y8.nb (but_setCell (but_refl w8 gf) 3 _) o8f); have HW9 : Hid (w8.setCell ⟨gf, 3, none⟩ (.slice X8 (tn + 16) c8) = W9) := hW9.symm; clear hW9; have wh9 := b9f.whole; clear mk7; have mk8 : True := trivial)
      | (have := mk8; rw [HW9.out]; clear mk8; have mk9 : True := trivial)
      | (have := mk9; refine wpList_load_mid rfl 39 _ rfl _ _ rfl (fC As 16 cs rn un X8 (tn + 16) c8) _ wh9 Tryz.underlying39 rfl size_rf ?_)
      | (have := mk9; refine wpList_store_mid rfl 39 _ _ rfl _ _ (fC As 16 cs rn un X8 (tn + 16) c8).toArray rfl rfl (b9.there_ (by simp [nilF, fC])) size_rf (all_oneCell_toArray (fC_one _ _ _ _ _ _ _ _)) ?_)
      | fail)
    have ys9 : By W9 As 16 cs S := HSA.out.nx hb9
    have hF : Hid (Fil (W9.setCells gr 0 (fC As 16 cs rn un X8 (tn + 16) c8)) As 16 cs S X8 (tn + 16) c8 Bx) := ⟨ys9.nb (but_setCells (but_refl W9 _) 0 _) hS1, yb9.nb (but_setCells (but_refl W9 _) 0 _) o8r⟩
    exact ret_row_tmp Tryz.results14 rfl (b9.over (vs := fC As 16 cs rn un X8 (tn + 16) c8) rfl) Tryz.underlying39 rfl size_rf rfl ⟨As, 16, cs, X8, tn + 16, c8, rfl, hF.out, below_setCells hb9 (Nat.le_of_lt hqr) _ _⟩

end Go.Proofs.YtlnoopmblmkgkaaGreatDoor
