/- The walk of the law KeyfileMakes. -/
import Derived.Test.YtlnoopmblmkgkaaGreatDoorKefV
import Derived.Test.YtlnoopmblmkgkaaGreatDoorKefW
import Derived.Test.YtlnoopmblmkgkaaGreatDoorKefZ
import Derived.Test.YtlnoopmblmkgkaaGreatDoorKefI
import Derived.Test.YtlnoopmblmkgkaaGreatDoorKefN
import Derived.Test.YtlnoopmblmkgkaaGreatDoorKefU
import Derived.OrdersHeld
namespace Go.Proofs.YtlnoopmblmkgkaaGreatDoor
set_option maxRecDepth 100000
open Go Go.RowKit
set_option linter.unusedVariables false
set_option linter.unusedSimpArgs false

set_option maxHeartbeats 8000000 in
theorem keyfileMakes_walk (v : Value) (w : World) (hT : Tabs3 w) (s0 : KAskArg w v) :
    Calls Tryz.prog 3 #[v] w fun e w' => e = .returned (.bool true) ∧ Below w.heap.size w w' := by
  obtain ⟨A0, n0, c0, l0, A1, n1, c1, l1, r, nu, M, mn, mc, ms, A5, n5, c5, l5, x, y, rfl, ka⟩ := s0
  obtain ⟨W0, HW0, b0, hb0, hsz0⟩ := put_f w (kaC A0 n0 c0 A1 n1 c1 r nu M mn mc A5 n5 c5 x y) 26
  have wh0 := b0.whole
  have HT := Lib.hid hT
  have i0 := ka.pass.bys
  have i1 := ka.salt.bys
  have hn0 : n0 ≤ 140737488351232 := Nat.le_trans ka.pass.cap ka.pass.room
  have hn1 : n1 ≤ 140737488351232 := Nat.le_trans ka.salt.cap ka.salt.room
  clear hsz0 hT
  go_enter Tryz.func3, Tryz.ntmps3
  go_wp2_with (first
    | (refine wpList_box_agg rfl 26 _ rfl (kaC A0 n0 c0 A1 n1 c1 r nu M mn mc A5 n5 c5 x y) rfl ?_; rw [HW0.out])
    | (refine wpList_load_mid rfl 26 _ rfl _ _ rfl (kaC A0 n0 c0 A1 n1 c1 r nu M mn mc A5 n5 c5 x y) _ wh0 Tryz.underlying26 rfl size_ka ?_)
    | fail)
  refine (kfew_any A0 n0 c0 A1 n1 c1 r nu M mn mc A5 n5 c5 x y W0).mono ?_
  rintro e w1 ⟨⟨bb, rfl, hfew⟩, hb1⟩
  have hbw1 := next hb0 hb1
  have b1 := b0.next hb1
  have wh1 := b1.whole
  clear wh0 b0 hb0 hb1
  cases bb with
  | false =>
    go_wp2_with fail
    refine (awake11_any w1 (HT.out.next hbw1)).mono ?_
    rintro e w2 ⟨rfl, hb2⟩
    go_wp2
    go_ret
    exact ⟨rfl, next hbw1 hb2⟩
  | true =>
    obtain ⟨k1, k2, k3, k4, k5⟩ := hfew rfl
    clear hfew
    go_wp2_with (first
      | (refine wpList_load_mid rfl 26 _ rfl _ _ rfl (kaC A0 n0 c0 A1 n1 c1 r nu M mn mc A5 n5 c5 x y) _ wh1 Tryz.underlying26 rfl size_ka ?_)
      | fail)
    refine (rings_any A0 n0 c0 A1 n1 c1 r nu M mn mc ms A5 n5 c5 x y w1 (ka.masters.nx hbw1) k5).mono ?_
    rintro e w2 ⟨g, A, n, c, m, rfl, r2, q2, hmn, hwg, hb2⟩
    have hbw2 := next hbw1 hb2
    have b2 := b1.next hb2
    have hbn : Below w2.heap.size w2 (w2.alloc (.cells #[.slice A n c] 30)) := (Below.refl _ w2).alloc (Nat.le_refl _) _
    have cq := Bl.newA w2 #[.slice A n c] 30
    obtain ⟨qv, hqv⟩ : ∃ g, g = w2.heap.size := ⟨_, rfl⟩
    rw [← hqv] at cq
    have HQV : Hid (w2.heap.size = qv) := hqv.symm
    obtain ⟨w3, hw3⟩ : ∃ W, W = w2.alloc (.cells #[.slice A n c] 30) := ⟨_, rfl⟩
    rw [← hw3] at cq hbn
    have HW3 := Lib.hid hw3
    have r3 := (r2.next hbn).up hbn.size
    have q3 := q2.next hb2.size hbn
    have b3 := b2.next hbn
    have hbw3 := next hbw2 hbn
    have hB3 : w1.heap.size ≤ w3.heap.size := Nat.le_trans hb2.size hbn.size
    have hB1 : w1.heap.size ≤ w1.heap.size := Nat.le_refl _
    clear hw3 hbn hbw2 b2 r2 q2 hb2 wh1 b1
    go_wp2_with fail
    rw [HQV.out]
    try rw [← HW3.out]
    clear hqv HQV HW3
    obtain ⟨wc, hwc⟩ : ∃ W', W' = w3.drew := ⟨_, rfl⟩
    have hbd : Below w3.heap.size w3 wc := by rw [hwc]; exact (Below.refl _ w3).drew
    have b : Bl wc w.heap.size (kaC A0 n0 c0 A1 n1 c1 r nu M mn mc A5 n5 c5 x y) 26 := b3.next hbd
    have rr := (r3.next hbd).up hbd.size
    have qq := q3.next hB3 hbd
    have hB := Nat.le_trans hB3 hbd.size
    replace cq : Bl wc qv [.slice A n c] 30 := cq.next hbd
    have hb := next hbw3 hbd
    have hw1 : w.heap.size ≤ w1.heap.size := hbw1.size
    obtain ⟨S, hSd⟩ : ∃ S : World → Prop, S = fun w' => Bl w' w.heap.size (kaC A0 n0 c0 A1 n1 c1 r nu M mn mc A5 n5 c5 x y) 26 := ⟨_, rfl⟩
    have HSI : Hid (∀ w', Bl w' w.heap.size (kaC A0 n0 c0 A1 n1 c1 r nu M mn mc A5 n5 c5 x y) 26 → S w') := by unfold Hid; intro w' h; rw [hSd]; exact h
    have HS0 : Hid (∀ w', S w' → w'.cell? ⟨w.heap.size, 0, none⟩ = some (.slice A0 n0 c0)) := by unfold Hid; intro w' h; rw [hSd] at h; exact h.cell 0
    have HS1 : Hid (∀ w', S w' → w'.cell? ⟨w.heap.size, 1, none⟩ = some (.slice A1 n1 c1)) := by unfold Hid; intro w' h; rw [hSd] at h; exact h.cell 1
    have hS := HSI.out _ b
    clear hSd b3 r3 q3 hB3 hbw3 k1
    refine wp_region_held_drew (S := S) (by kernel_rfl) (by rw [← hwc]; exact hS) (fun _ => ?_)
    rw [← hwc]
    clear hwc hbd
    refine wpAnyH_take (i := 0) (v := (.pointer (some ⟨w.heap.size, 0, none⟩))) rfl (by kernel_rfl) (by kernel_rfl) (by kernel_rfl) (fun _ _ _ h => h) (Or.inl ⟨by rfl, fun _ hSw => by go_simp⟩) hS ?_
    simp only [List.getElem_toArray, List.getElem_cons_succ, List.getElem_cons_zero, Act.put, List.setIfInBounds_toArray, List.set_cons_zero, List.set_cons_succ]
    refine wpAnyH_take (i := 1) (v := (.slice A0 n0 c0)) rfl (by kernel_rfl) (by kernel_rfl) (by kernel_rfl) (fun _ _ _ h => h) (Or.inl ⟨by rfl, fun w' hSw => by have hq := HS0.out w' hSw; go_simp⟩) hS ?_
    simp only [List.getElem_toArray, List.getElem_cons_succ, List.getElem_cons_zero, Act.put, List.setIfInBounds_toArray, List.set_cons_zero, List.set_cons_succ]
    refine wpAnyH_take (i := 3) (v := (.pointer (some ⟨w.heap.size, 1, none⟩))) rfl (by kernel_rfl) (by kernel_rfl) (by kernel_rfl) (fun _ _ _ h => h) (Or.inl ⟨by rfl, fun _ hSw => by go_simp⟩) hS ?_
    simp only [List.getElem_toArray, List.getElem_cons_succ, List.getElem_cons_zero, Act.put, List.setIfInBounds_toArray, List.set_cons_zero, List.set_cons_succ]
    refine wpAnyH_take (i := 4) (v := (.slice A1 n1 c1)) rfl (by kernel_rfl) (by kernel_rfl) (by kernel_rfl) (fun _ _ _ h => h) (Or.inl ⟨by rfl, fun w' hSw => by have hq := HS1.out w' hSw; go_simp⟩) hS ?_
    simp only [List.getElem_toArray, List.getElem_cons_succ, List.getElem_cons_zero, Act.put, List.setIfInBounds_toArray, List.set_cons_zero, List.set_cons_succ]
    refine wpAnyH_ready (rs := [2]) (by kernel_rfl) (by simp) (AllReadyH.cons rfl (fun K hK => ?_) AllReadyH.nil)
    simp only [List.getElem_toArray, List.getElem_cons_succ, List.getElem_cons_zero, Act.put, List.setIfInBounds_toArray, List.set_cons_zero, List.set_cons_succ]
    go_simp
    refine (own_any l0 wc wc.heap.size A0 n0 c0 (i0.nx hb).sl i0.none_ (by omega) (Nat.le_refl _)).mono ?_
    rintro e wa ⟨X0, d0, rfl, x0⟩
    have hbn := x0.below
    have y0 := x0.bys
    clear x0
    replace b := b.next hbn
    replace hb := next hb hbn
    replace rr := (rr.next hbn).up hbn.size
    replace qq := qq.next hB hbn
    replace hB := Nat.le_trans hB hbn.size
    replace cq := cq.next hbn
    clear hbn
    replace hS := HSI.out _ b
    refine hK.out _ _ hS (fun _ => ?_)
    clear hK K
    refine wpAnyH_ready (rs := [5]) (by kernel_rfl) (by simp) (AllReadyH.cons rfl (fun K hK => ?_) AllReadyH.nil)
    simp only [List.getElem_toArray, List.getElem_cons_succ, List.getElem_cons_zero, Act.put, List.setIfInBounds_toArray, List.set_cons_zero, List.set_cons_succ]
    go_simp
    refine (own_any l1 wa wa.heap.size A1 n1 c1 (i1.nx hb).sl i1.none_ (by omega) (Nat.le_refl _)).mono ?_
    rintro e wb ⟨X1, d1, rfl, x1⟩
    have hbn := x1.below
    have y1 := x1.bys
    clear x1
    replace b := b.next hbn
    replace hb := next hb hbn
    replace rr := (rr.next hbn).up hbn.size
    replace qq := qq.next hB hbn
    replace hB := Nat.le_trans hB hbn.size
    replace cq := cq.next hbn
    replace y0 := y0.nx hbn
    clear hbn
    replace hS := HSI.out _ b
    refine hK.out _ _ hS (fun _ => ?_)
    clear hK K
    refine wpAnyH_take (i := 6) (v := (.slice X0 n0 d0)) rfl (by kernel_rfl) (by kernel_rfl) (by kernel_rfl) (fun _ _ _ h => h) (Or.inl ⟨by rfl, fun _ hSw => by go_simp⟩) hS ?_
    simp only [List.getElem_toArray, List.getElem_cons_succ, List.getElem_cons_zero, Act.put, List.setIfInBounds_toArray, List.set_cons_zero, List.set_cons_succ]
    refine wpAnyH_take (i := 7) (v := (.slice X1 n1 d1)) rfl (by kernel_rfl) (by kernel_rfl) (by kernel_rfl) (fun _ _ _ h => h) (Or.inl ⟨by rfl, fun _ hSw => by go_simp⟩) hS ?_
    simp only [List.getElem_toArray, List.getElem_cons_succ, List.getElem_cons_zero, Act.put, List.setIfInBounds_toArray, List.set_cons_zero, List.set_cons_succ]
    refine wpAnyH_done (by kernel_rfl) ?_ _
    clear hS HSI HS0 HS1
    obtain ⟨E, hE⟩ : ∃ E, E = mkE l1 r nu m := ⟨_, rfl⟩
    obtain ⟨F, hF⟩ : ∃ F, F = mkF l0 l1 r nu m := ⟨_, rfl⟩
    have HE : Hid (mkE l1 r nu m = E) := hE.symm
    have HF : Hid (mkF l0 l1 r nu m = F) := hF.symm
    have ok := rr.2.1
    have hEE : (E == E) = true := by simp
    have q2 : wb.cell? ⟨w.heap.size, 2, none⟩ = some (.int .i64 r) := b.cell 2
    have q3 : wb.cell? ⟨w.heap.size, 3, none⟩ = some (.int .i64 nu) := b.cell 3
    clear hE hF
    have mk0 : True := trivial
    go_wp2_with (first
      | (have := mk0; go_at_call 13; refine (make_any l0 l1 m X0 n0 d0 X1 n1 d1 r nu g wb y0 y1 rr (by omega) (by omega) (HT.out.next hb)).mono ?_; rw [HE.out, HF.out]; rintro e w4 ⟨Af, nf, cf, Bf, mf, df, rfl, ff, hbn⟩; replace b := b.next hbn; replace hb := next hb hbn; replace rr := (rr.next hbn).up hbn.size; replace qq := qq.next hB hbn; replace hB := Nat.le_trans hB hbn.size; replace cq := cq.next hbn; replace y0 := y0.nx hbn; replace y1 := y1.nx hbn; clear hbn; obtain ⟨bfile, hbn, hz5⟩ := put_new w4 nilF (fC Af nf cf F.r F.nu Bf mf df) 35 rfl; obtain ⟨W5, hW5⟩ : ∃ W, W = (w4.alloc (.cells nilF.toArray 35)).setCells w4.heap.size 0 (fC Af nf cf F.r F.nu Bf mf df) := ⟨_, rfl⟩; rw [← hW5] at bfile hbn hz5; have HW5 := Lib.hid hW5; replace b := b.next hbn; replace hb := next hb hbn; replace rr := (rr.next hbn).up hbn.size; replace qq := qq.next hB hbn; replace hB := Nat.le_trans hB hbn.size; replace cq := cq.next hbn; replace y0 := y0.nx hbn; replace y1 := y1.nx hbn; replace ff := ff.nx hbn; clear hbn hW5 mk0 hz5; have a0 : W5.cell? ⟨w.heap.size, 0, none⟩ = some (.slice A0 n0 c0) := b.cell 0; have a1 : W5.cell? ⟨w.heap.size, 1, none⟩ = some (.slice A1 n1 c1) := b.cell 1; have a2 : W5.cell? ⟨w.heap.size, 2, none⟩ = some (.int .i64 r) := b.cell 2; have a3 : W5.cell? ⟨w.heap.size, 3, none⟩ = some (.int .i64 nu) := b.cell 3; have aq : W5.cell? ⟨qv, 0, none⟩ = some (.slice A n c) := cq.cell 0; have mk1 : True := trivial)
      | (have := mk1; refine wpList_alloc_zero rfl 35 rfl nilF zero_kf ?_)
      | (have := mk1; refine wpList_store_mid rfl 35 _ _ rfl _ _ (fC Af nf cf F.r F.nu Bf mf df).toArray rfl rfl (Bl.there_ (Bl.new w4 nilF 35) (by simp [nilF, fC])) size_kf (all_oneCell_toArray (fC_one _ _ _ _ _ _ _ _)) ?_; change wpList _ _ _ _ _ (World.setCells (w4.alloc (.cells nilF.toArray 35)) w4.heap.size 0 (fC Af nf cf F.r F.nu Bf mf df)); rw [← HW5.out]; clear mk1; have mk2 : True := trivial)
      | (have := mk2; go_at_call 14; refine (rmake_any11 l0 l1 m ok A0 n0 c0 A1 n1 c1 r nu A n c W5 (i0.nx hb) (i1.nx hb) (qq.lift hB) (by omega) (by omega)).mono ?_; rw [HE.out, HF.out]; rintro e w6 ⟨Ag, ng, cg, Bg, mg, dg, rfl, fg, hbn⟩; replace b := b.next hbn; replace hb := next hb hbn; replace rr := (rr.next hbn).up hbn.size; replace qq := qq.next hB hbn; replace hB := Nat.le_trans hB hbn.size; replace cq := cq.next hbn; replace y0 := y0.nx hbn; replace y1 := y1.nx hbn; replace ff := ff.nx hbn; replace bfile := bfile.next hbn; clear hbn; obtain ⟨bfg, hbn, hz7⟩ := put_new w6 nilF (fC Ag ng cg F.r F.nu Bg mg dg) 39 rfl; obtain ⟨W7, hW7⟩ : ∃ W, W = (w6.alloc (.cells nilF.toArray 39)).setCells w6.heap.size 0 (fC Ag ng cg F.r F.nu Bg mg dg) := ⟨_, rfl⟩; rw [← hW7] at bfg hbn hz7; have HW7 := Lib.hid hW7; replace b := b.next hbn; replace hb := next hb hbn; replace rr := (rr.next hbn).up hbn.size; replace qq := qq.next hB hbn; replace hB := Nat.le_trans hB hbn.size; replace cq := cq.next hbn; replace y0 := y0.nx hbn; replace y1 := y1.nx hbn; replace ff := ff.nx hbn; replace fg := fg.nx hbn; replace bfile := bfile.next hbn; clear hbn hW7 mk2 hz7 a0 a1 a2 a3 aq; have wh5 := bfile.whole; have wh7 := bfg.whole; have mk3 : True := trivial)
      | (have := mk3; refine wpList_alloc_zero rfl 39 rfl nilF zero_rf ?_)
      | (have := mk3; refine wpList_store_mid rfl 39 _ _ rfl _ _ (fC Ag ng cg F.r F.nu Bg mg dg).toArray rfl rfl (Bl.there_ (Bl.new w6 nilF 39) (by simp [nilF, fC])) size_rf (all_oneCell_toArray (fC_one _ _ _ _ _ _ _ _)) ?_; change wpList _ _ _ _ _ (World.setCells (w6.alloc (.cells nilF.toArray 39)) w6.heap.size 0 (fC Ag ng cg F.r F.nu Bg mg dg)); rw [← HW7.out]; clear mk3; have mk4 : True := trivial)
      | (have := mk4; refine wpList_load_want (by rfl) 35 _ rfl _ _ rfl (fC Af nf cf F.r F.nu Bf mf df) _ wh5 Tryz.underlying35 rfl size_kf ?_)
      | (have := mk4; refine wpList_load_want (by rfl) 39 _ rfl _ _ rfl (fC Ag ng cg F.r F.nu Bg mg dg) _ wh7 Tryz.underlying39 rfl size_rf ?_)
      | (have := mk4; go_at_call 15; refine (same_any11 F.S F.X F.r F.nu Af nf cf Bf mf df Ag ng cg Bg mg dg W7 ff fg).mono ?_; rintro e w8 ⟨rfl, hbn⟩; replace b := b.next hbn; replace hb := next hb hbn; replace rr := (rr.next hbn).up hbn.size; replace qq := qq.next hB hbn; replace hB := Nat.le_trans hB hbn.size; replace cq := cq.next hbn; replace y0 := y0.nx hbn; replace y1 := y1.nx hbn; clear hbn wh5 wh7; have a0 : w8.cell? ⟨w.heap.size, 0, none⟩ = some (.slice A0 n0 c0) := b.cell 0; have a1 : w8.cell? ⟨w.heap.size, 1, none⟩ = some (.slice A1 n1 c1) := b.cell 1; have aq : w8.cell? ⟨qv, 0, none⟩ = some (.slice A n c) := cq.cell 0; have u0 := u8_str y0.sl d0; have u1 := u8_str (i0.nx hb).sl c0; have u2 := u8_str y1.sl d1; have u3 := u8_str (i1.nx hb).sl c1)
      | (have := mk4; go_at_call 16; refine (alike_any g w1.heap.size m m (fun _ => rfl) A n c w8 (HT.out.next hb) rr qq ok hB (by omega) (by omega)).mono ?_; rintro e w9 ⟨rfl, hb9⟩; replace hb9 := next hb hb9)
      | (have := mk4; go_at_call 10; refine (awake11_any w9 (HT.out.next hb9)).mono ?_; rintro e w10 ⟨rfl, hb10⟩)
      | fail)
    go_ret
    exact ⟨rfl, next hb9 hb10⟩

end Go.Proofs.YtlnoopmblmkgkaaGreatDoor
