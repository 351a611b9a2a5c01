/- The walk of the law KeyfileBack. -/
import Derived.Test.YtlnoopmblmkgkaaGreatDoorKefV
import Derived.Test.YtlnoopmblmkgkaaGreatDoorKefW
import Derived.Test.YtlnoopmblmkgkaaGreatDoorKefZ
import Derived.Test.YtlnoopmblmkgkaaGreatDoorKefI
import Derived.Test.YtlnoopmblmkgkaaGreatDoorKefJ
import Derived.OrdersHeld
namespace Go.Proofs.YtlnoopmblmkgkaaGreatDoor
set_option maxRecDepth 100000
open Go Go.RowKit
set_option linter.unusedVariables false
set_option linter.unusedSimpArgs false

theorem size_ka : (Tryz.prog.info? 26).map (·.size) = some 8 := by kernel_rfl
theorem InPairs.nx {w w' : World} {A : Option Addr} {n c : Nat} {ds : List (Int × List UInt8)} (h : InPairs w A n c ds) (hb : Below w.heap.size w w') : InPairs w' A n c ds :=
  ⟨fun j hj => by
    obtain ⟨ad, e, hp⟩ := h.at_ j hj
    obtain ⟨a1, a2, M, c', a3, a4, a5, a6⟩ := hp.below hb
    exact ⟨ad, e, a1, Nat.lt_of_lt_of_le a2 hb.size, M, c', a3, a4, a5.up hb.size, a6⟩, h.len, h.cap, h.none_⟩
/-- Bytes do not lie where a file lies. -/
theorem off_file {w : World} {g : Nat} {t : TypeId} {A : Option Addr} {n c : Nat} {l : List UInt8} (hb : Bl w g nilF t) (hy : By w A n c l) : Off g n A := by
  intro hn ad e hg
  subst e
  obtain ⟨ad', e', _, hcl⟩ := hy.sl.2 hn
  injection e' with e'
  subst e'
  have hl := hy.len
  have h0 := hcl 0 (.int .u8 (l[0]'(by omega)).toNat) (by rw [cb, List.getElem?_map, List.getElem?_eq_getElem (by omega)]; rfl)
  rw [add_none] at h0
  obtain ⟨b, o, s⟩ := ad
  simp only at hg
  subst hg
  have hbb := hb
  cases s with
  | some k => unfold World.cell? at h0; split at h0 <;> simp at h0
  | none =>
  rw [hb.cell o] at h0
  match o, h0 with
  | 0, h0 => simp [nilF, fC] at h0
  | 1, h0 => simp [nilF, fC] at h0
  | 2, h0 => simp [nilF, fC] at h0
  | 3, h0 => simp [nilF, fC] at h0
  | o + 4, h0 => simp [nilF, fC] at h0

set_option maxHeartbeats 8000000 in
theorem keyfileBack_walk (v : Value) (w : World) (hT : Tabs3 w) (s0 : KAskArg w v) :
    Calls Tryz.prog 7 #[v] w fun e w' => e = .returned (.bool true) ∧ Below w.heap.size w w' := by
  obtain ⟨A0, n0, c0, l0, A1, n1, c1, l1, r, nu, M, mn, mc, ms, A5, n5, c5, l5, x, y, rfl, ka⟩ := s0
  obtain ⟨W0, HW0, b0, hb0, hsz0⟩ := put_f w (kaC A0 n0 c0 A1 n1 c1 r nu M mn mc A5 n5 c5 x y) 26
  have wh0 := b0.whole
  have HT := Lib.hid hT
  have i0 := ka.pass.bys
  have i1 := ka.salt.bys
  have hn0 : n0 ≤ 140737488351232 := Nat.le_trans ka.pass.cap ka.pass.room
  have hn1 : n1 ≤ 140737488351232 := Nat.le_trans ka.salt.cap ka.salt.room
  clear hsz0 hT
  go_enter Tryz.func7, Tryz.ntmps7
  go_wp2_with (first
    | (refine wpList_box_agg rfl 26 _ rfl (kaC A0 n0 c0 A1 n1 c1 r nu M mn mc A5 n5 c5 x y) rfl ?_; rw [HW0.out])
    | (refine wpList_load_mid rfl 26 _ rfl _ _ rfl (kaC A0 n0 c0 A1 n1 c1 r nu M mn mc A5 n5 c5 x y) _ wh0 Tryz.underlying26 rfl size_ka ?_)
    | fail)
  refine (kfew_any A0 n0 c0 A1 n1 c1 r nu M mn mc A5 n5 c5 x y W0).mono ?_
  rintro e w1 ⟨⟨bb, rfl, hfew⟩, hb1⟩
  have hbw1 := next hb0 hb1
  have b1 := b0.next hb1
  have wh1 := b1.whole
  clear wh0 b0 hb0 hb1
  cases bb with
  | false =>
    go_wp2_with fail
    refine (awake11_any w1 (HT.out.next hbw1)).mono ?_
    rintro e w2 ⟨rfl, hb2⟩
    go_wp2
    go_ret
    exact ⟨rfl, next hbw1 hb2⟩
  | true =>
    obtain ⟨k1, k2, k3, k4, k5⟩ := hfew rfl
    clear hfew
    go_wp2_with (first
      | (refine wpList_load_mid rfl 26 _ rfl _ _ rfl (kaC A0 n0 c0 A1 n1 c1 r nu M mn mc A5 n5 c5 x y) _ wh1 Tryz.underlying26 rfl size_ka ?_)
      | fail)
    refine (rings_any A0 n0 c0 A1 n1 c1 r nu M mn mc ms A5 n5 c5 x y w1 (ka.masters.nx hbw1) k5).mono ?_
    rintro e w2 ⟨g, A, n, c, m, rfl, r2, q2, hmn, hwg, hb2⟩
    have hbw2 := next hbw1 hb2
    have b2 := b1.next hb2
    have hbn : Below w2.heap.size w2 (w2.alloc (.cells #[.slice A n c] 30)) := (Below.refl _ w2).alloc (Nat.le_refl _) _
    have cq := Bl.newA w2 #[.slice A n c] 30
    obtain ⟨qv, hqv⟩ : ∃ g, g = w2.heap.size := ⟨_, rfl⟩
    rw [← hqv] at cq
    have HQV : Hid (w2.heap.size = qv) := hqv.symm
    obtain ⟨w3, hw3⟩ : ∃ W, W = w2.alloc (.cells #[.slice A n c] 30) := ⟨_, rfl⟩
    rw [← hw3] at cq hbn
    have HW3 := Lib.hid hw3
    have r3 := (r2.next hbn).up hbn.size
    have q3 := q2.next hb2.size hbn
    have b3 := b2.next hbn
    have hbw3 := next hbw2 hbn
    have hB3 : w1.heap.size ≤ w3.heap.size := Nat.le_trans hb2.size hbn.size
    have hB1 : w1.heap.size ≤ w1.heap.size := Nat.le_refl _
    clear hw3 hbn hbw2 b2 r2 q2 hb2 wh1 b1
    go_wp2_with fail
    rw [HQV.out]
    try rw [← HW3.out]
    clear hqv HQV HW3
    obtain ⟨wc, hwc⟩ : ∃ W', W' = w3.drew := ⟨_, rfl⟩
    have hbd : Below w3.heap.size w3 wc := by rw [hwc]; exact (Below.refl _ w3).drew
    have b : Bl wc w.heap.size (kaC A0 n0 c0 A1 n1 c1 r nu M mn mc A5 n5 c5 x y) 26 := b3.next hbd
    have rr := (r3.next hbd).up hbd.size
    have qq := q3.next hB3 hbd
    have hB := Nat.le_trans hB3 hbd.size
    replace cq : Bl wc qv [.slice A n c] 30 := cq.next hbd
    have hb := next hbw3 hbd
    have hw1 : w.heap.size ≤ w1.heap.size := hbw1.size
    obtain ⟨S, hSd⟩ : ∃ S : World → Prop, S = fun w' => Bl w' w.heap.size (kaC A0 n0 c0 A1 n1 c1 r nu M mn mc A5 n5 c5 x y) 26 := ⟨_, rfl⟩
    have HSI : Hid (∀ w', Bl w' w.heap.size (kaC A0 n0 c0 A1 n1 c1 r nu M mn mc A5 n5 c5 x y) 26 → S w') := by unfold Hid; intro w' h; rw [hSd]; exact h
    have HS0 : Hid (∀ w', S w' → w'.cell? ⟨w.heap.size, 0, none⟩ = some (.slice A0 n0 c0)) := by unfold Hid; intro w' h; rw [hSd] at h; exact h.cell 0
    have HS1 : Hid (∀ w', S w' → w'.cell? ⟨w.heap.size, 1, none⟩ = some (.slice A1 n1 c1)) := by unfold Hid; intro w' h; rw [hSd] at h; exact h.cell 1
    have HS2 : Hid (∀ w', S w' → w'.cell? ⟨w.heap.size, 2, none⟩ = some (.int .i64 r)) := by unfold Hid; intro w' h; rw [hSd] at h; exact h.cell 2
    have HS3 : Hid (∀ w', S w' → w'.cell? ⟨w.heap.size, 3, none⟩ = some (.int .i64 nu)) := by unfold Hid; intro w' h; rw [hSd] at h; exact h.cell 3
    have hS := HSI.out _ b
    clear hSd b3 r3 q3 hB3 hbw3 k1
    refine wp_region_held_drew (S := S) (by kernel_rfl) (by rw [← hwc]; exact hS) (fun _ => ?_)
    rw [← hwc]
    clear hwc hbd
    refine wpAnyH_take (i := 0) (v := (.pointer (some ⟨w.heap.size, 0, none⟩))) rfl (by kernel_rfl) (by kernel_rfl) (by kernel_rfl) (fun _ _ _ h => h) (Or.inl ⟨by rfl, fun _ hSw => by go_simp⟩) hS ?_
    simp only [List.getElem_toArray, List.getElem_cons_succ, List.getElem_cons_zero, Act.put, List.setIfInBounds_toArray, List.set_cons_zero, List.set_cons_succ]
    refine wpAnyH_take (i := 1) (v := (.slice A0 n0 c0)) rfl (by kernel_rfl) (by kernel_rfl) (by kernel_rfl) (fun _ _ _ h => h) (Or.inl ⟨by rfl, fun w' hSw => by have hq := HS0.out w' hSw; go_simp⟩) hS ?_
    simp only [List.getElem_toArray, List.getElem_cons_succ, List.getElem_cons_zero, Act.put, List.setIfInBounds_toArray, List.set_cons_zero, List.set_cons_succ]
    refine wpAnyH_take (i := 3) (v := (.pointer (some ⟨w.heap.size, 1, none⟩))) rfl (by kernel_rfl) (by kernel_rfl) (by kernel_rfl) (fun _ _ _ h => h) (Or.inl ⟨by rfl, fun _ hSw => by go_simp⟩) hS ?_
    simp only [List.getElem_toArray, List.getElem_cons_succ, List.getElem_cons_zero, Act.put, List.setIfInBounds_toArray, List.set_cons_zero, List.set_cons_succ]
    refine wpAnyH_take (i := 4) (v := (.slice A1 n1 c1)) rfl (by kernel_rfl) (by kernel_rfl) (by kernel_rfl) (fun _ _ _ h => h) (Or.inl ⟨by rfl, fun w' hSw => by have hq := HS1.out w' hSw; go_simp⟩) hS ?_
    simp only [List.getElem_toArray, List.getElem_cons_succ, List.getElem_cons_zero, Act.put, List.setIfInBounds_toArray, List.set_cons_zero, List.set_cons_succ]
    refine wpAnyH_take (i := 6) (v := (.pointer (some ⟨w.heap.size, 2, none⟩))) rfl (by kernel_rfl) (by kernel_rfl) (by kernel_rfl) (fun _ _ _ h => h) (Or.inl ⟨by rfl, fun _ hSw => by go_simp⟩) hS ?_
    simp only [List.getElem_toArray, List.getElem_cons_succ, List.getElem_cons_zero, Act.put, List.setIfInBounds_toArray, List.set_cons_zero, List.set_cons_succ]
    refine wpAnyH_take (i := 7) (v := (.int .i64 r)) rfl (by kernel_rfl) (by kernel_rfl) (by kernel_rfl) (fun _ _ _ h => h) (Or.inl ⟨by rfl, fun w' hSw => by have hq := HS2.out w' hSw; go_simp⟩) hS ?_
    simp only [List.getElem_toArray, List.getElem_cons_succ, List.getElem_cons_zero, Act.put, List.setIfInBounds_toArray, List.set_cons_zero, List.set_cons_succ]
    refine wpAnyH_take (i := 8) (v := (.pointer (some ⟨w.heap.size, 3, none⟩))) rfl (by kernel_rfl) (by kernel_rfl) (by kernel_rfl) (fun _ _ _ h => h) (Or.inl ⟨by rfl, fun _ hSw => by go_simp⟩) hS ?_
    simp only [List.getElem_toArray, List.getElem_cons_succ, List.getElem_cons_zero, Act.put, List.setIfInBounds_toArray, List.set_cons_zero, List.set_cons_succ]
    refine wpAnyH_take (i := 9) (v := (.int .i64 nu)) rfl (by kernel_rfl) (by kernel_rfl) (by kernel_rfl) (fun _ _ _ h => h) (Or.inl ⟨by rfl, fun w' hSw => by have hq := HS3.out w' hSw; go_simp⟩) hS ?_
    simp only [List.getElem_toArray, List.getElem_cons_succ, List.getElem_cons_zero, Act.put, List.setIfInBounds_toArray, List.set_cons_zero, List.set_cons_succ]
    refine wpAnyH_take (i := 10) (v := (.pointer (some ⟨g, 0, none⟩))) rfl (by kernel_rfl) (by kernel_rfl) (by kernel_rfl) (fun _ _ _ h => h) (Or.inl ⟨by rfl, fun _ hSw => by go_simp⟩) hS ?_
    simp only [List.getElem_toArray, List.getElem_cons_succ, List.getElem_cons_zero, Act.put, List.setIfInBounds_toArray, List.set_cons_zero, List.set_cons_succ]
    obtain ⟨E, hE⟩ : ∃ E, E = mkE l1 r nu m := ⟨_, rfl⟩
    obtain ⟨F, hF⟩ : ∃ F, F = mkF l0 l1 r nu m := ⟨_, rfl⟩
    have HE : Hid (mkE l1 r nu m = E) := hE.symm
    have HF : Hid (mkF l0 l1 r nu m = F) := hF.symm
    have ok := rr.2.1
    by_cases hE0 : E = 0
    · obtain ⟨hk, hoE, hoM⟩ := made_back (pass := l0) ok (by rw [← hE]; exact hE0)
      obtain ⟨Bx, hBx⟩ : ∃ b, b = mkB l0 l1 r nu m := ⟨_, rfl⟩
      have hFv : F = ⟨l1, r, nu, Bx⟩ := by rw [hF, hBx]; unfold mkF; rw [if_pos (by rw [← hE]; exact hE0)]
      obtain ⟨M2, hM2⟩ : ∃ b, b = sortR m := ⟨_, rfl⟩
      rw [← hBx] at hk hoE hoM
      rw [← hM2] at hoM
      have HK := Lib.hid hk
      have HOE := Lib.hid hoE
      have HOM := Lib.hid hoM
      have HOK := Lib.hid ok
      have HSR : Hid (SameR M2 m) := by unfold Hid; rw [hM2]; exact sortR_same ok
      have HM2 : Hid (M2.length ≤ 1000) := by unfold Hid; rw [hM2, sortR_len, repochs_count ok]; omega
      have HBL : Hid (Bx.length ≤ 140737488351232) := by unfold Hid; rw [hBx, mkB_len, textR_len ok]; omega
      clear hk hoE hoM hBx hM2 hE hF
      subst hFv
      subst hE0
      refine wpAnyH_ready (rs := [2, 15]) (by kernel_rfl) (by simp) (AllReadyH.cons rfl (fun K hK => ?_) (AllReadyH.cons rfl (fun K hK => ?_) AllReadyH.nil))
      · simp only [List.getElem_toArray, List.getElem_cons_succ, List.getElem_cons_zero, Act.put, List.setIfInBounds_toArray, List.set_cons_zero, List.set_cons_succ]
        go_simp
        refine (own_any l0 wc wc.heap.size A0 n0 c0 (i0.nx hb).sl i0.none_ (by omega) (Nat.le_refl _)).mono ?_
        rintro e wa52 ⟨X0, d0, rfl, x0⟩
        have hbn := x0.below
        have y0 := x0.bys
        clear x0
        replace b := b.next hbn
        replace hb := next hb hbn
        replace rr := (rr.next hbn).up hbn.size
        replace qq := qq.next hB hbn
        replace hB := Nat.le_trans hB hbn.size
        replace cq := cq.next hbn
        clear hbn
        replace hS := HSI.out _ b
        refine hK.out _ _ hS (fun _ => ?_)
        clear hK K
        refine wpAnyH_ready (rs := [5, 15]) (by kernel_rfl) (by simp) (AllReadyH.cons rfl (fun K hK => ?_) (AllReadyH.cons rfl (fun K hK => ?_) AllReadyH.nil))
        · simp only [List.getElem_toArray, List.getElem_cons_succ, List.getElem_cons_zero, Act.put, List.setIfInBounds_toArray, List.set_cons_zero, List.set_cons_succ]
          go_simp
          refine (own_any l1 wa52 wa52.heap.size A1 n1 c1 (i1.nx hb).sl i1.none_ (by omega) (Nat.le_refl _)).mono ?_
          rintro e wb53 ⟨X1, d1, rfl, x1⟩
          have hbn := x1.below
          have y1 := x1.bys
          clear x1
          replace b := b.next hbn
          replace hb := next hb hbn
          replace rr := (rr.next hbn).up hbn.size
          replace qq := qq.next hB hbn
          replace hB := Nat.le_trans hB hbn.size
          replace cq := cq.next hbn
          replace y0 := y0.nx hbn
          clear hbn
          replace hS := HSI.out _ b
          refine hK.out _ _ hS (fun _ => ?_)
          clear hK K
          refine wpAnyH_ready (rs := [11, 15]) (by kernel_rfl) (by simp) (AllReadyH.cons rfl (fun K hK => ?_) (AllReadyH.cons rfl (fun K hK => ?_) AllReadyH.nil))
          · simp only [List.getElem_toArray, List.getElem_cons_succ, List.getElem_cons_zero, Act.put, List.setIfInBounds_toArray, List.set_cons_zero, List.set_cons_succ]
            go_simp
            refine (make_any l0 l1 m X0 n0 d0 X1 n1 d1 r nu g wb53 y0 y1 rr (by omega) (by omega) (HT.out.next hb)).mono ?_
            rw [HE.out, HF.out]
            rintro e wc54 ⟨Af, nf, cf, Bf, mf, df, rfl, ff, hbn⟩
            replace b := b.next hbn
            replace hb := next hb hbn
            replace rr := (rr.next hbn).up hbn.size
            replace qq := qq.next hB hbn
            replace hB := Nat.le_trans hB hbn.size
            replace cq := cq.next hbn
            replace y0 := y0.nx hbn
            replace y1 := y1.nx hbn
            clear hbn
            replace hS := HSI.out _ b
            refine hK.out _ _ hS (fun _ => ?_)
            clear hK K
            refine wpAnyH_take (i := 12) (v := (.tuple #[.agg (fC Af nf cf r nu Bf mf df).toArray, .int .i64 0])) rfl (by kernel_rfl) (by kernel_rfl) (by kernel_rfl) (fun _ _ _ h => h) (Or.inl ⟨by rfl, fun _ hSw => by go_simp⟩) hS ?_
            simp only [List.getElem_toArray, List.getElem_cons_succ, List.getElem_cons_zero, Act.put, List.setIfInBounds_toArray, List.set_cons_zero, List.set_cons_succ]
            refine wpAnyH_take (i := 13) (v := (.agg (fC Af nf cf r nu Bf mf df).toArray)) rfl (by kernel_rfl) (by kernel_rfl) (by kernel_rfl) (fun _ _ _ h => h) (Or.inl ⟨by rfl, fun _ hSw => by go_simp⟩) hS ?_
            simp only [List.getElem_toArray, List.getElem_cons_succ, List.getElem_cons_zero, Act.put, List.setIfInBounds_toArray, List.set_cons_zero, List.set_cons_succ]
            refine wpAnyH_take (i := 14) (v := (.int .i64 0)) rfl (by kernel_rfl) (by kernel_rfl) (by kernel_rfl) (fun _ _ _ h => h) (Or.inl ⟨by rfl, fun _ hSw => by go_simp⟩) hS ?_
            simp only [List.getElem_toArray, List.getElem_cons_succ, List.getElem_cons_zero, Act.put, List.setIfInBounds_toArray, List.set_cons_zero, List.set_cons_succ]
            refine wpAnyH_ready (rs := [15]) (by kernel_rfl) (by simp) (AllReadyH.cons rfl (fun K hK => ?_) AllReadyH.nil)
            simp only [List.getElem_toArray, List.getElem_cons_succ, List.getElem_cons_zero, Act.put, List.setIfInBounds_toArray, List.set_cons_zero, List.set_cons_succ]
            rw [if_pos (by rfl)]
            refine wp_alloc_zero 35 rfl nilF zero_kf ?_
            obtain ⟨wz55, hwz55⟩ : ∃ W, W = wc54.alloc (.cells nilF.toArray 35) := ⟨_, rfl⟩
            have bf := Bl.new wc54 nilF 35
            have hbn : Below wc54.heap.size wc54 (wc54.alloc (.cells nilF.toArray 35)) := (Below.refl _ wc54).alloc (Nat.le_refl _) _
            obtain ⟨gf, hgf⟩ : ∃ g, g = wc54.heap.size := ⟨_, rfl⟩
            rw [← hwz55] at bf hbn
            rw [← hwz55]
            rw [← hgf] at bf
            rw [← hgf]
            have hgw : w.heap.size ≤ gf := by rw [hgf]; exact hb.size
            have hg1 : w1.heap.size ≤ gf := by rw [hgf]; exact hB
            have hgg : gf ≠ g := by have := rr.lt; omega
            have hgq : Off gf (m.length * 2) A := qq.off (by omega)
            have hgv : qv ≠ gf := by have := cq.lt; omega
            have hgk : w.heap.size ≠ gf := by have := b.lt; omega
            clear hwz55 hgf
            replace b := b.next hbn
            replace hb := next hb hbn
            replace rr := (rr.next hbn).up hbn.size
            replace qq := qq.next hB hbn
            replace hB := Nat.le_trans hB hbn.size
            replace cq := cq.next hbn
            replace y0 := y0.nx hbn
            replace y1 := y1.nx hbn
            replace ff := ff.nx hbn
            clear hbn
            replace hS := HSI.out _ b
            refine hK.out _ _ hS (fun _ => ?_)
            clear hK K
            refine wpAnyH_ready (rs := [16]) (by kernel_rfl) (by simp) (AllReadyH.cons rfl (fun K hK => ?_) AllReadyH.nil)
            simp only [List.getElem_toArray, List.getElem_cons_succ, List.getElem_cons_zero, Act.put, List.setIfInBounds_toArray, List.set_cons_zero, List.set_cons_succ]
            rw [if_pos (by rfl)]
            refine wp_store_mid 35 _ _ rfl _ _ (fC Af nf cf r nu Bf mf df).toArray rfl rfl (bf.there_ (by simp [nilF, fC])) size_kf (all_oneCell_toArray (fC_one _ _ _ _ _ _ _ _)) ?_
            have hgb : wz55.grownBy (wz55.setCells gf 0 (fC Af nf cf r nu Bf mf df)) (some gf) := but_setCells (but_refl wz55 _) 0 _
            have o1 := off_file bf ff.salt
            have o2 := off_file bf ff.box
            have bfile : Bl (wz55.setCells gf 0 (fC Af nf cf r nu Bf mf df)) gf (fC Af nf cf r nu Bf mf df) 35 := bf.over rfl
            replace ff := ff.nb hgb o1 o2
            replace b := b.grown hgb (fun e => hgk (Option.some.inj e).symm)
            replace cq := cq.grown hgb (fun e => hgv (Option.some.inj e).symm)
            replace rr := (rr.other bf hgg hgb).up hgb.size
            replace qq := qq.row hgb hB hg1 hgq
            replace hb := below_setCells hb hgw 0 (fC Af nf cf r nu Bf mf df)
            replace hB := Nat.le_trans hB hgb.size
            obtain ⟨wf, hwf⟩ : ∃ W, W = wz55.setCells gf 0 (fC Af nf cf r nu Bf mf df) := ⟨_, rfl⟩
            rw [← hwf] at b cq rr qq hb hB ff bfile
            rw [← hwf]
            clear hwf hgb o1 o2 bf
            replace hS := HSI.out _ b
            refine hK.out _ _ hS (fun _ => ?_)
            clear hK K
            simp only [List.getElem_toArray, List.getElem_cons_succ, List.getElem_cons_zero, Act.put, List.setIfInBounds_toArray, List.set_cons_zero, List.set_cons_succ]
            refine wpAnyH_take (i := 17) (v := (.int .i64 0)) rfl (by kernel_rfl) (by kernel_rfl) (by kernel_rfl) (fun _ _ _ h => h) (Or.inl ⟨by rfl, fun _ hSw => by go_simp⟩) hS ?_
            simp only [List.getElem_toArray, List.getElem_cons_succ, List.getElem_cons_zero, Act.put, List.setIfInBounds_toArray, List.set_cons_zero, List.set_cons_succ]
            refine wpAnyH_done (by kernel_rfl) ?_ _
            clear hS
            have hkf : kfit nf r nu mf = true := by rw [ff.salt.len, ff.box.len]; exact HK.out
            have HKF := Lib.hid hkf
            have hnf : nf ≤ 140737488351232 := by rw [ff.salt.len, ← i1.len]; exact hn1
            have hmf : mf ≤ 140737488351232 := by rw [ff.box.len]; exact HBL.out
            clear hkf HK HBL
            go_wp2_with fail
            obtain ⟨S7, hS7d⟩ : ∃ S : World → Prop, S = fun w' => Bl w' w.heap.size (kaC A0 n0 c0 A1 n1 c1 r nu M mn mc A5 n5 c5 x y) 26 ∧ Bl w' gf (fC Af nf cf r nu Bf mf df) 35 := ⟨_, rfl⟩
            have H7I : Hid (∀ w', Bl w' w.heap.size (kaC A0 n0 c0 A1 n1 c1 r nu M mn mc A5 n5 c5 x y) 26 → Bl w' gf (fC Af nf cf r nu Bf mf df) 35 → S7 w') := by unfold Hid; intro w' h h'; rw [hS7d]; exact ⟨h, h'⟩
            have H70 : Hid (∀ w', S7 w' → w'.cell? ⟨w.heap.size, 0, none⟩ = some (.slice A0 n0 c0)) := by unfold Hid; intro w' h; rw [hS7d] at h; exact h.1.cell 0
            have H7W : Hid (∀ w', S7 w' → ∀ j v, (fC Af nf cf r nu Bf mf df)[j]? = some v → w'.cell? ((⟨gf, 0, none⟩ : Addr).add j) = some v) := by unfold Hid; intro w' h j v hv; rw [hS7d] at h; rw [Addr.add_mid]; exact h.2.whole j v hv
            clear hS7d
            obtain ⟨w7, hw7⟩ : ∃ W', W' = wf.drew := ⟨_, rfl⟩
            have hbn : Below wf.heap.size wf w7 := by rw [hw7]; exact (Below.refl _ wf).drew
            replace b := b.next hbn
            replace bfile := bfile.next hbn
            replace ff := ff.nx hbn
            replace hb := next hb hbn
            replace qq := qq.next hB hbn
            replace hB := Nat.le_trans hB hbn.size
            replace cq := cq.next hbn
            clear hbn
            have hS := H7I.out _ b bfile
            refine wp_region_held_drew (S := S7) (by kernel_rfl) (by rw [← hw7]; exact hS) (fun _ => ?_)
            rw [← hw7]
            clear hw7
            refine wpAnyH_take (i := 0) (v := .agg (fC Af nf cf r nu Bf mf df).toArray) rfl (by kernel_rfl) (by kernel_rfl) (by kernel_rfl) (fun _ _ _ h => h) (Or.inl ⟨by rfl, fun w' hSw => exec_load_at w' 35 _ rfl ⟨gf, 0, none⟩ rfl (fC Af nf cf r nu Bf mf df) _ (H7W.out w' hSw) Tryz.underlying35 rfl size_kf⟩) hS ?_
            simp only [List.getElem_toArray, List.getElem_cons_succ, List.getElem_cons_zero, Act.put, List.setIfInBounds_toArray, List.set_cons_zero, List.set_cons_succ]
            refine wpAnyH_take (i := 1) (v := (.pointer (some ⟨w.heap.size, 0, none⟩))) rfl (by kernel_rfl) (by kernel_rfl) (by kernel_rfl) (fun _ _ _ h => h) (Or.inl ⟨by rfl, fun _ hSw => by go_simp⟩) hS ?_
            simp only [List.getElem_toArray, List.getElem_cons_succ, List.getElem_cons_zero, Act.put, List.setIfInBounds_toArray, List.set_cons_zero, List.set_cons_succ]
            refine wpAnyH_take (i := 2) (v := (.slice A0 n0 c0)) rfl (by kernel_rfl) (by kernel_rfl) (by kernel_rfl) (fun _ _ _ h => h) (Or.inl ⟨by rfl, fun w' hSw => by have hq := H70.out w' hSw; go_simp⟩) hS ?_
            simp only [List.getElem_toArray, List.getElem_cons_succ, List.getElem_cons_zero, Act.put, List.setIfInBounds_toArray, List.set_cons_zero, List.set_cons_succ]
            refine wpAnyH_ready (rs := [3]) (by kernel_rfl) (by simp) (AllReadyH.cons rfl (fun K hK => ?_) AllReadyH.nil)
            simp only [List.getElem_toArray, List.getElem_cons_succ, List.getElem_cons_zero, Act.put, List.setIfInBounds_toArray, List.set_cons_zero, List.set_cons_succ]
            go_simp
            refine (own_any l0 w7 w7.heap.size A0 n0 c0 (i0.nx hb).sl i0.none_ (by omega) (Nat.le_refl _)).mono ?_
            rintro e w8 ⟨X8, d8, rfl, x8⟩
            have hbn := x8.below
            have y8 := x8.bys
            clear x8
            replace b := b.next hbn
            replace bfile := bfile.next hbn
            replace ff := ff.nx hbn
            replace hb := next hb hbn
            replace qq := qq.next hB hbn
            replace hB := Nat.le_trans hB hbn.size
            replace cq := cq.next hbn
            clear hbn
            replace hS := H7I.out _ b bfile
            refine hK.out _ _ hS (fun _ => ?_)
            clear hK K
            refine wpAnyH_ready (rs := [4]) (by kernel_rfl) (by simp) (AllReadyH.cons rfl (fun K hK => ?_) AllReadyH.nil)
            simp only [List.getElem_toArray, List.getElem_cons_succ, List.getElem_cons_zero, Act.put, List.setIfInBounds_toArray, List.set_cons_zero, List.set_cons_succ]
            go_simp
            refine (kopen_any l0 l1 Bx X8 n0 d8 Af nf cf r nu Bf mf df w8 y8 ff (by omega) hnf hmf (HT.out.next hb)).mono ?_
            rw [HOE.out, HOM.out]
            rintro e w9 ⟨hbn, (⟨_, gk, rfl, r9, hgk⟩ | ⟨h0, _⟩)⟩
            · replace b := b.next hbn
              replace bfile := bfile.next hbn
              replace ff := ff.nx hbn
              replace hb := next hb hbn
              replace qq := qq.next hB hbn
              replace hB := Nat.le_trans hB hbn.size
              replace cq := cq.next hbn
              clear hbn
              replace hS := H7I.out _ b bfile
              refine hK.out _ _ hS (fun _ => ?_)
              clear hK K
              refine wpAnyH_take (i := 5) (v := (.tuple #[.pointer (some ⟨gk, 0, none⟩), .int .i64 0])) rfl (by kernel_rfl) (by kernel_rfl) (by kernel_rfl) (fun _ _ _ h => h) (Or.inl ⟨by rfl, fun _ hSw => by go_simp⟩) hS ?_
              simp only [List.getElem_toArray, List.getElem_cons_succ, List.getElem_cons_zero, Act.put, List.setIfInBounds_toArray, List.set_cons_zero, List.set_cons_succ]
              refine wpAnyH_take (i := 6) (v := (.pointer (some ⟨gk, 0, none⟩))) rfl (by kernel_rfl) (by kernel_rfl) (by kernel_rfl) (fun _ _ _ h => h) (Or.inl ⟨by rfl, fun _ hSw => by go_simp⟩) hS ?_
              simp only [List.getElem_toArray, List.getElem_cons_succ, List.getElem_cons_zero, Act.put, List.setIfInBounds_toArray, List.set_cons_zero, List.set_cons_succ]
              refine wpAnyH_take (i := 7) (v := (.int .i64 0)) rfl (by kernel_rfl) (by kernel_rfl) (by kernel_rfl) (fun _ _ _ h => h) (Or.inl ⟨by rfl, fun _ hSw => by go_simp⟩) hS ?_
              simp only [List.getElem_toArray, List.getElem_cons_succ, List.getElem_cons_zero, Act.put, List.setIfInBounds_toArray, List.set_cons_zero, List.set_cons_succ]
              refine wpAnyH_take (i := 8) (v := (.pointer (some ⟨gk, 0, none⟩))) rfl (by kernel_rfl) (by kernel_rfl) (by kernel_rfl) (fun _ _ _ h => h) (Or.inl ⟨by rfl, fun _ hSw => by go_simp⟩) hS ?_
              simp only [List.getElem_toArray, List.getElem_cons_succ, List.getElem_cons_zero, Act.put, List.setIfInBounds_toArray, List.set_cons_zero, List.set_cons_succ]
              refine wpAnyH_take (i := 9) (v := (.int .i64 0)) rfl (by kernel_rfl) (by kernel_rfl) (by kernel_rfl) (fun _ _ _ h => h) (Or.inl ⟨by rfl, fun _ hSw => by go_simp⟩) hS ?_
              simp only [List.getElem_toArray, List.getElem_cons_succ, List.getElem_cons_zero, Act.put, List.setIfInBounds_toArray, List.set_cons_zero, List.set_cons_succ]
              refine wpAnyH_done (by kernel_rfl) ?_ _
              clear hS H7I H70 H7W y8
              have wh9 := bfile.whole
              go_wp2_with (first
                | (refine wpList_load_want (by rfl) 35 _ rfl _ _ rfl (fC Af nf cf r nu Bf mf df) _ wh9 Tryz.underlying35 rfl size_kf ?_)
                | (go_at_call 20; refine (fright_any Af nf cf r nu Bf mf df w9 (by omega) (by omega)).mono ?_; rw [HKF.out]; rintro e w10 ⟨rfl, hbn⟩; replace r9 := (r9.next hbn).up hbn.size; replace qq := qq.next hB hbn; replace hB := Nat.le_trans hB hbn.size; replace cq := cq.next hbn; replace hb := next hb hbn; have cqc : w10.cell? ⟨qv, 0, none⟩ = some (.slice A n c) := cq.cell 0; clear hbn)
                | (go_at_call 16; refine (alike_any gk w1.heap.size M2 m HSR.out A n c w10 (HT.out.next hb) r9 qq HOK.out hB HM2.out (by omega)).mono ?_; rintro e w11 ⟨rfl, hbn⟩; replace hb := next hb hbn; clear hbn)
                | (go_at_call 10; refine (awake11_any w11 (HT.out.next hb)).mono ?_; rintro e w12 ⟨rfl, hb12⟩)
                | fail)
              go_ret
              exact ⟨rfl, next hb hb12⟩
            · exact absurd rfl h0
          · simp only [List.getElem_toArray, List.getElem_cons_succ, List.getElem_cons_zero, Act.put, List.setIfInBounds_toArray, List.set_cons_zero, List.set_cons_succ]
            rw [if_pos (by rfl)]
            refine wp_alloc_zero 35 rfl nilF zero_kf ?_
            obtain ⟨wz56, hwz56⟩ : ∃ W, W = wb53.alloc (.cells nilF.toArray 35) := ⟨_, rfl⟩
            have bf := Bl.new wb53 nilF 35
            have hbn : Below wb53.heap.size wb53 (wb53.alloc (.cells nilF.toArray 35)) := (Below.refl _ wb53).alloc (Nat.le_refl _) _
            obtain ⟨gf, hgf⟩ : ∃ g, g = wb53.heap.size := ⟨_, rfl⟩
            rw [← hwz56] at bf hbn
            rw [← hwz56]
            rw [← hgf] at bf
            rw [← hgf]
            have hgw : w.heap.size ≤ gf := by rw [hgf]; exact hb.size
            have hg1 : w1.heap.size ≤ gf := by rw [hgf]; exact hB
            have hgg : gf ≠ g := by have := rr.lt; omega
            have hgq : Off gf (m.length * 2) A := qq.off (by omega)
            have hgv : qv ≠ gf := by have := cq.lt; omega
            have hgk : w.heap.size ≠ gf := by have := b.lt; omega
            clear hwz56 hgf
            replace b := b.next hbn
            replace hb := next hb hbn
            replace rr := (rr.next hbn).up hbn.size
            replace qq := qq.next hB hbn
            replace hB := Nat.le_trans hB hbn.size
            replace cq := cq.next hbn
            replace y0 := y0.nx hbn
            replace y1 := y1.nx hbn
            clear hbn
            replace hS := HSI.out _ b
            refine hK.out _ _ hS (fun _ => ?_)
            clear hK K
            refine wpAnyH_ready (rs := [11]) (by kernel_rfl) (by simp) (AllReadyH.cons rfl (fun K hK => ?_) AllReadyH.nil)
            simp only [List.getElem_toArray, List.getElem_cons_succ, List.getElem_cons_zero, Act.put, List.setIfInBounds_toArray, List.set_cons_zero, List.set_cons_succ]
            go_simp
            refine (make_any l0 l1 m X0 n0 d0 X1 n1 d1 r nu g wz56 y0 y1 rr (by omega) (by omega) (HT.out.next hb)).mono ?_
            rw [HE.out, HF.out]
            rintro e wcx57 ⟨Af, nf, cf, Bf, mf, df, rfl, ff, hbn⟩
            replace b := b.next hbn
            replace hb := next hb hbn
            replace rr := (rr.next hbn).up hbn.size
            replace qq := qq.next hB hbn
            replace hB := Nat.le_trans hB hbn.size
            replace cq := cq.next hbn
            replace y0 := y0.nx hbn
            replace y1 := y1.nx hbn
            replace bf := bf.next hbn
            clear hbn
            replace hS := HSI.out _ b
            refine hK.out _ _ hS (fun _ => ?_)
            clear hK K
            refine wpAnyH_take (i := 12) (v := (.tuple #[.agg (fC Af nf cf r nu Bf mf df).toArray, .int .i64 0])) rfl (by kernel_rfl) (by kernel_rfl) (by kernel_rfl) (fun _ _ _ h => h) (Or.inl ⟨by rfl, fun _ hSw => by go_simp⟩) hS ?_
            simp only [List.getElem_toArray, List.getElem_cons_succ, List.getElem_cons_zero, Act.put, List.setIfInBounds_toArray, List.set_cons_zero, List.set_cons_succ]
            refine wpAnyH_take (i := 13) (v := (.agg (fC Af nf cf r nu Bf mf df).toArray)) rfl (by kernel_rfl) (by kernel_rfl) (by kernel_rfl) (fun _ _ _ h => h) (Or.inl ⟨by rfl, fun _ hSw => by go_simp⟩) hS ?_
            simp only [List.getElem_toArray, List.getElem_cons_succ, List.getElem_cons_zero, Act.put, List.setIfInBounds_toArray, List.set_cons_zero, List.set_cons_succ]
            refine wpAnyH_take (i := 14) (v := (.int .i64 0)) rfl (by kernel_rfl) (by kernel_rfl) (by kernel_rfl) (fun _ _ _ h => h) (Or.inl ⟨by rfl, fun _ hSw => by go_simp⟩) hS ?_
            simp only [List.getElem_toArray, List.getElem_cons_succ, List.getElem_cons_zero, Act.put, List.setIfInBounds_toArray, List.set_cons_zero, List.set_cons_succ]
            refine wpAnyH_ready (rs := [16]) (by kernel_rfl) (by simp) (AllReadyH.cons rfl (fun K hK => ?_) AllReadyH.nil)
            simp only [List.getElem_toArray, List.getElem_cons_succ, List.getElem_cons_zero, Act.put, List.setIfInBounds_toArray, List.set_cons_zero, List.set_cons_succ]
            rw [if_pos (by rfl)]
            refine wp_store_mid 35 _ _ rfl _ _ (fC Af nf cf r nu Bf mf df).toArray rfl rfl (bf.there_ (by simp [nilF, fC])) size_kf (all_oneCell_toArray (fC_one _ _ _ _ _ _ _ _)) ?_
            have hgb : wcx57.grownBy (wcx57.setCells gf 0 (fC Af nf cf r nu Bf mf df)) (some gf) := but_setCells (but_refl wcx57 _) 0 _
            have o1 := off_file bf ff.salt
            have o2 := off_file bf ff.box
            have bfile : Bl (wcx57.setCells gf 0 (fC Af nf cf r nu Bf mf df)) gf (fC Af nf cf r nu Bf mf df) 35 := bf.over rfl
            replace ff := ff.nb hgb o1 o2
            replace b := b.grown hgb (fun e => hgk (Option.some.inj e).symm)
            replace cq := cq.grown hgb (fun e => hgv (Option.some.inj e).symm)
            replace rr := (rr.other bf hgg hgb).up hgb.size
            replace qq := qq.row hgb hB hg1 hgq
            replace hb := below_setCells hb hgw 0 (fC Af nf cf r nu Bf mf df)
            replace hB := Nat.le_trans hB hgb.size
            obtain ⟨wf, hwf⟩ : ∃ W, W = wcx57.setCells gf 0 (fC Af nf cf r nu Bf mf df) := ⟨_, rfl⟩
            rw [← hwf] at b cq rr qq hb hB ff bfile
            rw [← hwf]
            clear hwf hgb o1 o2 bf
            replace hS := HSI.out _ b
            refine hK.out _ _ hS (fun _ => ?_)
            clear hK K
            simp only [List.getElem_toArray, List.getElem_cons_succ, List.getElem_cons_zero, Act.put, List.setIfInBounds_toArray, List.set_cons_zero, List.set_cons_succ]
            refine wpAnyH_take (i := 17) (v := (.int .i64 0)) rfl (by kernel_rfl) (by kernel_rfl) (by kernel_rfl) (fun _ _ _ h => h) (Or.inl ⟨by rfl, fun _ hSw => by go_simp⟩) hS ?_
            simp only [List.getElem_toArray, List.getElem_cons_succ, List.getElem_cons_zero, Act.put, List.setIfInBounds_toArray, List.set_cons_zero, List.set_cons_succ]
            refine wpAnyH_done (by kernel_rfl) ?_ _
            clear hS
            have hkf : kfit nf r nu mf = true := by rw [ff.salt.len, ff.box.len]; exact HK.out
            have HKF := Lib.hid hkf
            have hnf : nf ≤ 140737488351232 := by rw [ff.salt.len, ← i1.len]; exact hn1
            have hmf : mf ≤ 140737488351232 := by rw [ff.box.len]; exact HBL.out
            clear hkf HK HBL
            go_wp2_with fail
            obtain ⟨S7, hS7d⟩ : ∃ S : World → Prop, S = fun w' => Bl w' w.heap.size (kaC A0 n0 c0 A1 n1 c1 r nu M mn mc A5 n5 c5 x y) 26 ∧ Bl w' gf (fC Af nf cf r nu Bf mf df) 35 := ⟨_, rfl⟩
            have H7I : Hid (∀ w', Bl w' w.heap.size (kaC A0 n0 c0 A1 n1 c1 r nu M mn mc A5 n5 c5 x y) 26 → Bl w' gf (fC Af nf cf r nu Bf mf df) 35 → S7 w') := by unfold Hid; intro w' h h'; rw [hS7d]; exact ⟨h, h'⟩
            have H70 : Hid (∀ w', S7 w' → w'.cell? ⟨w.heap.size, 0, none⟩ = some (.slice A0 n0 c0)) := by unfold Hid; intro w' h; rw [hS7d] at h; exact h.1.cell 0
            have H7W : Hid (∀ w', S7 w' → ∀ j v, (fC Af nf cf r nu Bf mf df)[j]? = some v → w'.cell? ((⟨gf, 0, none⟩ : Addr).add j) = some v) := by unfold Hid; intro w' h j v hv; rw [hS7d] at h; rw [Addr.add_mid]; exact h.2.whole j v hv
            clear hS7d
            obtain ⟨w7, hw7⟩ : ∃ W', W' = wf.drew := ⟨_, rfl⟩
            have hbn : Below wf.heap.size wf w7 := by rw [hw7]; exact (Below.refl _ wf).drew
            replace b := b.next hbn
            replace bfile := bfile.next hbn
            replace ff := ff.nx hbn
            replace hb := next hb hbn
            replace qq := qq.next hB hbn
            replace hB := Nat.le_trans hB hbn.size
            replace cq := cq.next hbn
            clear hbn
            have hS := H7I.out _ b bfile
            refine wp_region_held_drew (S := S7) (by kernel_rfl) (by rw [← hw7]; exact hS) (fun _ => ?_)
            rw [← hw7]
            clear hw7
            refine wpAnyH_take (i := 0) (v := .agg (fC Af nf cf r nu Bf mf df).toArray) rfl (by kernel_rfl) (by kernel_rfl) (by kernel_rfl) (fun _ _ _ h => h) (Or.inl ⟨by rfl, fun w' hSw => exec_load_at w' 35 _ rfl ⟨gf, 0, none⟩ rfl (fC Af nf cf r nu Bf mf df) _ (H7W.out w' hSw) Tryz.underlying35 rfl size_kf⟩) hS ?_
            simp only [List.getElem_toArray, List.getElem_cons_succ, List.getElem_cons_zero, Act.put, List.setIfInBounds_toArray, List.set_cons_zero, List.set_cons_succ]
            refine wpAnyH_take (i := 1) (v := (.pointer (some ⟨w.heap.size, 0, none⟩))) rfl (by kernel_rfl) (by kernel_rfl) (by kernel_rfl) (fun _ _ _ h => h) (Or.inl ⟨by rfl, fun _ hSw => by go_simp⟩) hS ?_
            simp only [List.getElem_toArray, List.getElem_cons_succ, List.getElem_cons_zero, Act.put, List.setIfInBounds_toArray, List.set_cons_zero, List.set_cons_succ]
            refine wpAnyH_take (i := 2) (v := (.slice A0 n0 c0)) rfl (by kernel_rfl) (by kernel_rfl) (by kernel_rfl) (fun _ _ _ h => h) (Or.inl ⟨by rfl, fun w' hSw => by have hq := H70.out w' hSw; go_simp⟩) hS ?_
            simp only [List.getElem_toArray, List.getElem_cons_succ, List.getElem_cons_zero, Act.put, List.setIfInBounds_toArray, List.set_cons_zero, List.set_cons_succ]
            refine wpAnyH_ready (rs := [3]) (by kernel_rfl) (by simp) (AllReadyH.cons rfl (fun K hK => ?_) AllReadyH.nil)
            simp only [List.getElem_toArray, List.getElem_cons_succ, List.getElem_cons_zero, Act.put, List.setIfInBounds_toArray, List.set_cons_zero, List.set_cons_succ]
            go_simp
            refine (own_any l0 w7 w7.heap.size A0 n0 c0 (i0.nx hb).sl i0.none_ (by omega) (Nat.le_refl _)).mono ?_
            rintro e w8 ⟨X8, d8, rfl, x8⟩
            have hbn := x8.below
            have y8 := x8.bys
            clear x8
            replace b := b.next hbn
            replace bfile := bfile.next hbn
            replace ff := ff.nx hbn
            replace hb := next hb hbn
            replace qq := qq.next hB hbn
            replace hB := Nat.le_trans hB hbn.size
            replace cq := cq.next hbn
            clear hbn
            replace hS := H7I.out _ b bfile
            refine hK.out _ _ hS (fun _ => ?_)
            clear hK K
            refine wpAnyH_ready (rs := [4]) (by kernel_rfl) (by simp) (AllReadyH.cons rfl (fun K hK => ?_) AllReadyH.nil)
            simp only [List.getElem_toArray, List.getElem_cons_succ, List.getElem_cons_zero, Act.put, List.setIfInBounds_toArray, List.set_cons_zero, List.set_cons_succ]
            go_simp
            refine (kopen_any l0 l1 Bx X8 n0 d8 Af nf cf r nu Bf mf df w8 y8 ff (by omega) hnf hmf (HT.out.next hb)).mono ?_
            rw [HOE.out, HOM.out]
            rintro e w9 ⟨hbn, (⟨_, gk, rfl, r9, hgk⟩ | ⟨h0, _⟩)⟩
            · replace b := b.next hbn
              replace bfile := bfile.next hbn
              replace ff := ff.nx hbn
              replace hb := next hb hbn
              replace qq := qq.next hB hbn
              replace hB := Nat.le_trans hB hbn.size
              replace cq := cq.next hbn
              clear hbn
              replace hS := H7I.out _ b bfile
              refine hK.out _ _ hS (fun _ => ?_)
              clear hK K
              refine wpAnyH_take (i := 5) (v := (.tuple #[.pointer (some ⟨gk, 0, none⟩), .int .i64 0])) rfl (by kernel_rfl) (by kernel_rfl) (by kernel_rfl) (fun _ _ _ h => h) (Or.inl ⟨by rfl, fun _ hSw => by go_simp⟩) hS ?_
              simp only [List.getElem_toArray, List.getElem_cons_succ, List.getElem_cons_zero, Act.put, List.setIfInBounds_toArray, List.set_cons_zero, List.set_cons_succ]
              refine wpAnyH_take (i := 6) (v := (.pointer (some ⟨gk, 0, none⟩))) rfl (by kernel_rfl) (by kernel_rfl) (by kernel_rfl) (fun _ _ _ h => h) (Or.inl ⟨by rfl, fun _ hSw => by go_simp⟩) hS ?_
              simp only [List.getElem_toArray, List.getElem_cons_succ, List.getElem_cons_zero, Act.put, List.setIfInBounds_toArray, List.set_cons_zero, List.set_cons_succ]
              refine wpAnyH_take (i := 7) (v := (.int .i64 0)) rfl (by kernel_rfl) (by kernel_rfl) (by kernel_rfl) (fun _ _ _ h => h) (Or.inl ⟨by rfl, fun _ hSw => by go_simp⟩) hS ?_
              simp only [List.getElem_toArray, List.getElem_cons_succ, List.getElem_cons_zero, Act.put, List.setIfInBounds_toArray, List.set_cons_zero, List.set_cons_succ]
              refine wpAnyH_take (i := 8) (v := (.pointer (some ⟨gk, 0, none⟩))) rfl (by kernel_rfl) (by kernel_rfl) (by kernel_rfl) (fun _ _ _ h => h) (Or.inl ⟨by rfl, fun _ hSw => by go_simp⟩) hS ?_
              simp only [List.getElem_toArray, List.getElem_cons_succ, List.getElem_cons_zero, Act.put, List.setIfInBounds_toArray, List.set_cons_zero, List.set_cons_succ]
              refine wpAnyH_take (i := 9) (v := (.int .i64 0)) rfl (by kernel_rfl) (by kernel_rfl) (by kernel_rfl) (fun _ _ _ h => h) (Or.inl ⟨by rfl, fun _ hSw => by go_simp⟩) hS ?_
              simp only [List.getElem_toArray, List.getElem_cons_succ, List.getElem_cons_zero, Act.put, List.setIfInBounds_toArray, List.set_cons_zero, List.set_cons_succ]
              refine wpAnyH_done (by kernel_rfl) ?_ _
              clear hS H7I H70 H7W y8
              have wh9 := bfile.whole
              go_wp2_with (first
                | (refine wpList_load_want (by rfl) 35 _ rfl _ _ rfl (fC Af nf cf r nu Bf mf df) _ wh9 Tryz.underlying35 rfl size_kf ?_)
                | (go_at_call 20; refine (fright_any Af nf cf r nu Bf mf df w9 (by omega) (by omega)).mono ?_; rw [HKF.out]; rintro e w10 ⟨rfl, hbn⟩; replace r9 := (r9.next hbn).up hbn.size; replace qq := qq.next hB hbn; replace hB := Nat.le_trans hB hbn.size; replace cq := cq.next hbn; replace hb := next hb hbn; have cqc : w10.cell? ⟨qv, 0, none⟩ = some (.slice A n c) := cq.cell 0; clear hbn)
                | (go_at_call 16; refine (alike_any gk w1.heap.size M2 m HSR.out A n c w10 (HT.out.next hb) r9 qq HOK.out hB HM2.out (by omega)).mono ?_; rintro e w11 ⟨rfl, hbn⟩; replace hb := next hb hbn; clear hbn)
                | (go_at_call 10; refine (awake11_any w11 (HT.out.next hb)).mono ?_; rintro e w12 ⟨rfl, hb12⟩)
                | fail)
              go_ret
              exact ⟨rfl, next hb hb12⟩
            · exact absurd rfl h0
        · simp only [List.getElem_toArray, List.getElem_cons_succ, List.getElem_cons_zero, Act.put, List.setIfInBounds_toArray, List.set_cons_zero, List.set_cons_succ]
          rw [if_pos (by rfl)]
          refine wp_alloc_zero 35 rfl nilF zero_kf ?_
          obtain ⟨wz58, hwz58⟩ : ∃ W, W = wa52.alloc (.cells nilF.toArray 35) := ⟨_, rfl⟩
          have bf := Bl.new wa52 nilF 35
          have hbn : Below wa52.heap.size wa52 (wa52.alloc (.cells nilF.toArray 35)) := (Below.refl _ wa52).alloc (Nat.le_refl _) _
          obtain ⟨gf, hgf⟩ : ∃ g, g = wa52.heap.size := ⟨_, rfl⟩
          rw [← hwz58] at bf hbn
          rw [← hwz58]
          rw [← hgf] at bf
          rw [← hgf]
          have hgw : w.heap.size ≤ gf := by rw [hgf]; exact hb.size
          have hg1 : w1.heap.size ≤ gf := by rw [hgf]; exact hB
          have hgg : gf ≠ g := by have := rr.lt; omega
          have hgq : Off gf (m.length * 2) A := qq.off (by omega)
          have hgv : qv ≠ gf := by have := cq.lt; omega
          have hgk : w.heap.size ≠ gf := by have := b.lt; omega
          clear hwz58 hgf
          replace b := b.next hbn
          replace hb := next hb hbn
          replace rr := (rr.next hbn).up hbn.size
          replace qq := qq.next hB hbn
          replace hB := Nat.le_trans hB hbn.size
          replace cq := cq.next hbn
          replace y0 := y0.nx hbn
          clear hbn
          replace hS := HSI.out _ b
          refine hK.out _ _ hS (fun _ => ?_)
          clear hK K
          refine wpAnyH_ready (rs := [5]) (by kernel_rfl) (by simp) (AllReadyH.cons rfl (fun K hK => ?_) AllReadyH.nil)
          simp only [List.getElem_toArray, List.getElem_cons_succ, List.getElem_cons_zero, Act.put, List.setIfInBounds_toArray, List.set_cons_zero, List.set_cons_succ]
          go_simp
          refine (own_any l1 wz58 wz58.heap.size A1 n1 c1 (i1.nx hb).sl i1.none_ (by omega) (Nat.le_refl _)).mono ?_
          rintro e wbx59 ⟨X1, d1, rfl, x1⟩
          have hbn := x1.below
          have y1 := x1.bys
          clear x1
          replace b := b.next hbn
          replace hb := next hb hbn
          replace rr := (rr.next hbn).up hbn.size
          replace qq := qq.next hB hbn
          replace hB := Nat.le_trans hB hbn.size
          replace cq := cq.next hbn
          replace y0 := y0.nx hbn
          replace bf := bf.next hbn
          clear hbn
          replace hS := HSI.out _ b
          refine hK.out _ _ hS (fun _ => ?_)
          clear hK K
          refine wpAnyH_ready (rs := [11]) (by kernel_rfl) (by simp) (AllReadyH.cons rfl (fun K hK => ?_) AllReadyH.nil)
          simp only [List.getElem_toArray, List.getElem_cons_succ, List.getElem_cons_zero, Act.put, List.setIfInBounds_toArray, List.set_cons_zero, List.set_cons_succ]
          go_simp
          refine (make_any l0 l1 m X0 n0 d0 X1 n1 d1 r nu g wbx59 y0 y1 rr (by omega) (by omega) (HT.out.next hb)).mono ?_
          rw [HE.out, HF.out]
          rintro e wcx60 ⟨Af, nf, cf, Bf, mf, df, rfl, ff, hbn⟩
          replace b := b.next hbn
          replace hb := next hb hbn
          replace rr := (rr.next hbn).up hbn.size
          replace qq := qq.next hB hbn
          replace hB := Nat.le_trans hB hbn.size
          replace cq := cq.next hbn
          replace y0 := y0.nx hbn
          replace bf := bf.next hbn
          replace y1 := y1.nx hbn
          clear hbn
          replace hS := HSI.out _ b
          refine hK.out _ _ hS (fun _ => ?_)
          clear hK K
          refine wpAnyH_take (i := 12) (v := (.tuple #[.agg (fC Af nf cf r nu Bf mf df).toArray, .int .i64 0])) rfl (by kernel_rfl) (by kernel_rfl) (by kernel_rfl) (fun _ _ _ h => h) (Or.inl ⟨by rfl, fun _ hSw => by go_simp⟩) hS ?_
          simp only [List.getElem_toArray, List.getElem_cons_succ, List.getElem_cons_zero, Act.put, List.setIfInBounds_toArray, List.set_cons_zero, List.set_cons_succ]
          refine wpAnyH_take (i := 13) (v := (.agg (fC Af nf cf r nu Bf mf df).toArray)) rfl (by kernel_rfl) (by kernel_rfl) (by kernel_rfl) (fun _ _ _ h => h) (Or.inl ⟨by rfl, fun _ hSw => by go_simp⟩) hS ?_
          simp only [List.getElem_toArray, List.getElem_cons_succ, List.getElem_cons_zero, Act.put, List.setIfInBounds_toArray, List.set_cons_zero, List.set_cons_succ]
          refine wpAnyH_take (i := 14) (v := (.int .i64 0)) rfl (by kernel_rfl) (by kernel_rfl) (by kernel_rfl) (fun _ _ _ h => h) (Or.inl ⟨by rfl, fun _ hSw => by go_simp⟩) hS ?_
          simp only [List.getElem_toArray, List.getElem_cons_succ, List.getElem_cons_zero, Act.put, List.setIfInBounds_toArray, List.set_cons_zero, List.set_cons_succ]
          refine wpAnyH_ready (rs := [16]) (by kernel_rfl) (by simp) (AllReadyH.cons rfl (fun K hK => ?_) AllReadyH.nil)
          simp only [List.getElem_toArray, List.getElem_cons_succ, List.getElem_cons_zero, Act.put, List.setIfInBounds_toArray, List.set_cons_zero, List.set_cons_succ]
          rw [if_pos (by rfl)]
          refine wp_store_mid 35 _ _ rfl _ _ (fC Af nf cf r nu Bf mf df).toArray rfl rfl (bf.there_ (by simp [nilF, fC])) size_kf (all_oneCell_toArray (fC_one _ _ _ _ _ _ _ _)) ?_
          have hgb : wcx60.grownBy (wcx60.setCells gf 0 (fC Af nf cf r nu Bf mf df)) (some gf) := but_setCells (but_refl wcx60 _) 0 _
          have o1 := off_file bf ff.salt
          have o2 := off_file bf ff.box
          have bfile : Bl (wcx60.setCells gf 0 (fC Af nf cf r nu Bf mf df)) gf (fC Af nf cf r nu Bf mf df) 35 := bf.over rfl
          replace ff := ff.nb hgb o1 o2
          replace b := b.grown hgb (fun e => hgk (Option.some.inj e).symm)
          replace cq := cq.grown hgb (fun e => hgv (Option.some.inj e).symm)
          replace rr := (rr.other bf hgg hgb).up hgb.size
          replace qq := qq.row hgb hB hg1 hgq
          replace hb := below_setCells hb hgw 0 (fC Af nf cf r nu Bf mf df)
          replace hB := Nat.le_trans hB hgb.size
          obtain ⟨wf, hwf⟩ : ∃ W, W = wcx60.setCells gf 0 (fC Af nf cf r nu Bf mf df) := ⟨_, rfl⟩
          rw [← hwf] at b cq rr qq hb hB ff bfile
          rw [← hwf]
          clear hwf hgb o1 o2 bf
          replace hS := HSI.out _ b
          refine hK.out _ _ hS (fun _ => ?_)
          clear hK K
          simp only [List.getElem_toArray, List.getElem_cons_succ, List.getElem_cons_zero, Act.put, List.setIfInBounds_toArray, List.set_cons_zero, List.set_cons_succ]
          refine wpAnyH_take (i := 17) (v := (.int .i64 0)) rfl (by kernel_rfl) (by kernel_rfl) (by kernel_rfl) (fun _ _ _ h => h) (Or.inl ⟨by rfl, fun _ hSw => by go_simp⟩) hS ?_
          simp only [List.getElem_toArray, List.getElem_cons_succ, List.getElem_cons_zero, Act.put, List.setIfInBounds_toArray, List.set_cons_zero, List.set_cons_succ]
          refine wpAnyH_done (by kernel_rfl) ?_ _
          clear hS
          have hkf : kfit nf r nu mf = true := by rw [ff.salt.len, ff.box.len]; exact HK.out
          have HKF := Lib.hid hkf
          have hnf : nf ≤ 140737488351232 := by rw [ff.salt.len, ← i1.len]; exact hn1
          have hmf : mf ≤ 140737488351232 := by rw [ff.box.len]; exact HBL.out
          clear hkf HK HBL
          go_wp2_with fail
          obtain ⟨S7, hS7d⟩ : ∃ S : World → Prop, S = fun w' => Bl w' w.heap.size (kaC A0 n0 c0 A1 n1 c1 r nu M mn mc A5 n5 c5 x y) 26 ∧ Bl w' gf (fC Af nf cf r nu Bf mf df) 35 := ⟨_, rfl⟩
          have H7I : Hid (∀ w', Bl w' w.heap.size (kaC A0 n0 c0 A1 n1 c1 r nu M mn mc A5 n5 c5 x y) 26 → Bl w' gf (fC Af nf cf r nu Bf mf df) 35 → S7 w') := by unfold Hid; intro w' h h'; rw [hS7d]; exact ⟨h, h'⟩
          have H70 : Hid (∀ w', S7 w' → w'.cell? ⟨w.heap.size, 0, none⟩ = some (.slice A0 n0 c0)) := by unfold Hid; intro w' h; rw [hS7d] at h; exact h.1.cell 0
          have H7W : Hid (∀ w', S7 w' → ∀ j v, (fC Af nf cf r nu Bf mf df)[j]? = some v → w'.cell? ((⟨gf, 0, none⟩ : Addr).add j) = some v) := by unfold Hid; intro w' h j v hv; rw [hS7d] at h; rw [Addr.add_mid]; exact h.2.whole j v hv
          clear hS7d
          obtain ⟨w7, hw7⟩ : ∃ W', W' = wf.drew := ⟨_, rfl⟩
          have hbn : Below wf.heap.size wf w7 := by rw [hw7]; exact (Below.refl _ wf).drew
          replace b := b.next hbn
          replace bfile := bfile.next hbn
          replace ff := ff.nx hbn
          replace hb := next hb hbn
          replace qq := qq.next hB hbn
          replace hB := Nat.le_trans hB hbn.size
          replace cq := cq.next hbn
          clear hbn
          have hS := H7I.out _ b bfile
          refine wp_region_held_drew (S := S7) (by kernel_rfl) (by rw [← hw7]; exact hS) (fun _ => ?_)
          rw [← hw7]
          clear hw7
          refine wpAnyH_take (i := 0) (v := .agg (fC Af nf cf r nu Bf mf df).toArray) rfl (by kernel_rfl) (by kernel_rfl) (by kernel_rfl) (fun _ _ _ h => h) (Or.inl ⟨by rfl, fun w' hSw => exec_load_at w' 35 _ rfl ⟨gf, 0, none⟩ rfl (fC Af nf cf r nu Bf mf df) _ (H7W.out w' hSw) Tryz.underlying35 rfl size_kf⟩) hS ?_
          simp only [List.getElem_toArray, List.getElem_cons_succ, List.getElem_cons_zero, Act.put, List.setIfInBounds_toArray, List.set_cons_zero, List.set_cons_succ]
          refine wpAnyH_take (i := 1) (v := (.pointer (some ⟨w.heap.size, 0, none⟩))) rfl (by kernel_rfl) (by kernel_rfl) (by kernel_rfl) (fun _ _ _ h => h) (Or.inl ⟨by rfl, fun _ hSw => by go_simp⟩) hS ?_
          simp only [List.getElem_toArray, List.getElem_cons_succ, List.getElem_cons_zero, Act.put, List.setIfInBounds_toArray, List.set_cons_zero, List.set_cons_succ]
          refine wpAnyH_take (i := 2) (v := (.slice A0 n0 c0)) rfl (by kernel_rfl) (by kernel_rfl) (by kernel_rfl) (fun _ _ _ h => h) (Or.inl ⟨by rfl, fun w' hSw => by have hq := H70.out w' hSw; go_simp⟩) hS ?_
          simp only [List.getElem_toArray, List.getElem_cons_succ, List.getElem_cons_zero, Act.put, List.setIfInBounds_toArray, List.set_cons_zero, List.set_cons_succ]
          refine wpAnyH_ready (rs := [3]) (by kernel_rfl) (by simp) (AllReadyH.cons rfl (fun K hK => ?_) AllReadyH.nil)
          simp only [List.getElem_toArray, List.getElem_cons_succ, List.getElem_cons_zero, Act.put, List.setIfInBounds_toArray, List.set_cons_zero, List.set_cons_succ]
          go_simp
          refine (own_any l0 w7 w7.heap.size A0 n0 c0 (i0.nx hb).sl i0.none_ (by omega) (Nat.le_refl _)).mono ?_
          rintro e w8 ⟨X8, d8, rfl, x8⟩
          have hbn := x8.below
          have y8 := x8.bys
          clear x8
          replace b := b.next hbn
          replace bfile := bfile.next hbn
          replace ff := ff.nx hbn
          replace hb := next hb hbn
          replace qq := qq.next hB hbn
          replace hB := Nat.le_trans hB hbn.size
          replace cq := cq.next hbn
          clear hbn
          replace hS := H7I.out _ b bfile
          refine hK.out _ _ hS (fun _ => ?_)
          clear hK K
          refine wpAnyH_ready (rs := [4]) (by kernel_rfl) (by simp) (AllReadyH.cons rfl (fun K hK => ?_) AllReadyH.nil)
          simp only [List.getElem_toArray, List.getElem_cons_succ, List.getElem_cons_zero, Act.put, List.setIfInBounds_toArray, List.set_cons_zero, List.set_cons_succ]
          go_simp
          refine (kopen_any l0 l1 Bx X8 n0 d8 Af nf cf r nu Bf mf df w8 y8 ff (by omega) hnf hmf (HT.out.next hb)).mono ?_
          rw [HOE.out, HOM.out]
          rintro e w9 ⟨hbn, (⟨_, gk, rfl, r9, hgk⟩ | ⟨h0, _⟩)⟩
          · replace b := b.next hbn
            replace bfile := bfile.next hbn
            replace ff := ff.nx hbn
            replace hb := next hb hbn
            replace qq := qq.next hB hbn
            replace hB := Nat.le_trans hB hbn.size
            replace cq := cq.next hbn
            clear hbn
            replace hS := H7I.out _ b bfile
            refine hK.out _ _ hS (fun _ => ?_)
            clear hK K
            refine wpAnyH_take (i := 5) (v := (.tuple #[.pointer (some ⟨gk, 0, none⟩), .int .i64 0])) rfl (by kernel_rfl) (by kernel_rfl) (by kernel_rfl) (fun _ _ _ h => h) (Or.inl ⟨by rfl, fun _ hSw => by go_simp⟩) hS ?_
            simp only [List.getElem_toArray, List.getElem_cons_succ, List.getElem_cons_zero, Act.put, List.setIfInBounds_toArray, List.set_cons_zero, List.set_cons_succ]
            refine wpAnyH_take (i := 6) (v := (.pointer (some ⟨gk, 0, none⟩))) rfl (by kernel_rfl) (by kernel_rfl) (by kernel_rfl) (fun _ _ _ h => h) (Or.inl ⟨by rfl, fun _ hSw => by go_simp⟩) hS ?_
            simp only [List.getElem_toArray, List.getElem_cons_succ, List.getElem_cons_zero, Act.put, List.setIfInBounds_toArray, List.set_cons_zero, List.set_cons_succ]
            refine wpAnyH_take (i := 7) (v := (.int .i64 0)) rfl (by kernel_rfl) (by kernel_rfl) (by kernel_rfl) (fun _ _ _ h => h) (Or.inl ⟨by rfl, fun _ hSw => by go_simp⟩) hS ?_
            simp only [List.getElem_toArray, List.getElem_cons_succ, List.getElem_cons_zero, Act.put, List.setIfInBounds_toArray, List.set_cons_zero, List.set_cons_succ]
            refine wpAnyH_take (i := 8) (v := (.pointer (some ⟨gk, 0, none⟩))) rfl (by kernel_rfl) (by kernel_rfl) (by kernel_rfl) (fun _ _ _ h => h) (Or.inl ⟨by rfl, fun _ hSw => by go_simp⟩) hS ?_
            simp only [List.getElem_toArray, List.getElem_cons_succ, List.getElem_cons_zero, Act.put, List.setIfInBounds_toArray, List.set_cons_zero, List.set_cons_succ]
            refine wpAnyH_take (i := 9) (v := (.int .i64 0)) rfl (by kernel_rfl) (by kernel_rfl) (by kernel_rfl) (fun _ _ _ h => h) (Or.inl ⟨by rfl, fun _ hSw => by go_simp⟩) hS ?_
            simp only [List.getElem_toArray, List.getElem_cons_succ, List.getElem_cons_zero, Act.put, List.setIfInBounds_toArray, List.set_cons_zero, List.set_cons_succ]
            refine wpAnyH_done (by kernel_rfl) ?_ _
            clear hS H7I H70 H7W y8
            have wh9 := bfile.whole
            go_wp2_with (first
              | (refine wpList_load_want (by rfl) 35 _ rfl _ _ rfl (fC Af nf cf r nu Bf mf df) _ wh9 Tryz.underlying35 rfl size_kf ?_)
              | (go_at_call 20; refine (fright_any Af nf cf r nu Bf mf df w9 (by omega) (by omega)).mono ?_; rw [HKF.out]; rintro e w10 ⟨rfl, hbn⟩; replace r9 := (r9.next hbn).up hbn.size; replace qq := qq.next hB hbn; replace hB := Nat.le_trans hB hbn.size; replace cq := cq.next hbn; replace hb := next hb hbn; have cqc : w10.cell? ⟨qv, 0, none⟩ = some (.slice A n c) := cq.cell 0; clear hbn)
              | (go_at_call 16; refine (alike_any gk w1.heap.size M2 m HSR.out A n c w10 (HT.out.next hb) r9 qq HOK.out hB HM2.out (by omega)).mono ?_; rintro e w11 ⟨rfl, hbn⟩; replace hb := next hb hbn; clear hbn)
              | (go_at_call 10; refine (awake11_any w11 (HT.out.next hb)).mono ?_; rintro e w12 ⟨rfl, hb12⟩)
              | fail)
            go_ret
            exact ⟨rfl, next hb hb12⟩
          · exact absurd rfl h0
      · simp only [List.getElem_toArray, List.getElem_cons_succ, List.getElem_cons_zero, Act.put, List.setIfInBounds_toArray, List.set_cons_zero, List.set_cons_succ]
        rw [if_pos (by rfl)]
        refine wp_alloc_zero 35 rfl nilF zero_kf ?_
        obtain ⟨wz61, hwz61⟩ : ∃ W, W = wc.alloc (.cells nilF.toArray 35) := ⟨_, rfl⟩
        have bf := Bl.new wc nilF 35
        have hbn : Below wc.heap.size wc (wc.alloc (.cells nilF.toArray 35)) := (Below.refl _ wc).alloc (Nat.le_refl _) _
        obtain ⟨gf, hgf⟩ : ∃ g, g = wc.heap.size := ⟨_, rfl⟩
        rw [← hwz61] at bf hbn
        rw [← hwz61]
        rw [← hgf] at bf
        rw [← hgf]
        have hgw : w.heap.size ≤ gf := by rw [hgf]; exact hb.size
        have hg1 : w1.heap.size ≤ gf := by rw [hgf]; exact hB
        have hgg : gf ≠ g := by have := rr.lt; omega
        have hgq : Off gf (m.length * 2) A := qq.off (by omega)
        have hgv : qv ≠ gf := by have := cq.lt; omega
        have hgk : w.heap.size ≠ gf := by have := b.lt; omega
        clear hwz61 hgf
        replace b := b.next hbn
        replace hb := next hb hbn
        replace rr := (rr.next hbn).up hbn.size
        replace qq := qq.next hB hbn
        replace hB := Nat.le_trans hB hbn.size
        replace cq := cq.next hbn
        clear hbn
        replace hS := HSI.out _ b
        refine hK.out _ _ hS (fun _ => ?_)
        clear hK K
        refine wpAnyH_ready (rs := [2]) (by kernel_rfl) (by simp) (AllReadyH.cons rfl (fun K hK => ?_) AllReadyH.nil)
        simp only [List.getElem_toArray, List.getElem_cons_succ, List.getElem_cons_zero, Act.put, List.setIfInBounds_toArray, List.set_cons_zero, List.set_cons_succ]
        go_simp
        refine (own_any l0 wz61 wz61.heap.size A0 n0 c0 (i0.nx hb).sl i0.none_ (by omega) (Nat.le_refl _)).mono ?_
        rintro e wax62 ⟨X0, d0, rfl, x0⟩
        have hbn := x0.below
        have y0 := x0.bys
        clear x0
        replace b := b.next hbn
        replace hb := next hb hbn
        replace rr := (rr.next hbn).up hbn.size
        replace qq := qq.next hB hbn
        replace hB := Nat.le_trans hB hbn.size
        replace cq := cq.next hbn
        replace bf := bf.next hbn
        clear hbn
        replace hS := HSI.out _ b
        refine hK.out _ _ hS (fun _ => ?_)
        clear hK K
        refine wpAnyH_ready (rs := [5]) (by kernel_rfl) (by simp) (AllReadyH.cons rfl (fun K hK => ?_) AllReadyH.nil)
        simp only [List.getElem_toArray, List.getElem_cons_succ, List.getElem_cons_zero, Act.put, List.setIfInBounds_toArray, List.set_cons_zero, List.set_cons_succ]
        go_simp
        refine (own_any l1 wax62 wax62.heap.size A1 n1 c1 (i1.nx hb).sl i1.none_ (by omega) (Nat.le_refl _)).mono ?_
        rintro e wbx63 ⟨X1, d1, rfl, x1⟩
        have hbn := x1.below
        have y1 := x1.bys
        clear x1
        replace b := b.next hbn
        replace hb := next hb hbn
        replace rr := (rr.next hbn).up hbn.size
        replace qq := qq.next hB hbn
        replace hB := Nat.le_trans hB hbn.size
        replace cq := cq.next hbn
        replace bf := bf.next hbn
        replace y0 := y0.nx hbn
        clear hbn
        replace hS := HSI.out _ b
        refine hK.out _ _ hS (fun _ => ?_)
        clear hK K
        refine wpAnyH_ready (rs := [11]) (by kernel_rfl) (by simp) (AllReadyH.cons rfl (fun K hK => ?_) AllReadyH.nil)
        simp only [List.getElem_toArray, List.getElem_cons_succ, List.getElem_cons_zero, Act.put, List.setIfInBounds_toArray, List.set_cons_zero, List.set_cons_succ]
        go_simp
        refine (make_any l0 l1 m X0 n0 d0 X1 n1 d1 r nu g wbx63 y0 y1 rr (by omega) (by omega) (HT.out.next hb)).mono ?_
        rw [HE.out, HF.out]
        rintro e wcx64 ⟨Af, nf, cf, Bf, mf, df, rfl, ff, hbn⟩
        replace b := b.next hbn
        replace hb := next hb hbn
        replace rr := (rr.next hbn).up hbn.size
        replace qq := qq.next hB hbn
        replace hB := Nat.le_trans hB hbn.size
        replace cq := cq.next hbn
        replace bf := bf.next hbn
        replace y0 := y0.nx hbn
        replace y1 := y1.nx hbn
        clear hbn
        replace hS := HSI.out _ b
        refine hK.out _ _ hS (fun _ => ?_)
        clear hK K
        refine wpAnyH_take (i := 12) (v := (.tuple #[.agg (fC Af nf cf r nu Bf mf df).toArray, .int .i64 0])) rfl (by kernel_rfl) (by kernel_rfl) (by kernel_rfl) (fun _ _ _ h => h) (Or.inl ⟨by rfl, fun _ hSw => by go_simp⟩) hS ?_
        simp only [List.getElem_toArray, List.getElem_cons_succ, List.getElem_cons_zero, Act.put, List.setIfInBounds_toArray, List.set_cons_zero, List.set_cons_succ]
        refine wpAnyH_take (i := 13) (v := (.agg (fC Af nf cf r nu Bf mf df).toArray)) rfl (by kernel_rfl) (by kernel_rfl) (by kernel_rfl) (fun _ _ _ h => h) (Or.inl ⟨by rfl, fun _ hSw => by go_simp⟩) hS ?_
        simp only [List.getElem_toArray, List.getElem_cons_succ, List.getElem_cons_zero, Act.put, List.setIfInBounds_toArray, List.set_cons_zero, List.set_cons_succ]
        refine wpAnyH_take (i := 14) (v := (.int .i64 0)) rfl (by kernel_rfl) (by kernel_rfl) (by kernel_rfl) (fun _ _ _ h => h) (Or.inl ⟨by rfl, fun _ hSw => by go_simp⟩) hS ?_
        simp only [List.getElem_toArray, List.getElem_cons_succ, List.getElem_cons_zero, Act.put, List.setIfInBounds_toArray, List.set_cons_zero, List.set_cons_succ]
        refine wpAnyH_ready (rs := [16]) (by kernel_rfl) (by simp) (AllReadyH.cons rfl (fun K hK => ?_) AllReadyH.nil)
        simp only [List.getElem_toArray, List.getElem_cons_succ, List.getElem_cons_zero, Act.put, List.setIfInBounds_toArray, List.set_cons_zero, List.set_cons_succ]
        rw [if_pos (by rfl)]
        refine wp_store_mid 35 _ _ rfl _ _ (fC Af nf cf r nu Bf mf df).toArray rfl rfl (bf.there_ (by simp [nilF, fC])) size_kf (all_oneCell_toArray (fC_one _ _ _ _ _ _ _ _)) ?_
        have hgb : wcx64.grownBy (wcx64.setCells gf 0 (fC Af nf cf r nu Bf mf df)) (some gf) := but_setCells (but_refl wcx64 _) 0 _
        have o1 := off_file bf ff.salt
        have o2 := off_file bf ff.box
        have bfile : Bl (wcx64.setCells gf 0 (fC Af nf cf r nu Bf mf df)) gf (fC Af nf cf r nu Bf mf df) 35 := bf.over rfl
        replace ff := ff.nb hgb o1 o2
        replace b := b.grown hgb (fun e => hgk (Option.some.inj e).symm)
        replace cq := cq.grown hgb (fun e => hgv (Option.some.inj e).symm)
        replace rr := (rr.other bf hgg hgb).up hgb.size
        replace qq := qq.row hgb hB hg1 hgq
        replace hb := below_setCells hb hgw 0 (fC Af nf cf r nu Bf mf df)
        replace hB := Nat.le_trans hB hgb.size
        obtain ⟨wf, hwf⟩ : ∃ W, W = wcx64.setCells gf 0 (fC Af nf cf r nu Bf mf df) := ⟨_, rfl⟩
        rw [← hwf] at b cq rr qq hb hB ff bfile
        rw [← hwf]
        clear hwf hgb o1 o2 bf
        replace hS := HSI.out _ b
        refine hK.out _ _ hS (fun _ => ?_)
        clear hK K
        simp only [List.getElem_toArray, List.getElem_cons_succ, List.getElem_cons_zero, Act.put, List.setIfInBounds_toArray, List.set_cons_zero, List.set_cons_succ]
        refine wpAnyH_take (i := 17) (v := (.int .i64 0)) rfl (by kernel_rfl) (by kernel_rfl) (by kernel_rfl) (fun _ _ _ h => h) (Or.inl ⟨by rfl, fun _ hSw => by go_simp⟩) hS ?_
        simp only [List.getElem_toArray, List.getElem_cons_succ, List.getElem_cons_zero, Act.put, List.setIfInBounds_toArray, List.set_cons_zero, List.set_cons_succ]
        refine wpAnyH_done (by kernel_rfl) ?_ _
        clear hS
        have hkf : kfit nf r nu mf = true := by rw [ff.salt.len, ff.box.len]; exact HK.out
        have HKF := Lib.hid hkf
        have hnf : nf ≤ 140737488351232 := by rw [ff.salt.len, ← i1.len]; exact hn1
        have hmf : mf ≤ 140737488351232 := by rw [ff.box.len]; exact HBL.out
        clear hkf HK HBL
        go_wp2_with fail
        obtain ⟨S7, hS7d⟩ : ∃ S : World → Prop, S = fun w' => Bl w' w.heap.size (kaC A0 n0 c0 A1 n1 c1 r nu M mn mc A5 n5 c5 x y) 26 ∧ Bl w' gf (fC Af nf cf r nu Bf mf df) 35 := ⟨_, rfl⟩
        have H7I : Hid (∀ w', Bl w' w.heap.size (kaC A0 n0 c0 A1 n1 c1 r nu M mn mc A5 n5 c5 x y) 26 → Bl w' gf (fC Af nf cf r nu Bf mf df) 35 → S7 w') := by unfold Hid; intro w' h h'; rw [hS7d]; exact ⟨h, h'⟩
        have H70 : Hid (∀ w', S7 w' → w'.cell? ⟨w.heap.size, 0, none⟩ = some (.slice A0 n0 c0)) := by unfold Hid; intro w' h; rw [hS7d] at h; exact h.1.cell 0
        have H7W : Hid (∀ w', S7 w' → ∀ j v, (fC Af nf cf r nu Bf mf df)[j]? = some v → w'.cell? ((⟨gf, 0, none⟩ : Addr).add j) = some v) := by unfold Hid; intro w' h j v hv; rw [hS7d] at h; rw [Addr.add_mid]; exact h.2.whole j v hv
        clear hS7d
        obtain ⟨w7, hw7⟩ : ∃ W', W' = wf.drew := ⟨_, rfl⟩
        have hbn : Below wf.heap.size wf w7 := by rw [hw7]; exact (Below.refl _ wf).drew
        replace b := b.next hbn
        replace bfile := bfile.next hbn
        replace ff := ff.nx hbn
        replace hb := next hb hbn
        replace qq := qq.next hB hbn
        replace hB := Nat.le_trans hB hbn.size
        replace cq := cq.next hbn
        clear hbn
        have hS := H7I.out _ b bfile
        refine wp_region_held_drew (S := S7) (by kernel_rfl) (by rw [← hw7]; exact hS) (fun _ => ?_)
        rw [← hw7]
        clear hw7
        refine wpAnyH_take (i := 0) (v := .agg (fC Af nf cf r nu Bf mf df).toArray) rfl (by kernel_rfl) (by kernel_rfl) (by kernel_rfl) (fun _ _ _ h => h) (Or.inl ⟨by rfl, fun w' hSw => exec_load_at w' 35 _ rfl ⟨gf, 0, none⟩ rfl (fC Af nf cf r nu Bf mf df) _ (H7W.out w' hSw) Tryz.underlying35 rfl size_kf⟩) hS ?_
        simp only [List.getElem_toArray, List.getElem_cons_succ, List.getElem_cons_zero, Act.put, List.setIfInBounds_toArray, List.set_cons_zero, List.set_cons_succ]
        refine wpAnyH_take (i := 1) (v := (.pointer (some ⟨w.heap.size, 0, none⟩))) rfl (by kernel_rfl) (by kernel_rfl) (by kernel_rfl) (fun _ _ _ h => h) (Or.inl ⟨by rfl, fun _ hSw => by go_simp⟩) hS ?_
        simp only [List.getElem_toArray, List.getElem_cons_succ, List.getElem_cons_zero, Act.put, List.setIfInBounds_toArray, List.set_cons_zero, List.set_cons_succ]
        refine wpAnyH_take (i := 2) (v := (.slice A0 n0 c0)) rfl (by kernel_rfl) (by kernel_rfl) (by kernel_rfl) (fun _ _ _ h => h) (Or.inl ⟨by rfl, fun w' hSw => by have hq := H70.out w' hSw; go_simp⟩) hS ?_
        simp only [List.getElem_toArray, List.getElem_cons_succ, List.getElem_cons_zero, Act.put, List.setIfInBounds_toArray, List.set_cons_zero, List.set_cons_succ]
        refine wpAnyH_ready (rs := [3]) (by kernel_rfl) (by simp) (AllReadyH.cons rfl (fun K hK => ?_) AllReadyH.nil)
        simp only [List.getElem_toArray, List.getElem_cons_succ, List.getElem_cons_zero, Act.put, List.setIfInBounds_toArray, List.set_cons_zero, List.set_cons_succ]
        go_simp
        refine (own_any l0 w7 w7.heap.size A0 n0 c0 (i0.nx hb).sl i0.none_ (by omega) (Nat.le_refl _)).mono ?_
        rintro e w8 ⟨X8, d8, rfl, x8⟩
        have hbn := x8.below
        have y8 := x8.bys
        clear x8
        replace b := b.next hbn
        replace bfile := bfile.next hbn
        replace ff := ff.nx hbn
        replace hb := next hb hbn
        replace qq := qq.next hB hbn
        replace hB := Nat.le_trans hB hbn.size
        replace cq := cq.next hbn
        clear hbn
        replace hS := H7I.out _ b bfile
        refine hK.out _ _ hS (fun _ => ?_)
        clear hK K
        refine wpAnyH_ready (rs := [4]) (by kernel_rfl) (by simp) (AllReadyH.cons rfl (fun K hK => ?_) AllReadyH.nil)
        simp only [List.getElem_toArray, List.getElem_cons_succ, List.getElem_cons_zero, Act.put, List.setIfInBounds_toArray, List.set_cons_zero, List.set_cons_succ]
        go_simp
        refine (kopen_any l0 l1 Bx X8 n0 d8 Af nf cf r nu Bf mf df w8 y8 ff (by omega) hnf hmf (HT.out.next hb)).mono ?_
        rw [HOE.out, HOM.out]
        rintro e w9 ⟨hbn, (⟨_, gk, rfl, r9, hgk⟩ | ⟨h0, _⟩)⟩
        · replace b := b.next hbn
          replace bfile := bfile.next hbn
          replace ff := ff.nx hbn
          replace hb := next hb hbn
          replace qq := qq.next hB hbn
          replace hB := Nat.le_trans hB hbn.size
          replace cq := cq.next hbn
          clear hbn
          replace hS := H7I.out _ b bfile
          refine hK.out _ _ hS (fun _ => ?_)
          clear hK K
          refine wpAnyH_take (i := 5) (v := (.tuple #[.pointer (some ⟨gk, 0, none⟩), .int .i64 0])) rfl (by kernel_rfl) (by kernel_rfl) (by kernel_rfl) (fun _ _ _ h => h) (Or.inl ⟨by rfl, fun _ hSw => by go_simp⟩) hS ?_
          simp only [List.getElem_toArray, List.getElem_cons_succ, List.getElem_cons_zero, Act.put, List.setIfInBounds_toArray, List.set_cons_zero, List.set_cons_succ]
          refine wpAnyH_take (i := 6) (v := (.pointer (some ⟨gk, 0, none⟩))) rfl (by kernel_rfl) (by kernel_rfl) (by kernel_rfl) (fun _ _ _ h => h) (Or.inl ⟨by rfl, fun _ hSw => by go_simp⟩) hS ?_
          simp only [List.getElem_toArray, List.getElem_cons_succ, List.getElem_cons_zero, Act.put, List.setIfInBounds_toArray, List.set_cons_zero, List.set_cons_succ]
          refine wpAnyH_take (i := 7) (v := (.int .i64 0)) rfl (by kernel_rfl) (by kernel_rfl) (by kernel_rfl) (fun _ _ _ h => h) (Or.inl ⟨by rfl, fun _ hSw => by go_simp⟩) hS ?_
          simp only [List.getElem_toArray, List.getElem_cons_succ, List.getElem_cons_zero, Act.put, List.setIfInBounds_toArray, List.set_cons_zero, List.set_cons_succ]
          refine wpAnyH_take (i := 8) (v := (.pointer (some ⟨gk, 0, none⟩))) rfl (by kernel_rfl) (by kernel_rfl) (by kernel_rfl) (fun _ _ _ h => h) (Or.inl ⟨by rfl, fun _ hSw => by go_simp⟩) hS ?_
          simp only [List.getElem_toArray, List.getElem_cons_succ, List.getElem_cons_zero, Act.put, List.setIfInBounds_toArray, List.set_cons_zero, List.set_cons_succ]
          refine wpAnyH_take (i := 9) (v := (.int .i64 0)) rfl (by kernel_rfl) (by kernel_rfl) (by kernel_rfl) (fun _ _ _ h => h) (Or.inl ⟨by rfl, fun _ hSw => by go_simp⟩) hS ?_
          simp only [List.getElem_toArray, List.getElem_cons_succ, List.getElem_cons_zero, Act.put, List.setIfInBounds_toArray, List.set_cons_zero, List.set_cons_succ]
          refine wpAnyH_done (by kernel_rfl) ?_ _
          clear hS H7I H70 H7W y8
          have wh9 := bfile.whole
          go_wp2_with (first
            | (refine wpList_load_want (by rfl) 35 _ rfl _ _ rfl (fC Af nf cf r nu Bf mf df) _ wh9 Tryz.underlying35 rfl size_kf ?_)
            | (go_at_call 20; refine (fright_any Af nf cf r nu Bf mf df w9 (by omega) (by omega)).mono ?_; rw [HKF.out]; rintro e w10 ⟨rfl, hbn⟩; replace r9 := (r9.next hbn).up hbn.size; replace qq := qq.next hB hbn; replace hB := Nat.le_trans hB hbn.size; replace cq := cq.next hbn; replace hb := next hb hbn; have cqc : w10.cell? ⟨qv, 0, none⟩ = some (.slice A n c) := cq.cell 0; clear hbn)
            | (go_at_call 16; refine (alike_any gk w1.heap.size M2 m HSR.out A n c w10 (HT.out.next hb) r9 qq HOK.out hB HM2.out (by omega)).mono ?_; rintro e w11 ⟨rfl, hbn⟩; replace hb := next hb hbn; clear hbn)
            | (go_at_call 10; refine (awake11_any w11 (HT.out.next hb)).mono ?_; rintro e w12 ⟨rfl, hb12⟩)
            | fail)
          go_ret
          exact ⟨rfl, next hb hb12⟩
        · exact absurd rfl h0

    · have hFv : F = nilV := by rw [hF]; unfold mkF; rw [if_neg (by rw [← hE]; exact hE0)]
      have hE1 : E = 1 := by rw [hE]; unfold mkE; rw [if_neg]; intro h; exact hE0 (by rw [hE]; unfold mkE; rw [if_pos h])
      clear hE hF hE0
      subst hE1
      have HFN : Hid (∀ W, Fil W none 0 0 F.S none 0 0 F.X) := fun W => by rw [hFv]; exact fil_nil W
      subst hFv
      refine wpAnyH_ready (rs := [2, 15]) (by kernel_rfl) (by simp) (AllReadyH.cons rfl (fun K hK => ?_) (AllReadyH.cons rfl (fun K hK => ?_) AllReadyH.nil))
      · simp only [List.getElem_toArray, List.getElem_cons_succ, List.getElem_cons_zero, Act.put, List.setIfInBounds_toArray, List.set_cons_zero, List.set_cons_succ]
        go_simp
        refine (own_any l0 wc wc.heap.size A0 n0 c0 (i0.nx hb).sl i0.none_ (by omega) (Nat.le_refl _)).mono ?_
        rintro e wa65 ⟨X0, d0, rfl, x0⟩
        have hbn := x0.below
        have y0 := x0.bys
        clear x0
        replace b := b.next hbn
        replace hb := next hb hbn
        replace rr := (rr.next hbn).up hbn.size
        replace qq := qq.next hB hbn
        replace hB := Nat.le_trans hB hbn.size
        replace cq := cq.next hbn
        clear hbn
        replace hS := HSI.out _ b
        refine hK.out _ _ hS (fun _ => ?_)
        clear hK K
        refine wpAnyH_ready (rs := [5, 15]) (by kernel_rfl) (by simp) (AllReadyH.cons rfl (fun K hK => ?_) (AllReadyH.cons rfl (fun K hK => ?_) AllReadyH.nil))
        · simp only [List.getElem_toArray, List.getElem_cons_succ, List.getElem_cons_zero, Act.put, List.setIfInBounds_toArray, List.set_cons_zero, List.set_cons_succ]
          go_simp
          refine (own_any l1 wa65 wa65.heap.size A1 n1 c1 (i1.nx hb).sl i1.none_ (by omega) (Nat.le_refl _)).mono ?_
          rintro e wb66 ⟨X1, d1, rfl, x1⟩
          have hbn := x1.below
          have y1 := x1.bys
          clear x1
          replace b := b.next hbn
          replace hb := next hb hbn
          replace rr := (rr.next hbn).up hbn.size
          replace qq := qq.next hB hbn
          replace hB := Nat.le_trans hB hbn.size
          replace cq := cq.next hbn
          replace y0 := y0.nx hbn
          clear hbn
          replace hS := HSI.out _ b
          refine hK.out _ _ hS (fun _ => ?_)
          clear hK K
          refine wpAnyH_ready (rs := [11, 15]) (by kernel_rfl) (by simp) (AllReadyH.cons rfl (fun K hK => ?_) (AllReadyH.cons rfl (fun K hK => ?_) AllReadyH.nil))
          · simp only [List.getElem_toArray, List.getElem_cons_succ, List.getElem_cons_zero, Act.put, List.setIfInBounds_toArray, List.set_cons_zero, List.set_cons_succ]
            go_simp
            refine (make_any l0 l1 m X0 n0 d0 X1 n1 d1 r nu g wb66 y0 y1 rr (by omega) (by omega) (HT.out.next hb)).mono ?_
            rw [HE.out, HF.out]
            rintro e wc67 ⟨Af, nf, cf, Bf, mf, df, rfl, ff, hbn⟩
            replace b := b.next hbn
            replace hb := next hb hbn
            replace rr := (rr.next hbn).up hbn.size
            replace qq := qq.next hB hbn
            replace hB := Nat.le_trans hB hbn.size
            replace cq := cq.next hbn
            replace y0 := y0.nx hbn
            replace y1 := y1.nx hbn
            clear hbn
            replace hS := HSI.out _ b
            refine hK.out _ _ hS (fun _ => ?_)
            clear hK K
            refine wpAnyH_take (i := 12) (v := (.tuple #[.agg (fC Af nf cf nilV.r nilV.nu Bf mf df).toArray, .int .i64 1])) rfl (by kernel_rfl) (by kernel_rfl) (by kernel_rfl) (fun _ _ _ h => h) (Or.inl ⟨by rfl, fun _ hSw => by go_simp⟩) hS ?_
            simp only [List.getElem_toArray, List.getElem_cons_succ, List.getElem_cons_zero, Act.put, List.setIfInBounds_toArray, List.set_cons_zero, List.set_cons_succ]
            refine wpAnyH_take (i := 13) (v := (.agg (fC Af nf cf nilV.r nilV.nu Bf mf df).toArray)) rfl (by kernel_rfl) (by kernel_rfl) (by kernel_rfl) (fun _ _ _ h => h) (Or.inl ⟨by rfl, fun _ hSw => by go_simp⟩) hS ?_
            simp only [List.getElem_toArray, List.getElem_cons_succ, List.getElem_cons_zero, Act.put, List.setIfInBounds_toArray, List.set_cons_zero, List.set_cons_succ]
            refine wpAnyH_take (i := 14) (v := (.int .i64 1)) rfl (by kernel_rfl) (by kernel_rfl) (by kernel_rfl) (fun _ _ _ h => h) (Or.inl ⟨by rfl, fun _ hSw => by go_simp⟩) hS ?_
            simp only [List.getElem_toArray, List.getElem_cons_succ, List.getElem_cons_zero, Act.put, List.setIfInBounds_toArray, List.set_cons_zero, List.set_cons_succ]
            refine wpAnyH_ready (rs := [15]) (by kernel_rfl) (by simp) (AllReadyH.cons rfl (fun K hK => ?_) AllReadyH.nil)
            simp only [List.getElem_toArray, List.getElem_cons_succ, List.getElem_cons_zero, Act.put, List.setIfInBounds_toArray, List.set_cons_zero, List.set_cons_succ]
            rw [if_pos (by rfl)]
            refine wp_alloc_zero 35 rfl nilF zero_kf ?_
            obtain ⟨wz68, hwz68⟩ : ∃ W, W = wc67.alloc (.cells nilF.toArray 35) := ⟨_, rfl⟩
            have bf := Bl.new wc67 nilF 35
            have hbn : Below wc67.heap.size wc67 (wc67.alloc (.cells nilF.toArray 35)) := (Below.refl _ wc67).alloc (Nat.le_refl _) _
            obtain ⟨gf, hgf⟩ : ∃ g, g = wc67.heap.size := ⟨_, rfl⟩
            rw [← hwz68] at bf hbn
            rw [← hwz68]
            rw [← hgf] at bf
            rw [← hgf]
            have hgw : w.heap.size ≤ gf := by rw [hgf]; exact hb.size
            have hg1 : w1.heap.size ≤ gf := by rw [hgf]; exact hB
            have hgg : gf ≠ g := by have := rr.lt; omega
            have hgq : Off gf (m.length * 2) A := qq.off (by omega)
            have hgv : qv ≠ gf := by have := cq.lt; omega
            have hgk : w.heap.size ≠ gf := by have := b.lt; omega
            clear hwz68 hgf
            replace b := b.next hbn
            replace hb := next hb hbn
            replace rr := (rr.next hbn).up hbn.size
            replace qq := qq.next hB hbn
            replace hB := Nat.le_trans hB hbn.size
            replace cq := cq.next hbn
            replace y0 := y0.nx hbn
            replace y1 := y1.nx hbn
            replace ff := ff.nx hbn
            clear hbn
            replace hS := HSI.out _ b
            refine hK.out _ _ hS (fun _ => ?_)
            clear hK K
            refine wpAnyH_ready (rs := [16]) (by kernel_rfl) (by simp) (AllReadyH.cons rfl (fun K hK => ?_) AllReadyH.nil)
            simp only [List.getElem_toArray, List.getElem_cons_succ, List.getElem_cons_zero, Act.put, List.setIfInBounds_toArray, List.set_cons_zero, List.set_cons_succ]
            rw [if_pos (by rfl)]
            refine wp_store_mid 35 _ _ rfl _ _ (fC Af nf cf nilV.r nilV.nu Bf mf df).toArray rfl rfl (bf.there_ (by simp [nilF, fC])) size_kf (all_oneCell_toArray (fC_one _ _ _ _ _ _ _ _)) ?_
            have hgb : wz68.grownBy (wz68.setCells gf 0 (fC Af nf cf nilV.r nilV.nu Bf mf df)) (some gf) := but_setCells (but_refl wz68 _) 0 _
            have o1 := off_file bf ff.salt
            have o2 := off_file bf ff.box
            have bfile : Bl (wz68.setCells gf 0 (fC Af nf cf nilV.r nilV.nu Bf mf df)) gf (fC Af nf cf nilV.r nilV.nu Bf mf df) 35 := bf.over rfl
            replace ff := ff.nb hgb o1 o2
            replace b := b.grown hgb (fun e => hgk (Option.some.inj e).symm)
            replace cq := cq.grown hgb (fun e => hgv (Option.some.inj e).symm)
            replace rr := (rr.other bf hgg hgb).up hgb.size
            replace qq := qq.row hgb hB hg1 hgq
            replace hb := below_setCells hb hgw 0 (fC Af nf cf nilV.r nilV.nu Bf mf df)
            replace hB := Nat.le_trans hB hgb.size
            obtain ⟨wf, hwf⟩ : ∃ W, W = wz68.setCells gf 0 (fC Af nf cf nilV.r nilV.nu Bf mf df) := ⟨_, rfl⟩
            rw [← hwf] at b cq rr qq hb hB ff bfile
            rw [← hwf]
            clear hwf hgb o1 o2 bf
            replace hS := HSI.out _ b
            refine hK.out _ _ hS (fun _ => ?_)
            clear hK K
            simp only [List.getElem_toArray, List.getElem_cons_succ, List.getElem_cons_zero, Act.put, List.setIfInBounds_toArray, List.set_cons_zero, List.set_cons_succ]
            refine wpAnyH_take (i := 17) (v := (.int .i64 1)) rfl (by kernel_rfl) (by kernel_rfl) (by kernel_rfl) (fun _ _ _ h => h) (Or.inl ⟨by rfl, fun _ hSw => by go_simp⟩) hS ?_
            simp only [List.getElem_toArray, List.getElem_cons_succ, List.getElem_cons_zero, Act.put, List.setIfInBounds_toArray, List.set_cons_zero, List.set_cons_succ]
            refine wpAnyH_done (by kernel_rfl) ?_ _
            clear hS
            have wh5 := bfile.whole
            have mkD : True := trivial
            go_wp2_with (first
              | (refine wpList_load_want (by rfl) 35 _ rfl _ _ rfl (fC Af nf cf nilV.r nilV.nu Bf mf df) _ wh5 Tryz.underlying35 rfl size_kf ?_)
              | (refine wpList_build_to rfl 39 _ rfl nilF built_rf0 ?_)
              | (go_at_call 15; refine (same_any11 nilV.S nilV.X nilV.r nilV.nu Af nf cf Bf mf df none 0 0 none 0 0 wf ff (HFN.out wf)).mono ?_; rintro e w8 ⟨rfl, hb8⟩; replace hb := next hb hb8)
              | (go_at_call 10; refine (awake11_any w8 (HT.out.next hb)).mono ?_; rintro e w9 ⟨rfl, hb9⟩)
              | fail)
            go_ret
            exact ⟨rfl, next hb hb9⟩
          · simp only [List.getElem_toArray, List.getElem_cons_succ, List.getElem_cons_zero, Act.put, List.setIfInBounds_toArray, List.set_cons_zero, List.set_cons_succ]
            rw [if_pos (by rfl)]
            refine wp_alloc_zero 35 rfl nilF zero_kf ?_
            obtain ⟨wz69, hwz69⟩ : ∃ W, W = wb66.alloc (.cells nilF.toArray 35) := ⟨_, rfl⟩
            have bf := Bl.new wb66 nilF 35
            have hbn : Below wb66.heap.size wb66 (wb66.alloc (.cells nilF.toArray 35)) := (Below.refl _ wb66).alloc (Nat.le_refl _) _
            obtain ⟨gf, hgf⟩ : ∃ g, g = wb66.heap.size := ⟨_, rfl⟩
            rw [← hwz69] at bf hbn
            rw [← hwz69]
            rw [← hgf] at bf
            rw [← hgf]
            have hgw : w.heap.size ≤ gf := by rw [hgf]; exact hb.size
            have hg1 : w1.heap.size ≤ gf := by rw [hgf]; exact hB
            have hgg : gf ≠ g := by have := rr.lt; omega
            have hgq : Off gf (m.length * 2) A := qq.off (by omega)
            have hgv : qv ≠ gf := by have := cq.lt; omega
            have hgk : w.heap.size ≠ gf := by have := b.lt; omega
            clear hwz69 hgf
            replace b := b.next hbn
            replace hb := next hb hbn
            replace rr := (rr.next hbn).up hbn.size
            replace qq := qq.next hB hbn
            replace hB := Nat.le_trans hB hbn.size
            replace cq := cq.next hbn
            replace y0 := y0.nx hbn
            replace y1 := y1.nx hbn
            clear hbn
            replace hS := HSI.out _ b
            refine hK.out _ _ hS (fun _ => ?_)
            clear hK K
            refine wpAnyH_ready (rs := [11]) (by kernel_rfl) (by simp) (AllReadyH.cons rfl (fun K hK => ?_) AllReadyH.nil)
            simp only [List.getElem_toArray, List.getElem_cons_succ, List.getElem_cons_zero, Act.put, List.setIfInBounds_toArray, List.set_cons_zero, List.set_cons_succ]
            go_simp
            refine (make_any l0 l1 m X0 n0 d0 X1 n1 d1 r nu g wz69 y0 y1 rr (by omega) (by omega) (HT.out.next hb)).mono ?_
            rw [HE.out, HF.out]
            rintro e wcx70 ⟨Af, nf, cf, Bf, mf, df, rfl, ff, hbn⟩
            replace b := b.next hbn
            replace hb := next hb hbn
            replace rr := (rr.next hbn).up hbn.size
            replace qq := qq.next hB hbn
            replace hB := Nat.le_trans hB hbn.size
            replace cq := cq.next hbn
            replace y0 := y0.nx hbn
            replace y1 := y1.nx hbn
            replace bf := bf.next hbn
            clear hbn
            replace hS := HSI.out _ b
            refine hK.out _ _ hS (fun _ => ?_)
            clear hK K
            refine wpAnyH_take (i := 12) (v := (.tuple #[.agg (fC Af nf cf nilV.r nilV.nu Bf mf df).toArray, .int .i64 1])) rfl (by kernel_rfl) (by kernel_rfl) (by kernel_rfl) (fun _ _ _ h => h) (Or.inl ⟨by rfl, fun _ hSw => by go_simp⟩) hS ?_
            simp only [List.getElem_toArray, List.getElem_cons_succ, List.getElem_cons_zero, Act.put, List.setIfInBounds_toArray, List.set_cons_zero, List.set_cons_succ]
            refine wpAnyH_take (i := 13) (v := (.agg (fC Af nf cf nilV.r nilV.nu Bf mf df).toArray)) rfl (by kernel_rfl) (by kernel_rfl) (by kernel_rfl) (fun _ _ _ h => h) (Or.inl ⟨by rfl, fun _ hSw => by go_simp⟩) hS ?_
            simp only [List.getElem_toArray, List.getElem_cons_succ, List.getElem_cons_zero, Act.put, List.setIfInBounds_toArray, List.set_cons_zero, List.set_cons_succ]
            refine wpAnyH_take (i := 14) (v := (.int .i64 1)) rfl (by kernel_rfl) (by kernel_rfl) (by kernel_rfl) (fun _ _ _ h => h) (Or.inl ⟨by rfl, fun _ hSw => by go_simp⟩) hS ?_
            simp only [List.getElem_toArray, List.getElem_cons_succ, List.getElem_cons_zero, Act.put, List.setIfInBounds_toArray, List.set_cons_zero, List.set_cons_succ]
            refine wpAnyH_ready (rs := [16]) (by kernel_rfl) (by simp) (AllReadyH.cons rfl (fun K hK => ?_) AllReadyH.nil)
            simp only [List.getElem_toArray, List.getElem_cons_succ, List.getElem_cons_zero, Act.put, List.setIfInBounds_toArray, List.set_cons_zero, List.set_cons_succ]
            rw [if_pos (by rfl)]
            refine wp_store_mid 35 _ _ rfl _ _ (fC Af nf cf nilV.r nilV.nu Bf mf df).toArray rfl rfl (bf.there_ (by simp [nilF, fC])) size_kf (all_oneCell_toArray (fC_one _ _ _ _ _ _ _ _)) ?_
            have hgb : wcx70.grownBy (wcx70.setCells gf 0 (fC Af nf cf nilV.r nilV.nu Bf mf df)) (some gf) := but_setCells (but_refl wcx70 _) 0 _
            have o1 := off_file bf ff.salt
            have o2 := off_file bf ff.box
            have bfile : Bl (wcx70.setCells gf 0 (fC Af nf cf nilV.r nilV.nu Bf mf df)) gf (fC Af nf cf nilV.r nilV.nu Bf mf df) 35 := bf.over rfl
            replace ff := ff.nb hgb o1 o2
            replace b := b.grown hgb (fun e => hgk (Option.some.inj e).symm)
            replace cq := cq.grown hgb (fun e => hgv (Option.some.inj e).symm)
            replace rr := (rr.other bf hgg hgb).up hgb.size
            replace qq := qq.row hgb hB hg1 hgq
            replace hb := below_setCells hb hgw 0 (fC Af nf cf nilV.r nilV.nu Bf mf df)
            replace hB := Nat.le_trans hB hgb.size
            obtain ⟨wf, hwf⟩ : ∃ W, W = wcx70.setCells gf 0 (fC Af nf cf nilV.r nilV.nu Bf mf df) := ⟨_, rfl⟩
            rw [← hwf] at b cq rr qq hb hB ff bfile
            rw [← hwf]
            clear hwf hgb o1 o2 bf
            replace hS := HSI.out _ b
            refine hK.out _ _ hS (fun _ => ?_)
            clear hK K
            simp only [List.getElem_toArray, List.getElem_cons_succ, List.getElem_cons_zero, Act.put, List.setIfInBounds_toArray, List.set_cons_zero, List.set_cons_succ]
            refine wpAnyH_take (i := 17) (v := (.int .i64 1)) rfl (by kernel_rfl) (by kernel_rfl) (by kernel_rfl) (fun _ _ _ h => h) (Or.inl ⟨by rfl, fun _ hSw => by go_simp⟩) hS ?_
            simp only [List.getElem_toArray, List.getElem_cons_succ, List.getElem_cons_zero, Act.put, List.setIfInBounds_toArray, List.set_cons_zero, List.set_cons_succ]
            refine wpAnyH_done (by kernel_rfl) ?_ _
            clear hS
            have wh5 := bfile.whole
            have mkD : True := trivial
            go_wp2_with (first
              | (refine wpList_load_want (by rfl) 35 _ rfl _ _ rfl (fC Af nf cf nilV.r nilV.nu Bf mf df) _ wh5 Tryz.underlying35 rfl size_kf ?_)
              | (refine wpList_build_to rfl 39 _ rfl nilF built_rf0 ?_)
              | (go_at_call 15; refine (same_any11 nilV.S nilV.X nilV.r nilV.nu Af nf cf Bf mf df none 0 0 none 0 0 wf ff (HFN.out wf)).mono ?_; rintro e w8 ⟨rfl, hb8⟩; replace hb := next hb hb8)
              | (go_at_call 10; refine (awake11_any w8 (HT.out.next hb)).mono ?_; rintro e w9 ⟨rfl, hb9⟩)
              | fail)
            go_ret
            exact ⟨rfl, next hb hb9⟩
        · simp only [List.getElem_toArray, List.getElem_cons_succ, List.getElem_cons_zero, Act.put, List.setIfInBounds_toArray, List.set_cons_zero, List.set_cons_succ]
          rw [if_pos (by rfl)]
          refine wp_alloc_zero 35 rfl nilF zero_kf ?_
          obtain ⟨wz71, hwz71⟩ : ∃ W, W = wa65.alloc (.cells nilF.toArray 35) := ⟨_, rfl⟩
          have bf := Bl.new wa65 nilF 35
          have hbn : Below wa65.heap.size wa65 (wa65.alloc (.cells nilF.toArray 35)) := (Below.refl _ wa65).alloc (Nat.le_refl _) _
          obtain ⟨gf, hgf⟩ : ∃ g, g = wa65.heap.size := ⟨_, rfl⟩
          rw [← hwz71] at bf hbn
          rw [← hwz71]
          rw [← hgf] at bf
          rw [← hgf]
          have hgw : w.heap.size ≤ gf := by rw [hgf]; exact hb.size
          have hg1 : w1.heap.size ≤ gf := by rw [hgf]; exact hB
          have hgg : gf ≠ g := by have := rr.lt; omega
          have hgq : Off gf (m.length * 2) A := qq.off (by omega)
          have hgv : qv ≠ gf := by have := cq.lt; omega
          have hgk : w.heap.size ≠ gf := by have := b.lt; omega
          clear hwz71 hgf
          replace b := b.next hbn
          replace hb := next hb hbn
          replace rr := (rr.next hbn).up hbn.size
          replace qq := qq.next hB hbn
          replace hB := Nat.le_trans hB hbn.size
          replace cq := cq.next hbn
          replace y0 := y0.nx hbn
          clear hbn
          replace hS := HSI.out _ b
          refine hK.out _ _ hS (fun _ => ?_)
          clear hK K
          refine wpAnyH_ready (rs := [5]) (by kernel_rfl) (by simp) (AllReadyH.cons rfl (fun K hK => ?_) AllReadyH.nil)
          simp only [List.getElem_toArray, List.getElem_cons_succ, List.getElem_cons_zero, Act.put, List.setIfInBounds_toArray, List.set_cons_zero, List.set_cons_succ]
          go_simp
          refine (own_any l1 wz71 wz71.heap.size A1 n1 c1 (i1.nx hb).sl i1.none_ (by omega) (Nat.le_refl _)).mono ?_
          rintro e wbx72 ⟨X1, d1, rfl, x1⟩
          have hbn := x1.below
          have y1 := x1.bys
          clear x1
          replace b := b.next hbn
          replace hb := next hb hbn
          replace rr := (rr.next hbn).up hbn.size
          replace qq := qq.next hB hbn
          replace hB := Nat.le_trans hB hbn.size
          replace cq := cq.next hbn
          replace y0 := y0.nx hbn
          replace bf := bf.next hbn
          clear hbn
          replace hS := HSI.out _ b
          refine hK.out _ _ hS (fun _ => ?_)
          clear hK K
          refine wpAnyH_ready (rs := [11]) (by kernel_rfl) (by simp) (AllReadyH.cons rfl (fun K hK => ?_) AllReadyH.nil)
          simp only [List.getElem_toArray, List.getElem_cons_succ, List.getElem_cons_zero, Act.put, List.setIfInBounds_toArray, List.set_cons_zero, List.set_cons_succ]
          go_simp
          refine (make_any l0 l1 m X0 n0 d0 X1 n1 d1 r nu g wbx72 y0 y1 rr (by omega) (by omega) (HT.out.next hb)).mono ?_
          rw [HE.out, HF.out]
          rintro e wcx73 ⟨Af, nf, cf, Bf, mf, df, rfl, ff, hbn⟩
          replace b := b.next hbn
          replace hb := next hb hbn
          replace rr := (rr.next hbn).up hbn.size
          replace qq := qq.next hB hbn
          replace hB := Nat.le_trans hB hbn.size
          replace cq := cq.next hbn
          replace y0 := y0.nx hbn
          replace bf := bf.next hbn
          replace y1 := y1.nx hbn
          clear hbn
          replace hS := HSI.out _ b
          refine hK.out _ _ hS (fun _ => ?_)
          clear hK K
          refine wpAnyH_take (i := 12) (v := (.tuple #[.agg (fC Af nf cf nilV.r nilV.nu Bf mf df).toArray, .int .i64 1])) rfl (by kernel_rfl) (by kernel_rfl) (by kernel_rfl) (fun _ _ _ h => h) (Or.inl ⟨by rfl, fun _ hSw => by go_simp⟩) hS ?_
          simp only [List.getElem_toArray, List.getElem_cons_succ, List.getElem_cons_zero, Act.put, List.setIfInBounds_toArray, List.set_cons_zero, List.set_cons_succ]
          refine wpAnyH_take (i := 13) (v := (.agg (fC Af nf cf nilV.r nilV.nu Bf mf df).toArray)) rfl (by kernel_rfl) (by kernel_rfl) (by kernel_rfl) (fun _ _ _ h => h) (Or.inl ⟨by rfl, fun _ hSw => by go_simp⟩) hS ?_
          simp only [List.getElem_toArray, List.getElem_cons_succ, List.getElem_cons_zero, Act.put, List.setIfInBounds_toArray, List.set_cons_zero, List.set_cons_succ]
          refine wpAnyH_take (i := 14) (v := (.int .i64 1)) rfl (by kernel_rfl) (by kernel_rfl) (by kernel_rfl) (fun _ _ _ h => h) (Or.inl ⟨by rfl, fun _ hSw => by go_simp⟩) hS ?_
          simp only [List.getElem_toArray, List.getElem_cons_succ, List.getElem_cons_zero, Act.put, List.setIfInBounds_toArray, List.set_cons_zero, List.set_cons_succ]
          refine wpAnyH_ready (rs := [16]) (by kernel_rfl) (by simp) (AllReadyH.cons rfl (fun K hK => ?_) AllReadyH.nil)
          simp only [List.getElem_toArray, List.getElem_cons_succ, List.getElem_cons_zero, Act.put, List.setIfInBounds_toArray, List.set_cons_zero, List.set_cons_succ]
          rw [if_pos (by rfl)]
          refine wp_store_mid 35 _ _ rfl _ _ (fC Af nf cf nilV.r nilV.nu Bf mf df).toArray rfl rfl (bf.there_ (by simp [nilF, fC])) size_kf (all_oneCell_toArray (fC_one _ _ _ _ _ _ _ _)) ?_
          have hgb : wcx73.grownBy (wcx73.setCells gf 0 (fC Af nf cf nilV.r nilV.nu Bf mf df)) (some gf) := but_setCells (but_refl wcx73 _) 0 _
          have o1 := off_file bf ff.salt
          have o2 := off_file bf ff.box
          have bfile : Bl (wcx73.setCells gf 0 (fC Af nf cf nilV.r nilV.nu Bf mf df)) gf (fC Af nf cf nilV.r nilV.nu Bf mf df) 35 := bf.over rfl
          replace ff := ff.nb hgb o1 o2
          replace b := b.grown hgb (fun e => hgk (Option.some.inj e).symm)
          replace cq := cq.grown hgb (fun e => hgv (Option.some.inj e).symm)
          replace rr := (rr.other bf hgg hgb).up hgb.size
          replace qq := qq.row hgb hB hg1 hgq
          replace hb := below_setCells hb hgw 0 (fC Af nf cf nilV.r nilV.nu Bf mf df)
          replace hB := Nat.le_trans hB hgb.size
          obtain ⟨wf, hwf⟩ : ∃ W, W = wcx73.setCells gf 0 (fC Af nf cf nilV.r nilV.nu Bf mf df) := ⟨_, rfl⟩
          rw [← hwf] at b cq rr qq hb hB ff bfile
          rw [← hwf]
          clear hwf hgb o1 o2 bf
          replace hS := HSI.out _ b
          refine hK.out _ _ hS (fun _ => ?_)
          clear hK K
          simp only [List.getElem_toArray, List.getElem_cons_succ, List.getElem_cons_zero, Act.put, List.setIfInBounds_toArray, List.set_cons_zero, List.set_cons_succ]
          refine wpAnyH_take (i := 17) (v := (.int .i64 1)) rfl (by kernel_rfl) (by kernel_rfl) (by kernel_rfl) (fun _ _ _ h => h) (Or.inl ⟨by rfl, fun _ hSw => by go_simp⟩) hS ?_
          simp only [List.getElem_toArray, List.getElem_cons_succ, List.getElem_cons_zero, Act.put, List.setIfInBounds_toArray, List.set_cons_zero, List.set_cons_succ]
          refine wpAnyH_done (by kernel_rfl) ?_ _
          clear hS
          have wh5 := bfile.whole
          have mkD : True := trivial
          go_wp2_with (first
            | (refine wpList_load_want (by rfl) 35 _ rfl _ _ rfl (fC Af nf cf nilV.r nilV.nu Bf mf df) _ wh5 Tryz.underlying35 rfl size_kf ?_)
            | (refine wpList_build_to rfl 39 _ rfl nilF built_rf0 ?_)
            | (go_at_call 15; refine (same_any11 nilV.S nilV.X nilV.r nilV.nu Af nf cf Bf mf df none 0 0 none 0 0 wf ff (HFN.out wf)).mono ?_; rintro e w8 ⟨rfl, hb8⟩; replace hb := next hb hb8)
            | (go_at_call 10; refine (awake11_any w8 (HT.out.next hb)).mono ?_; rintro e w9 ⟨rfl, hb9⟩)
            | fail)
          go_ret
          exact ⟨rfl, next hb hb9⟩
      · simp only [List.getElem_toArray, List.getElem_cons_succ, List.getElem_cons_zero, Act.put, List.setIfInBounds_toArray, List.set_cons_zero, List.set_cons_succ]
        rw [if_pos (by rfl)]
        refine wp_alloc_zero 35 rfl nilF zero_kf ?_
        obtain ⟨wz74, hwz74⟩ : ∃ W, W = wc.alloc (.cells nilF.toArray 35) := ⟨_, rfl⟩
        have bf := Bl.new wc nilF 35
        have hbn : Below wc.heap.size wc (wc.alloc (.cells nilF.toArray 35)) := (Below.refl _ wc).alloc (Nat.le_refl _) _
        obtain ⟨gf, hgf⟩ : ∃ g, g = wc.heap.size := ⟨_, rfl⟩
        rw [← hwz74] at bf hbn
        rw [← hwz74]
        rw [← hgf] at bf
        rw [← hgf]
        have hgw : w.heap.size ≤ gf := by rw [hgf]; exact hb.size
        have hg1 : w1.heap.size ≤ gf := by rw [hgf]; exact hB
        have hgg : gf ≠ g := by have := rr.lt; omega
        have hgq : Off gf (m.length * 2) A := qq.off (by omega)
        have hgv : qv ≠ gf := by have := cq.lt; omega
        have hgk : w.heap.size ≠ gf := by have := b.lt; omega
        clear hwz74 hgf
        replace b := b.next hbn
        replace hb := next hb hbn
        replace rr := (rr.next hbn).up hbn.size
        replace qq := qq.next hB hbn
        replace hB := Nat.le_trans hB hbn.size
        replace cq := cq.next hbn
        clear hbn
        replace hS := HSI.out _ b
        refine hK.out _ _ hS (fun _ => ?_)
        clear hK K
        refine wpAnyH_ready (rs := [2]) (by kernel_rfl) (by simp) (AllReadyH.cons rfl (fun K hK => ?_) AllReadyH.nil)
        simp only [List.getElem_toArray, List.getElem_cons_succ, List.getElem_cons_zero, Act.put, List.setIfInBounds_toArray, List.set_cons_zero, List.set_cons_succ]
        go_simp
        refine (own_any l0 wz74 wz74.heap.size A0 n0 c0 (i0.nx hb).sl i0.none_ (by omega) (Nat.le_refl _)).mono ?_
        rintro e wax75 ⟨X0, d0, rfl, x0⟩
        have hbn := x0.below
        have y0 := x0.bys
        clear x0
        replace b := b.next hbn
        replace hb := next hb hbn
        replace rr := (rr.next hbn).up hbn.size
        replace qq := qq.next hB hbn
        replace hB := Nat.le_trans hB hbn.size
        replace cq := cq.next hbn
        replace bf := bf.next hbn
        clear hbn
        replace hS := HSI.out _ b
        refine hK.out _ _ hS (fun _ => ?_)
        clear hK K
        refine wpAnyH_ready (rs := [5]) (by kernel_rfl) (by simp) (AllReadyH.cons rfl (fun K hK => ?_) AllReadyH.nil)
        simp only [List.getElem_toArray, List.getElem_cons_succ, List.getElem_cons_zero, Act.put, List.setIfInBounds_toArray, List.set_cons_zero, List.set_cons_succ]
        go_simp
        refine (own_any l1 wax75 wax75.heap.size A1 n1 c1 (i1.nx hb).sl i1.none_ (by omega) (Nat.le_refl _)).mono ?_
        rintro e wbx76 ⟨X1, d1, rfl, x1⟩
        have hbn := x1.below
        have y1 := x1.bys
        clear x1
        replace b := b.next hbn
        replace hb := next hb hbn
        replace rr := (rr.next hbn).up hbn.size
        replace qq := qq.next hB hbn
        replace hB := Nat.le_trans hB hbn.size
        replace cq := cq.next hbn
        replace bf := bf.next hbn
        replace y0 := y0.nx hbn
        clear hbn
        replace hS := HSI.out _ b
        refine hK.out _ _ hS (fun _ => ?_)
        clear hK K
        refine wpAnyH_ready (rs := [11]) (by kernel_rfl) (by simp) (AllReadyH.cons rfl (fun K hK => ?_) AllReadyH.nil)
        simp only [List.getElem_toArray, List.getElem_cons_succ, List.getElem_cons_zero, Act.put, List.setIfInBounds_toArray, List.set_cons_zero, List.set_cons_succ]
        go_simp
        refine (make_any l0 l1 m X0 n0 d0 X1 n1 d1 r nu g wbx76 y0 y1 rr (by omega) (by omega) (HT.out.next hb)).mono ?_
        rw [HE.out, HF.out]
        rintro e wcx77 ⟨Af, nf, cf, Bf, mf, df, rfl, ff, hbn⟩
        replace b := b.next hbn
        replace hb := next hb hbn
        replace rr := (rr.next hbn).up hbn.size
        replace qq := qq.next hB hbn
        replace hB := Nat.le_trans hB hbn.size
        replace cq := cq.next hbn
        replace bf := bf.next hbn
        replace y0 := y0.nx hbn
        replace y1 := y1.nx hbn
        clear hbn
        replace hS := HSI.out _ b
        refine hK.out _ _ hS (fun _ => ?_)
        clear hK K
        refine wpAnyH_take (i := 12) (v := (.tuple #[.agg (fC Af nf cf nilV.r nilV.nu Bf mf df).toArray, .int .i64 1])) rfl (by kernel_rfl) (by kernel_rfl) (by kernel_rfl) (fun _ _ _ h => h) (Or.inl ⟨by rfl, fun _ hSw => by go_simp⟩) hS ?_
        simp only [List.getElem_toArray, List.getElem_cons_succ, List.getElem_cons_zero, Act.put, List.setIfInBounds_toArray, List.set_cons_zero, List.set_cons_succ]
        refine wpAnyH_take (i := 13) (v := (.agg (fC Af nf cf nilV.r nilV.nu Bf mf df).toArray)) rfl (by kernel_rfl) (by kernel_rfl) (by kernel_rfl) (fun _ _ _ h => h) (Or.inl ⟨by rfl, fun _ hSw => by go_simp⟩) hS ?_
        simp only [List.getElem_toArray, List.getElem_cons_succ, List.getElem_cons_zero, Act.put, List.setIfInBounds_toArray, List.set_cons_zero, List.set_cons_succ]
        refine wpAnyH_take (i := 14) (v := (.int .i64 1)) rfl (by kernel_rfl) (by kernel_rfl) (by kernel_rfl) (fun _ _ _ h => h) (Or.inl ⟨by rfl, fun _ hSw => by go_simp⟩) hS ?_
        simp only [List.getElem_toArray, List.getElem_cons_succ, List.getElem_cons_zero, Act.put, List.setIfInBounds_toArray, List.set_cons_zero, List.set_cons_succ]
        refine wpAnyH_ready (rs := [16]) (by kernel_rfl) (by simp) (AllReadyH.cons rfl (fun K hK => ?_) AllReadyH.nil)
        simp only [List.getElem_toArray, List.getElem_cons_succ, List.getElem_cons_zero, Act.put, List.setIfInBounds_toArray, List.set_cons_zero, List.set_cons_succ]
        rw [if_pos (by rfl)]
        refine wp_store_mid 35 _ _ rfl _ _ (fC Af nf cf nilV.r nilV.nu Bf mf df).toArray rfl rfl (bf.there_ (by simp [nilF, fC])) size_kf (all_oneCell_toArray (fC_one _ _ _ _ _ _ _ _)) ?_
        have hgb : wcx77.grownBy (wcx77.setCells gf 0 (fC Af nf cf nilV.r nilV.nu Bf mf df)) (some gf) := but_setCells (but_refl wcx77 _) 0 _
        have o1 := off_file bf ff.salt
        have o2 := off_file bf ff.box
        have bfile : Bl (wcx77.setCells gf 0 (fC Af nf cf nilV.r nilV.nu Bf mf df)) gf (fC Af nf cf nilV.r nilV.nu Bf mf df) 35 := bf.over rfl
        replace ff := ff.nb hgb o1 o2
        replace b := b.grown hgb (fun e => hgk (Option.some.inj e).symm)
        replace cq := cq.grown hgb (fun e => hgv (Option.some.inj e).symm)
        replace rr := (rr.other bf hgg hgb).up hgb.size
        replace qq := qq.row hgb hB hg1 hgq
        replace hb := below_setCells hb hgw 0 (fC Af nf cf nilV.r nilV.nu Bf mf df)
        replace hB := Nat.le_trans hB hgb.size
        obtain ⟨wf, hwf⟩ : ∃ W, W = wcx77.setCells gf 0 (fC Af nf cf nilV.r nilV.nu Bf mf df) := ⟨_, rfl⟩
        rw [← hwf] at b cq rr qq hb hB ff bfile
        rw [← hwf]
        clear hwf hgb o1 o2 bf
        replace hS := HSI.out _ b
        refine hK.out _ _ hS (fun _ => ?_)
        clear hK K
        simp only [List.getElem_toArray, List.getElem_cons_succ, List.getElem_cons_zero, Act.put, List.setIfInBounds_toArray, List.set_cons_zero, List.set_cons_succ]
        refine wpAnyH_take (i := 17) (v := (.int .i64 1)) rfl (by kernel_rfl) (by kernel_rfl) (by kernel_rfl) (fun _ _ _ h => h) (Or.inl ⟨by rfl, fun _ hSw => by go_simp⟩) hS ?_
        simp only [List.getElem_toArray, List.getElem_cons_succ, List.getElem_cons_zero, Act.put, List.setIfInBounds_toArray, List.set_cons_zero, List.set_cons_succ]
        refine wpAnyH_done (by kernel_rfl) ?_ _
        clear hS
        have wh5 := bfile.whole
        have mkD : True := trivial
        go_wp2_with (first
          | (refine wpList_load_want (by rfl) 35 _ rfl _ _ rfl (fC Af nf cf nilV.r nilV.nu Bf mf df) _ wh5 Tryz.underlying35 rfl size_kf ?_)
          | (refine wpList_build_to rfl 39 _ rfl nilF built_rf0 ?_)
          | (go_at_call 15; refine (same_any11 nilV.S nilV.X nilV.r nilV.nu Af nf cf Bf mf df none 0 0 none 0 0 wf ff (HFN.out wf)).mono ?_; rintro e w8 ⟨rfl, hb8⟩; replace hb := next hb hb8)
          | (go_at_call 10; refine (awake11_any w8 (HT.out.next hb)).mono ?_; rintro e w9 ⟨rfl, hb9⟩)
          | fail)
        go_ret
        exact ⟨rfl, next hb hb9⟩


end Go.Proofs.YtlnoopmblmkgkaaGreatDoor
