/- The walk of the law KeyfileOpens. -/
import Derived.Test.YtlnoopmblmkgkaaGreatDoorKefV
import Derived.Test.YtlnoopmblmkgkaaGreatDoorKefW
import Derived.Test.YtlnoopmblmkgkaaGreatDoorKefZ
import Derived.Test.YtlnoopmblmkgkaaGreatDoorKefU
import Derived.Test.YtlnoopmblmkgkaaGreatDoorKefY
import Derived.Test.YtlnoopmblmkgkaaGreatDoorKefN
import Derived.Test.YtlnoopmblmkgkaaGreatDoorKefJ
import Derived.Test.YtlnoopmblmkgkaaGreatDoorKefO
import Derived.OrdersHeld
namespace Go.Proofs.YtlnoopmblmkgkaaGreatDoor
set_option maxRecDepth 100000
open Go Go.RowKit
set_option linter.unusedVariables false
set_option linter.unusedSimpArgs false

theorem opM_len2 {pass S X : List UInt8} {r nu : Int} (h : opE pass S r nu X = 0) : 33 * (opM pass S r nu X).length ≤ X.length := by
  unfold opE at h
  split at h
  · split at h
    · rename_i hb
      have hl := opT_len hb
      revert h
      unfold opM
      generalize opT pass S r nu X = T at *
      rcases hq : ringOf T (T.length / 33) with _ | s
      · intro h; simp at h
      · intro _
        have h2 := (ringOf_rising (by omega) hq).2
        simp only [Option.getD_some]
        omega
    · simp at h
  · simp at h
theorem By.off_lt {w : World} {A : Option Addr} {n c : Nat} {l : List UInt8} (h : By w A n c l) {g : Nat} (hg : w.heap.size ≤ g) : Off g n A := by
  intro hn ad e he
  obtain ⟨ad', e', hb', _⟩ := h.sl.2 hn
  rw [e] at e'
  injection e' with e'
  subst e'
  omega

set_option maxRecDepth 100000 in
set_option maxHeartbeats 4000000 in
theorem keyfileOpens_walk (v : Value) (w : World) (hT : Tabs3 w) (s0 : KAskArg w v) :
    Calls Tryz.prog 4 #[v] w fun e w' => e = .returned (.bool true) ∧ Below w.heap.size w w' := by
  obtain ⟨A0, n0, c0, l0, A1, n1, c1, l1, r, nu, M, mn, mc, ms, A5, n5, c5, l5, x, y, rfl, ka⟩ := s0
  obtain ⟨W0, HW0, b0, hb0, hsz0⟩ := put_f w (kaC A0 n0 c0 A1 n1 c1 r nu M mn mc A5 n5 c5 x y) 26
  have wh0 := b0.whole
  have HT := Lib.hid hT
  have i0 := ka.pass.bys
  have i1 := ka.salt.bys
  have i5 := ka.other.bys
  have hn0 : n0 ≤ 140737488351232 := Nat.le_trans ka.pass.cap ka.pass.room
  have hn1 : n1 ≤ 140737488351232 := Nat.le_trans ka.salt.cap ka.salt.room
  obtain ⟨hx0, hx1⟩ := ka.at_
  obtain ⟨hy0, hy1⟩ := ka.by_
  obtain ⟨xn, rfl⟩ := Int.eq_ofNat_of_zero_le hx0
  obtain ⟨yb, hyb⟩ : ∃ b : UInt8, y = (b.toNat : Int) := ⟨UInt8.ofNat y.toNat, by rw [UInt8.toNat_ofNat_of_lt' (by simp [UInt8.size]; omega)]; omega⟩
  subst hyb
  clear hsz0 hT hx0 hy0 hy1
  go_enter Tryz.func4, Tryz.ntmps4
  go_wp2_with (first
    | (refine wpList_box_agg rfl 26 _ rfl (kaC A0 n0 c0 A1 n1 c1 r nu M mn mc A5 n5 c5 xn yb.toNat) rfl ?_; rw [HW0.out])
    | (refine wpList_load_mid rfl 26 _ rfl _ _ rfl (kaC A0 n0 c0 A1 n1 c1 r nu M mn mc A5 n5 c5 xn yb.toNat) _ wh0 Tryz.underlying26 rfl size_ka ?_)
    | fail)
  refine (kfew_any A0 n0 c0 A1 n1 c1 r nu M mn mc A5 n5 c5 xn yb.toNat W0).mono ?_
  rintro e w1 ⟨⟨bb, rfl, hfew⟩, hb1⟩
  have hbw1 := next hb0 hb1
  have b1 := b0.next hb1
  have wh1 := b1.whole
  clear wh0 b0 hb0 hb1
  cases bb with
  | false =>
    go_wp2_with fail
    refine (awake11_any w1 (HT.out.next hbw1)).mono ?_
    rintro e w2 ⟨rfl, hb2⟩
    go_wp2
    go_ret
    exact ⟨rfl, next hbw1 hb2⟩
  | true =>
    obtain ⟨k1, k2, k3, k4, k5⟩ := hfew rfl
    clear hfew
    go_wp2_with (first
      | (refine wpList_load_mid rfl 26 _ rfl _ _ rfl (kaC A0 n0 c0 A1 n1 c1 r nu M mn mc A5 n5 c5 xn yb.toNat) _ wh1 Tryz.underlying26 rfl size_ka ?_)
      | fail)
    refine (rings_any A0 n0 c0 A1 n1 c1 r nu M mn mc ms A5 n5 c5 xn yb.toNat w1 (ka.masters.nx hbw1) k5).mono ?_
    rintro e w2 ⟨g, A, n, c, m, rfl, r2, q2, hmn, hwg, hb2⟩
    have OK := Lib.hid r2.2.1
    have hbw2 := next hbw1 hb2
    have b2 := b1.next hb2
    have hbn : Below w2.heap.size w2 (w2.alloc (.cells #[.slice A n c] 30)) := (Below.refl _ w2).alloc (Nat.le_refl _) _
    have cq := Bl.newA w2 #[.slice A n c] 30
    obtain ⟨qv, hqv⟩ : ∃ g, g = w2.heap.size := ⟨_, rfl⟩
    rw [← hqv] at cq
    have HQV : Hid (w2.heap.size = qv) := hqv.symm
    obtain ⟨w3, hw3⟩ : ∃ W, W = w2.alloc (.cells #[.slice A n c] 30) := ⟨_, rfl⟩
    rw [← hw3] at cq hbn
    have HW3 := Lib.hid hw3
    have q3 := (q2.next hb2.size hbn).lift (Nat.le_trans hb2.size hbn.size)
    have b3 := b2.next hbn
    have hbw3 := next hbw2 hbn
    have a0 : w3.cell? ⟨w.heap.size, 0, none⟩ = some (.slice A0 n0 c0) := b3.cell 0
    have a1 : w3.cell? ⟨w.heap.size, 1, none⟩ = some (.slice A1 n1 c1) := b3.cell 1
    have a2 : w3.cell? ⟨w.heap.size, 2, none⟩ = some (.int .i64 r) := b3.cell 2
    have a3 : w3.cell? ⟨w.heap.size, 3, none⟩ = some (.int .i64 nu) := b3.cell 3
    have a4 : w3.cell? ⟨qv, 0, none⟩ = some (.slice A n c) := cq.cell 0
    rw [hw3] at a0 a1 a2 a3 a4
    rw [hqv] at a4
    clear hw3 hbn hbw2 b2 r2 q2 hb2 wh1 b1 hwg hbw1
    go_wp2_with fail
    rw [HQV.out]
    try rw [← HW3.out]
    clear hqv HQV HW3
    have y0 := i0.nx hbw3
    have y1 := i1.nx hbw3
    obtain ⟨E, hE⟩ : ∃ E, E = mkE l1 r nu m := ⟨_, rfl⟩
    obtain ⟨F, hF⟩ : ∃ F, F = mkF l0 l1 r nu m := ⟨_, rfl⟩
    have HE : Hid (mkE l1 r nu m = E) := hE.symm
    have HF : Hid (mkF l0 l1 r nu m = F) := hF.symm
    by_cases hE0 : E = 0
    · obtain ⟨Bx, hBx⟩ : ∃ b, b = mkB l0 l1 r nu m := ⟨_, rfl⟩
      have hFv : F = ⟨l1, r, nu, Bx⟩ := by rw [hF, hBx]; unfold mkF; rw [if_pos (by rw [← hE]; exact hE0)]
      have hBl : Bx.length = 33 * m.length + 16 := by rw [hBx, mkB_len, textR_len OK.out]
      have HBL : Hid (16 ≤ Bx.length ∧ Bx.length ≤ 400) := by unfold Hid; omega
      clear hBx hE hF hBl
      subst hFv
      subst hE0
      go_wp2_with fail
      refine (rmake_any11 l0 l1 m OK.out A0 n0 c0 A1 n1 c1 r nu A n c w3 y0 y1 q3 (by omega) (by omega)).mono ?_
      rw [HE.out, HF.out]
      rintro e w4 ⟨Af, nf, cf, Bf, mf, df, rfl, ff, hbn⟩
      have hb := next hbw3 hbn
      have b4 := b3.next hbn
      clear hbn b3 hbw3 a0 a1 a2 a3 a4 y0 y1 q3 cq HE HF OK
      have OG := Lib.hid (ff.salt.off_lt (Nat.le_refl _))
      obtain ⟨bm, hbn, hz7⟩ := put_new w4 nilF (fC Af nf cf r nu Bf mf df) 39 rfl
      obtain ⟨W7, hW7⟩ : ∃ W, W = (w4.alloc (.cells nilF.toArray 39)).setCells w4.heap.size 0 (fC Af nf cf r nu Bf mf df) := ⟨_, rfl⟩
      rw [← hW7] at bm hbn hz7
      have HW7 := Lib.hid hW7
      clear hW7
      obtain ⟨gm, hgm⟩ : ∃ g, g = w4.heap.size := ⟨_, rfl⟩
      have HGM : Hid (w4.heap.size = gm) := hgm.symm
      rw [← hgm] at bm
      have hz8 : gm < W7.heap.size := by omega
      have OG2 : Hid (Off gm nf Af) := by unfold Hid; rw [hgm]; exact OG.out
      have hgk : w.heap.size < gm := by rw [hgm]; exact b4.lt
      have c3 : W7.cell? ⟨gm, 3, none⟩ = some (.slice Bf mf df) := bm.cell 3
      clear hz7 hgm
      have mk4 : True := trivial
      go_wp2_with (first
        | (have := mk4; refine wpList_alloc_zero rfl 39 rfl nilF zero_rf ?_)
        | (have := mk4; refine wpList_store_mid rfl 39 _ _ rfl _ _ (fC Af nf cf r nu Bf mf df).toArray rfl rfl (Bl.there_ (Bl.new w4 nilF 39) (by simp [nilF, fC])) size_rf (all_oneCell_toArray (fC_one _ _ _ _ _ _ _ _)) ?_; change wpList _ _ _ _ _ (World.setCells (w4.alloc (.cells nilF.toArray 39)) w4.heap.size 0 (fC Af nf cf r nu Bf mf df)); rw [← HW7.out, HGM.out]; clear mk4)
        | fail)
      replace ff := ff.nx hbn
      replace hb := next hb hbn
      have b := b4.next hbn
      clear hbn b4 c3 HW7 OG HGM
      have HMF := Lib.hid ff.box.len
      have hmf : 16 ≤ mf ∧ mf ≤ 400 := by rw [ff.box.len]; exact HBL.out
      obtain ⟨hmf1, hmf2⟩ := hmf
      have ys := ff.salt
      refine (own_any Bx W7 W7.heap.size Bf mf df ff.box.sl ff.box.none_ (by omega) (Nat.le_refl _)).mono ?_
      rintro e w8 ⟨X, dX, rfl, x8⟩
      have hbn := x8.below
      have own8 := x8.own
      obtain ⟨gx, cl, hAe, hgx, hgl⟩ := own8.form (by omega)
      injection hAe with hA1 _ hA3
      subst hA1
      subst hA3
      have hgmx : gm < gx := by omega
      replace bm := bm.next hbn
      replace b := b.next hbn
      replace ys := ys.nx hbn
      have OGX : Hid (Off gx nf Af) := ff.salt.off_lt hgx
      replace hb := next hb hbn
      clear hbn x8 ff hz8 hgx
      have c3 : w8.cell? ⟨gm, 3, none⟩ = some (.slice Bf mf df) := bm.cell 3
      have f3 := bm.frozen 3
      go_wp2_with fail
      clear c3 f3
      have hgb : w8.grownBy (w8.setCell ⟨gm, 3, none⟩ (.slice (some ⟨gx, 0, none⟩) mf dX)) (some gm) := but_setCell (but_refl w8 _) 3 _
      replace bm : Bl (w8.setCell ⟨gm, 3, none⟩ (.slice (some ⟨gx, 0, none⟩) mf dX)) gm (fC Af nf cf r nu (some ⟨gx, 0, none⟩) mf dX) 39 := bm.set 3 _
      replace own8 := own_keep own8 (w' := w8.setCell ⟨gm, 3, none⟩ (.slice (some ⟨gx, 0, none⟩) mf dX)) (fun g' hg' => heap_setCell_other _ _ _ _ (by have h : some gx = some g' := hg'; injection h with h; simp; omega))
      replace ys := ys.nb hgb OG2.out
      replace b := b.grown hgb (fun e => by have := Option.some.inj e; omega)
      replace hb := hb.setCell (p := ⟨gm, 3, none⟩) (by simp; omega) (.slice (some ⟨gx, 0, none⟩) mf dX)
      obtain ⟨W9, hW9⟩ : ∃ W, W = w8.setCell ⟨gm, 3, none⟩ (.slice (some ⟨gx, 0, none⟩) mf dX) := ⟨_, rfl⟩
      rw [← hW9] at bm own8 ys b hb
      rw [← hW9]
      clear hW9 hgb OG2
      obtain ⟨j, hj⟩ : ∃ j, j = xn % mf := ⟨_, rfl⟩
      have hjl : j < mf := by rw [hj]; exact Nat.mod_lt _ (by omega)
      have ej : (xn : Int) % (mf : Int) = (j : Int) := by rw [hj]; simp
      have ej2 : (xn : Int).tmod (mf : Int) = (j : Int) := by rw [Int.tmod_eq_emod_of_nonneg (by omega)]; exact ej
      have hjB : j < Bx.length := by rw [← HMF.out]; exact hjl
      obtain ⟨q, hq⟩ : ∃ q, q = Bx[j] := ⟨_, rfl⟩
      obtain ⟨z, hz⟩ : ∃ z, z = q ^^^ yb := ⟨_, rfl⟩
      have ez : bits BinOp.xor IntKind.u8 (q.toNat : Int) (yb.toNat : Int) = (z.toNat : Int) := by rw [hz]; exact byte_xor2 q yb
      have cx : W9.cell? ⟨gx, j, none⟩ = some (.int .u8 (q.toNat : Int)) := by rw [own8.cellAt j (by omega), cb_at hjB, hq]
      have fx := own8.frozenAt j
      have c3 : W9.cell? ⟨gm, 3, none⟩ = some (.slice (some ⟨gx, 0, none⟩) mf dX) := bm.cell 3
      have c6 : W9.cell? ⟨w.heap.size, 6, none⟩ = some (.int .u16 (xn : Int)) := b.cell 6
      have c7 : W9.cell? ⟨w.heap.size, 7, none⟩ = some (.int .u8 (yb.toNat : Int)) := b.cell 7
      have wx : IntKind.i64.wrap (xn : Int) = (xn : Int) := IntWalk.i64_in _ (by omega)
      have wj : IntKind.i64.wrap (j : Int) = (j : Int) := IntWalk.i64_in _ (by omega)
      have j0 : (0 : Int) ≤ (j : Int) := by omega
      have j1 : (j : Int) < (mf : Int) := by omega
      have mn0 : ¬ (mf : Int) = 0 := by omega
      have mn1 : ¬ mf = 0 := by omega
      clear hj hq hz hjB
      go_wp2
      go_still_tail 15, (by kernel_rfl)
      go_wp2_with fail
      clear cx fx c3 c6 c7 ez wx wj ej ej2
      obtain ⟨Xb, hXb⟩ : ∃ l, l = Bx.set j z := ⟨_, rfl⟩
      have own10 := (own8.stored j (bc z)).1
      rw [← cb_set, ← hXb] at own10
      have yx : By (W9.setCell ⟨gx, j, none⟩ (.int .u8 (z.toNat : Int))) (some ⟨gx, 0, none⟩) mf dX Xb := ⟨Sl.own own10, by rw [hXb, List.length_set]; exact HMF.out, own_cap own8, fun h => by cases h⟩
      replace ys := ys.nb (but_setCell (but_refl W9 _) j (.int .u8 (z.toNat : Int))) OGX.out
      replace bm := bm.set_other ⟨gx, j, none⟩ (.int .u8 (z.toNat : Int)) (by simp; omega)
      replace b := b.set_other ⟨gx, j, none⟩ (.int .u8 (z.toNat : Int)) (by simp; omega)
      replace hb := hb.setCell (p := ⟨gx, j, none⟩) (by simp; omega) (.int .u8 (z.toNat : Int))
      obtain ⟨V9, hV9⟩ : ∃ W, W = W9.setCell ⟨gx, j, none⟩ (.int .u8 (z.toNat : Int)) := ⟨_, rfl⟩
      rw [← hV9] at yx ys bm b hb
      rw [← hV9]
      clear hV9 hXb own8 own10
      have HBX := Lib.hid yx.len
      obtain ⟨W10, hW10⟩ : ∃ W, W = V9.drew := ⟨_, rfl⟩
      have hbn : Below V9.heap.size V9 W10 := by rw [hW10]; exact (Below.refl _ V9).drew
      rw [← hW10]
      clear hW10
      replace b := b.next hbn
      replace bm := bm.next hbn
      replace ys := ys.nx hbn
      replace yx := yx.nx hbn
      replace hb := next hb hbn
      clear hbn
      obtain ⟨w10, hw10⟩ : ∃ W', W' = W10.drew := ⟨_, rfl⟩
      have hbn : Below W10.heap.size W10 w10 := by rw [hw10]; exact (Below.refl _ W10).drew
      replace b := b.next hbn
      replace bm := bm.next hbn
      replace ys := ys.nx hbn
      replace yx := yx.nx hbn
      replace hb := next hb hbn
      clear hbn
      obtain ⟨S9, hS9d⟩ : ∃ S : World → Prop, S = fun w' => Bl w' gm (fC Af nf cf r nu (some ⟨gx, 0, none⟩) mf dX) 39 := ⟨_, rfl⟩
      have H9I : Hid (∀ w', Bl w' gm (fC Af nf cf r nu (some ⟨gx, 0, none⟩) mf dX) 39 → S9 w') := by unfold Hid; intro w' h; rw [hS9d]; exact h
      have H90 : Hid (∀ w', S9 w' → w'.cell? ⟨gm, 0, none⟩ = some (.slice Af nf cf)) := by unfold Hid; intro w' h; rw [hS9d] at h; exact h.cell 0
      have H91 : Hid (∀ w', S9 w' → w'.cell? ⟨gm, 1, none⟩ = some (.int .i64 r)) := by unfold Hid; intro w' h; rw [hS9d] at h; exact h.cell 1
      have H92 : Hid (∀ w', S9 w' → w'.cell? ⟨gm, 2, none⟩ = some (.int .i64 nu)) := by unfold Hid; intro w' h; rw [hS9d] at h; exact h.cell 2
      have H93 : Hid (∀ w', S9 w' → w'.cell? ⟨gm, 3, none⟩ = some (.slice (some ⟨gx, 0, none⟩) mf dX)) := by unfold Hid; intro w' h; rw [hS9d] at h; exact h.cell 3
      have hS := H9I.out _ bm
      clear hS9d
      refine wp_region_held_drew (S := S9) (by kernel_rfl) (by rw [← hw10]; exact hS) (fun _ => ?_)
      rw [← hw10]
      clear hw10
      obtain ⟨E, hE⟩ : ∃ E, E = opE l5 l1 r nu Xb := ⟨_, rfl⟩
      obtain ⟨M2, hM2⟩ : ∃ M, M = opM l5 l1 r nu Xb := ⟨_, rfl⟩
      have HOE : Hid (opE l5 l1 r nu Xb = E) := hE.symm
      have HOM : Hid (opM l5 l1 r nu Xb = M2) := hM2.symm
      have HML : Hid (E = 0 → M2.length ≤ 1000) := by unfold Hid; intro h; rw [hM2]; have := opM_len2 (hE.symm.trans h); have := HBX.out; omega
      have hnf : nf ≤ 140737488351232 := by rw [ys.len, ← i1.len]; exact hn1
      clear hE hM2
      refine wpAnyH_take (i := 0) (v := (.pointer (some ⟨gm, 0, none⟩))) rfl (by kernel_rfl) (by kernel_rfl) (by kernel_rfl) (fun _ _ _ h => h) (Or.inl ⟨by rfl, fun _ hSw => by go_simp⟩) hS ?_
      simp only [List.getElem_toArray, List.getElem_cons_succ, List.getElem_cons_zero, Act.put, List.setIfInBounds_toArray, List.set_cons_zero, List.set_cons_succ]
      refine wpAnyH_take (i := 1) (v := (.slice Af nf cf)) rfl (by kernel_rfl) (by kernel_rfl) (by kernel_rfl) (fun _ _ _ h => h) (Or.inl ⟨by rfl, fun w' hSw => by have hq := H90.out w' hSw; go_simp⟩) hS ?_
      simp only [List.getElem_toArray, List.getElem_cons_succ, List.getElem_cons_zero, Act.put, List.setIfInBounds_toArray, List.set_cons_zero, List.set_cons_succ]
      refine wpAnyH_take (i := 2) (v := (.pointer (some ⟨gm, 1, none⟩))) rfl (by kernel_rfl) (by kernel_rfl) (by kernel_rfl) (fun _ _ _ h => h) (Or.inl ⟨by rfl, fun _ hSw => by go_simp⟩) hS ?_
      simp only [List.getElem_toArray, List.getElem_cons_succ, List.getElem_cons_zero, Act.put, List.setIfInBounds_toArray, List.set_cons_zero, List.set_cons_succ]
      refine wpAnyH_take (i := 3) (v := (.int .i64 r)) rfl (by kernel_rfl) (by kernel_rfl) (by kernel_rfl) (fun _ _ _ h => h) (Or.inl ⟨by rfl, fun w' hSw => by have hq := H91.out w' hSw; go_simp⟩) hS ?_
      simp only [List.getElem_toArray, List.getElem_cons_succ, List.getElem_cons_zero, Act.put, List.setIfInBounds_toArray, List.set_cons_zero, List.set_cons_succ]
      refine wpAnyH_take (i := 4) (v := (.pointer (some ⟨gm, 2, none⟩))) rfl (by kernel_rfl) (by kernel_rfl) (by kernel_rfl) (fun _ _ _ h => h) (Or.inl ⟨by rfl, fun _ hSw => by go_simp⟩) hS ?_
      simp only [List.getElem_toArray, List.getElem_cons_succ, List.getElem_cons_zero, Act.put, List.setIfInBounds_toArray, List.set_cons_zero, List.set_cons_succ]
      refine wpAnyH_take (i := 5) (v := (.int .i64 nu)) rfl (by kernel_rfl) (by kernel_rfl) (by kernel_rfl) (fun _ _ _ h => h) (Or.inl ⟨by rfl, fun w' hSw => by have hq := H92.out w' hSw; go_simp⟩) hS ?_
      simp only [List.getElem_toArray, List.getElem_cons_succ, List.getElem_cons_zero, Act.put, List.setIfInBounds_toArray, List.set_cons_zero, List.set_cons_succ]
      refine wpAnyH_take (i := 6) (v := (.pointer (some ⟨gm, 3, none⟩))) rfl (by kernel_rfl) (by kernel_rfl) (by kernel_rfl) (fun _ _ _ h => h) (Or.inl ⟨by rfl, fun _ hSw => by go_simp⟩) hS ?_
      simp only [List.getElem_toArray, List.getElem_cons_succ, List.getElem_cons_zero, Act.put, List.setIfInBounds_toArray, List.set_cons_zero, List.set_cons_succ]
      refine wpAnyH_take (i := 7) (v := (.slice (some ⟨gx, 0, none⟩) mf dX)) rfl (by kernel_rfl) (by kernel_rfl) (by kernel_rfl) (fun _ _ _ h => h) (Or.inl ⟨by rfl, fun w' hSw => by have hq := H93.out w' hSw; go_simp⟩) hS ?_
      simp only [List.getElem_toArray, List.getElem_cons_succ, List.getElem_cons_zero, Act.put, List.setIfInBounds_toArray, List.set_cons_zero, List.set_cons_succ]
      refine wpAnyH_ready (rs := [8, 10]) (by kernel_rfl) (by simp) (AllReadyH.cons rfl (fun K hK => ?_) (AllReadyH.cons rfl (fun K hK => ?_) AllReadyH.nil))
      · simp only [List.getElem_toArray, List.getElem_cons_succ, List.getElem_cons_zero, Act.put, List.setIfInBounds_toArray, List.set_cons_zero, List.set_cons_succ]
        go_simp
        refine (own_any Xb w10 w10.heap.size (some ⟨gx, 0, none⟩) mf dX yx.sl yx.none_ (by omega) (Nat.le_refl _)).mono ?_
        rintro e w11 ⟨Y, dY, rfl, x9⟩
        have hbn := x9.below
        have y9 := x9.bys
        clear x9
        replace b := b.next hbn
        replace bm := bm.next hbn
        replace ys := ys.nx hbn
        replace yx := yx.nx hbn
        replace hb := next hb hbn
        clear hbn
        replace hS := H9I.out _ bm
        refine hK.out _ _ hS (fun _ => ?_)
        clear hK K
        refine wpAnyH_take (i := 9) (v := .agg (fC Af nf cf r nu Y mf dY).toArray) rfl (by kernel_rfl) (by kernel_rfl) (by kernel_rfl) (fun _ _ _ h => h) (Or.inl ⟨by rfl, fun w' _ => exec_build 35 #[(0, .tmp 57), (1, .tmp 59), (2, .tmp 61), (3, .tmp 64)] rfl (fC Af nf cf r nu Y mf dY) (built_kf Af nf cf r nu Y mf dY) w'⟩) hS ?_
        simp only [List.getElem_toArray, List.getElem_cons_succ, List.getElem_cons_zero, Act.put, List.setIfInBounds_toArray, List.set_cons_zero, List.set_cons_succ]
        refine wpAnyH_ready (rs := [10]) (by kernel_rfl) (by simp) (AllReadyH.cons rfl (fun K hK => ?_) AllReadyH.nil)
        simp only [List.getElem_toArray, List.getElem_cons_succ, List.getElem_cons_zero, Act.put, List.setIfInBounds_toArray, List.set_cons_zero, List.set_cons_succ]
        rw [if_pos (by rfl)]
        refine wp_alloc_zero 35 rfl nilF zero_kf ?_
        obtain ⟨w12, hwz⟩ : ∃ W, W = w11.alloc (.cells nilF.toArray 35) := ⟨_, rfl⟩
        have bf := Bl.new w11 nilF 35
        have hbn : Below w11.heap.size w11 (w11.alloc (.cells nilF.toArray 35)) := (Below.refl _ w11).alloc (Nat.le_refl _) _
        obtain ⟨gf, hgf⟩ : ∃ g, g = w11.heap.size := ⟨_, rfl⟩
        rw [← hwz] at bf hbn
        rw [← hwz]
        rw [← hgf] at bf
        rw [← hgf]
        have hgw : w.heap.size ≤ gf := by rw [hgf]; exact hb.size
        have hgm2 : gm < gf := by rw [hgf]; exact bm.lt
        have hgk2 : w.heap.size < gf := by rw [hgf]; exact b.lt
        clear hwz hgf
        replace b := b.next hbn
        replace bm := bm.next hbn
        replace ys := ys.nx hbn
        replace yx := yx.nx hbn
        replace hb := next hb hbn
        replace y9 := y9.nx hbn
        clear hbn
        replace hS := H9I.out _ bm
        refine hK.out _ _ hS (fun _ => ?_)
        clear hK K
        refine wpAnyH_ready (rs := [11]) (by kernel_rfl) (by simp) (AllReadyH.cons rfl (fun K hK => ?_) AllReadyH.nil)
        simp only [List.getElem_toArray, List.getElem_cons_succ, List.getElem_cons_zero, Act.put, List.setIfInBounds_toArray, List.set_cons_zero, List.set_cons_succ]
        rw [if_pos (by rfl)]
        refine wp_store_mid 35 _ _ rfl _ _ (fC Af nf cf r nu Y mf dY).toArray rfl rfl (bf.there_ (by simp [nilF, fC])) size_kf (all_oneCell_toArray (fC_one _ _ _ _ _ _ _ _)) ?_
        have hgb : w12.grownBy (w12.setCells gf 0 (fC Af nf cf r nu Y mf dY)) (some gf) := but_setCells (but_refl w12 _) 0 _
        have o1 := off_file bf ys
        have o2 := off_file bf yx
        have o3 := off_file bf y9
        have bfile : Bl (w12.setCells gf 0 (fC Af nf cf r nu Y mf dY)) gf (fC Af nf cf r nu Y mf dY) 35 := bf.over rfl
        replace ys := ys.nb hgb o1
        replace yx := yx.nb hgb o2
        replace y9 := y9.nb hgb o3
        replace b := b.grown hgb (fun e => by have := Option.some.inj e; omega)
        replace bm := bm.grown hgb (fun e => by have := Option.some.inj e; omega)
        replace hb := below_setCells hb hgw 0 (fC Af nf cf r nu Y mf dY)
        obtain ⟨wf, hwf⟩ : ∃ W, W = w12.setCells gf 0 (fC Af nf cf r nu Y mf dY) := ⟨_, rfl⟩
        rw [← hwf] at ys yx y9 b bm hb bfile
        rw [← hwf]
        clear hwf hgb o1 o2 o3 bf
        replace hS := H9I.out _ bm
        refine hK.out _ _ hS (fun _ => ?_)
        clear hK K
        simp only [List.getElem_toArray, List.getElem_cons_succ, List.getElem_cons_zero, Act.put, List.setIfInBounds_toArray, List.set_cons_zero, List.set_cons_succ]
        refine wpAnyH_done (by kernel_rfl) ?_ _
        clear hS H9I H90 H91 H92 H93
        go_wp2_with fail
        obtain ⟨S7, hS7d⟩ : ∃ S : World → Prop, S = fun w' => Bl w' w.heap.size (kaC A0 n0 c0 A1 n1 c1 r nu M mn mc A5 n5 c5 xn yb.toNat) 26 ∧ Bl w' gf (fC Af nf cf r nu Y mf dY) 35 := ⟨_, rfl⟩
        have H7I : Hid (∀ w', Bl w' w.heap.size (kaC A0 n0 c0 A1 n1 c1 r nu M mn mc A5 n5 c5 xn yb.toNat) 26 → Bl w' gf (fC Af nf cf r nu Y mf dY) 35 → S7 w') := by unfold Hid; intro w' h h'; rw [hS7d]; exact ⟨h, h'⟩
        have H75 : Hid (∀ w', S7 w' → w'.cell? ⟨w.heap.size, 5, none⟩ = some (.slice A5 n5 c5)) := by unfold Hid; intro w' h; rw [hS7d] at h; exact h.1.cell 5
        have H7W : Hid (∀ w', S7 w' → ∀ j v, (fC Af nf cf r nu Y mf dY)[j]? = some v → w'.cell? ((⟨gf, 0, none⟩ : Addr).add j) = some v) := by unfold Hid; intro w' h j v hv; rw [hS7d] at h; rw [Addr.add_mid]; exact h.2.whole j v hv
        clear hS7d
        obtain ⟨w17, hw17⟩ : ∃ W', W' = wf.drew := ⟨_, rfl⟩
        have hbn : Below wf.heap.size wf w17 := by rw [hw17]; exact (Below.refl _ wf).drew
        replace b := b.next hbn
        replace bm := bm.next hbn
        replace ys := ys.nx hbn
        replace yx := yx.nx hbn
        replace hb := next hb hbn
        replace bfile := bfile.next hbn
        replace y9 := y9.nx hbn
        clear hbn
        have hS := H7I.out _ b bfile
        refine wp_region_held_drew (S := S7) (by kernel_rfl) (by rw [← hw17]; exact hS) (fun _ => ?_)
        rw [← hw17]
        clear hw17
        refine wpAnyH_take (i := 0) (v := .agg (fC Af nf cf r nu Y mf dY).toArray) rfl (by kernel_rfl) (by kernel_rfl) (by kernel_rfl) (fun _ _ _ h => h) (Or.inl ⟨by rfl, fun w' hSw => exec_load_at w' 35 _ rfl ⟨gf, 0, none⟩ rfl (fC Af nf cf r nu Y mf dY) _ (H7W.out w' hSw) Tryz.underlying35 rfl size_kf⟩) hS ?_
        simp only [List.getElem_toArray, List.getElem_cons_succ, List.getElem_cons_zero, Act.put, List.setIfInBounds_toArray, List.set_cons_zero, List.set_cons_succ]
        refine wpAnyH_take (i := 1) (v := (.pointer (some ⟨w.heap.size, 5, none⟩))) rfl (by kernel_rfl) (by kernel_rfl) (by kernel_rfl) (fun _ _ _ h => h) (Or.inl ⟨by rfl, fun _ hSw => by go_simp⟩) hS ?_
        simp only [List.getElem_toArray, List.getElem_cons_succ, List.getElem_cons_zero, Act.put, List.setIfInBounds_toArray, List.set_cons_zero, List.set_cons_succ]
        refine wpAnyH_take (i := 2) (v := (.slice A5 n5 c5)) rfl (by kernel_rfl) (by kernel_rfl) (by kernel_rfl) (fun _ _ _ h => h) (Or.inl ⟨by rfl, fun w' hSw => by have hq := H75.out w' hSw; go_simp⟩) hS ?_
        simp only [List.getElem_toArray, List.getElem_cons_succ, List.getElem_cons_zero, Act.put, List.setIfInBounds_toArray, List.set_cons_zero, List.set_cons_succ]
        refine wpAnyH_ready (rs := [3]) (by kernel_rfl) (by simp) (AllReadyH.cons rfl (fun K hK => ?_) AllReadyH.nil)
        simp only [List.getElem_toArray, List.getElem_cons_succ, List.getElem_cons_zero, Act.put, List.setIfInBounds_toArray, List.set_cons_zero, List.set_cons_succ]
        go_simp
        refine (own_any l5 w17 w17.heap.size A5 n5 c5 (i5.nx hb).sl i5.none_ (by omega) (Nat.le_refl _)).mono ?_
        rintro e w18 ⟨X8, d8, rfl, x8⟩
        have hbn := x8.below
        have y8 := x8.bys
        clear x8
        replace b := b.next hbn
        replace bm := bm.next hbn
        replace ys := ys.nx hbn
        replace yx := yx.nx hbn
        replace hb := next hb hbn
        replace bfile := bfile.next hbn
        replace y9 := y9.nx hbn
        clear hbn
        replace hS := H7I.out _ b bfile
        refine hK.out _ _ hS (fun _ => ?_)
        clear hK K
        refine wpAnyH_ready (rs := [4]) (by kernel_rfl) (by simp) (AllReadyH.cons rfl (fun K hK => ?_) AllReadyH.nil)
        simp only [List.getElem_toArray, List.getElem_cons_succ, List.getElem_cons_zero, Act.put, List.setIfInBounds_toArray, List.set_cons_zero, List.set_cons_succ]
        go_simp
        refine (kopen_any l5 l1 Xb X8 n5 d8 Af nf cf r nu Y mf dY w18 y8 ⟨ys, y9⟩ (by omega) hnf (by omega) (HT.out.next hb)).mono ?_
        rw [HOE.out, HOM.out]
        rintro e w19 ⟨hbn, (⟨hE0, gk, rfl, rg, hgk9⟩ | ⟨hE0, rfl⟩)⟩
        · subst hE0
          replace b := b.next hbn
          replace bm := bm.next hbn
          replace ys := ys.nx hbn
          replace yx := yx.nx hbn
          replace hb := next hb hbn
          replace bfile := bfile.next hbn
          replace y9 := y9.nx hbn
          clear hbn
          replace hS := H7I.out _ b bfile
          refine hK.out _ _ hS (fun _ => ?_)
          clear hK K
          refine wpAnyH_take (i := 5) (v := (.tuple #[.pointer (some ⟨gk, 0, none⟩), .int .i64 0])) rfl (by kernel_rfl) (by kernel_rfl) (by kernel_rfl) (fun _ _ _ h => h) (Or.inl ⟨by rfl, fun _ hSw => by go_simp⟩) hS ?_
          simp only [List.getElem_toArray, List.getElem_cons_succ, List.getElem_cons_zero, Act.put, List.setIfInBounds_toArray, List.set_cons_zero, List.set_cons_succ]
          refine wpAnyH_take (i := 6) (v := (.pointer (some ⟨gk, 0, none⟩))) rfl (by kernel_rfl) (by kernel_rfl) (by kernel_rfl) (fun _ _ _ h => h) (Or.inl ⟨by rfl, fun _ hSw => by go_simp⟩) hS ?_
          simp only [List.getElem_toArray, List.getElem_cons_succ, List.getElem_cons_zero, Act.put, List.setIfInBounds_toArray, List.set_cons_zero, List.set_cons_succ]
          refine wpAnyH_take (i := 7) (v := (.int .i64 0)) rfl (by kernel_rfl) (by kernel_rfl) (by kernel_rfl) (fun _ _ _ h => h) (Or.inl ⟨by rfl, fun _ hSw => by go_simp⟩) hS ?_
          simp only [List.getElem_toArray, List.getElem_cons_succ, List.getElem_cons_zero, Act.put, List.setIfInBounds_toArray, List.set_cons_zero, List.set_cons_succ]
          refine wpAnyH_take (i := 8) (v := (.pointer (some ⟨gk, 0, none⟩))) rfl (by kernel_rfl) (by kernel_rfl) (by kernel_rfl) (fun _ _ _ h => h) (Or.inl ⟨by rfl, fun _ hSw => by go_simp⟩) hS ?_
          simp only [List.getElem_toArray, List.getElem_cons_succ, List.getElem_cons_zero, Act.put, List.setIfInBounds_toArray, List.set_cons_zero, List.set_cons_succ]
          refine wpAnyH_take (i := 9) (v := (.int .i64 0)) rfl (by kernel_rfl) (by kernel_rfl) (by kernel_rfl) (fun _ _ _ h => h) (Or.inl ⟨by rfl, fun _ hSw => by go_simp⟩) hS ?_
          simp only [List.getElem_toArray, List.getElem_cons_succ, List.getElem_cons_zero, Act.put, List.setIfInBounds_toArray, List.set_cons_zero, List.set_cons_succ]
          refine wpAnyH_done (by kernel_rfl) ?_ _
          clear hS H7I H75 H7W y8 bfile y9
          have whm := bm.whole
          have c5' : w19.cell? ⟨w.heap.size, 5, none⟩ = some (.slice A5 n5 c5) := b.cell 5
          go_wp2_with (first
            | (refine wpList_load_mid rfl 39 _ rfl _ _ rfl (fC Af nf cf r nu (some ⟨gx, 0, none⟩) mf dX) _ whm Tryz.underlying39 rfl size_rf ?_)
            | fail)
          clear whm c5'
          refine (ropen_any11 l5 l1 Xb A5 n5 c5 Af nf cf r nu (some ⟨gx, 0, none⟩) mf dX w19 (i5.nx hb) ⟨ys, yx⟩ (by omega) hnf (by omega)).mono ?_
          rw [HOE.out, HOM.out]
          rintro e w20 ⟨A6, n6, c6, rfl, hbn, hrr⟩
          have rr := hrr rfl
          obtain ⟨B5, hB5⟩ : ∃ b, b = w20.heap.size := ⟨_, rfl⟩
          rw [← hB5] at rr
          have hB : B5 ≤ w20.heap.size := Nat.le_of_eq hB5
          clear hB5
          clear hrr
          replace b := b.next hbn
          replace bm := bm.next hbn
          replace ys := ys.nx hbn
          replace yx := yx.nx hbn
          replace hb := next hb hbn
          replace rg := (rg.next hbn).up hbn.size
          clear hbn
          have hbn : Below w20.heap.size w20 (w20.alloc (.cells #[.slice A6 n6 c6] 30)) := (Below.refl _ w20).alloc (Nat.le_refl _) _
          have cq := Bl.newA w20 #[.slice A6 n6 c6] 30
          obtain ⟨qw, hqw⟩ : ∃ g, g = w20.heap.size := ⟨_, rfl⟩
          rw [← hqw] at cq
          have HQW : Hid (w20.heap.size = qw) := hqw.symm
          obtain ⟨w21, hw21⟩ : ∃ W, W = w20.alloc (.cells #[.slice A6 n6 c6] 30) := ⟨_, rfl⟩
          rw [← hw21] at cq hbn
          have HW21 := Lib.hid hw21
          replace b := b.next hbn
          replace bm := bm.next hbn
          replace ys := ys.nx hbn
          replace yx := yx.nx hbn
          replace hb := next hb hbn
          replace rg := (rg.next hbn).up hbn.size
          replace rr := rr.next hB hbn
          replace hB := Nat.le_trans hB hbn.size
          clear hbn
          have cqc : w21.cell? ⟨qw, 0, none⟩ = some (.slice A6 n6 c6) := cq.cell 0
          rw [hw21, hqw] at cqc
          have OK2 := Lib.hid rg.2.1
          have hML : M2.length ≤ 1000 := by simpa using HML.out
          clear hw21 hqw
          go_wp2_with fail
          try rw [HQW.out]
          try rw [← HW21.out]
          clear HQW HW21 cqc
          refine (alike_any gk B5 M2 M2 (fun _ => rfl) A6 n6 c6 w21 (HT.out.next hb) rg rr OK2.out hB hML hML).mono ?_
          rintro e w24 ⟨rfl, hbn⟩
          replace hb := next hb hbn
          clear hbn
          go_wp2_with fail
          refine (awake11_any w24 (HT.out.next hb)).mono ?_
          rintro e w25 ⟨rfl, hb25⟩
          go_wp2
          go_ret
          exact ⟨rfl, next hb hb25⟩
        · have hEn : ((E : Int) != 0) = true := by simp [bne, hE0]
          have hEe : (E != E) = false := by simp
          replace b := b.next hbn
          replace bm := bm.next hbn
          replace ys := ys.nx hbn
          replace yx := yx.nx hbn
          replace hb := next hb hbn
          replace bfile := bfile.next hbn
          replace y9 := y9.nx hbn
          clear hbn
          replace hS := H7I.out _ b bfile
          refine hK.out _ _ hS (fun _ => ?_)
          clear hK K
          refine wpAnyH_take (i := 5) (v := (.tuple #[.pointer none, .int .i64 E])) rfl (by kernel_rfl) (by kernel_rfl) (by kernel_rfl) (fun _ _ _ h => h) (Or.inl ⟨by rfl, fun _ hSw => by go_simp⟩) hS ?_
          simp only [List.getElem_toArray, List.getElem_cons_succ, List.getElem_cons_zero, Act.put, List.setIfInBounds_toArray, List.set_cons_zero, List.set_cons_succ]
          refine wpAnyH_take (i := 6) (v := (.pointer none)) rfl (by kernel_rfl) (by kernel_rfl) (by kernel_rfl) (fun _ _ _ h => h) (Or.inl ⟨by rfl, fun _ hSw => by go_simp⟩) hS ?_
          simp only [List.getElem_toArray, List.getElem_cons_succ, List.getElem_cons_zero, Act.put, List.setIfInBounds_toArray, List.set_cons_zero, List.set_cons_succ]
          refine wpAnyH_take (i := 7) (v := (.int .i64 E)) rfl (by kernel_rfl) (by kernel_rfl) (by kernel_rfl) (fun _ _ _ h => h) (Or.inl ⟨by rfl, fun _ hSw => by go_simp⟩) hS ?_
          simp only [List.getElem_toArray, List.getElem_cons_succ, List.getElem_cons_zero, Act.put, List.setIfInBounds_toArray, List.set_cons_zero, List.set_cons_succ]
          refine wpAnyH_take (i := 8) (v := (.pointer none)) rfl (by kernel_rfl) (by kernel_rfl) (by kernel_rfl) (fun _ _ _ h => h) (Or.inl ⟨by rfl, fun _ hSw => by go_simp⟩) hS ?_
          simp only [List.getElem_toArray, List.getElem_cons_succ, List.getElem_cons_zero, Act.put, List.setIfInBounds_toArray, List.set_cons_zero, List.set_cons_succ]
          refine wpAnyH_take (i := 9) (v := (.int .i64 E)) rfl (by kernel_rfl) (by kernel_rfl) (by kernel_rfl) (fun _ _ _ h => h) (Or.inl ⟨by rfl, fun _ hSw => by go_simp⟩) hS ?_
          simp only [List.getElem_toArray, List.getElem_cons_succ, List.getElem_cons_zero, Act.put, List.setIfInBounds_toArray, List.set_cons_zero, List.set_cons_succ]
          refine wpAnyH_done (by kernel_rfl) ?_ _
          clear hS H7I H75 H7W y8 bfile y9
          have whm := bm.whole
          have c5' : w19.cell? ⟨w.heap.size, 5, none⟩ = some (.slice A5 n5 c5) := b.cell 5
          go_wp2_with (first
            | (refine wpList_load_mid rfl 39 _ rfl _ _ rfl (fC Af nf cf r nu (some ⟨gx, 0, none⟩) mf dX) _ whm Tryz.underlying39 rfl size_rf ?_)
            | fail)
          clear whm c5'
          refine (ropen_any11 l5 l1 Xb A5 n5 c5 Af nf cf r nu (some ⟨gx, 0, none⟩) mf dX w19 (i5.nx hb) ⟨ys, yx⟩ (by omega) hnf (by omega)).mono ?_
          rw [HOE.out, HOM.out]
          rintro e w20 ⟨A6, n6, c6, rfl, hbn, hrr⟩
          clear hrr
          replace b := b.next hbn
          replace bm := bm.next hbn
          replace ys := ys.nx hbn
          replace yx := yx.nx hbn
          replace hb := next hb hbn
          clear hbn
          have hbn : Below w20.heap.size w20 (w20.alloc (.cells #[.slice A6 n6 c6] 30)) := (Below.refl _ w20).alloc (Nat.le_refl _) _
          have cq := Bl.newA w20 #[.slice A6 n6 c6] 30
          obtain ⟨qw, hqw⟩ : ∃ g, g = w20.heap.size := ⟨_, rfl⟩
          rw [← hqw] at cq
          have HQW : Hid (w20.heap.size = qw) := hqw.symm
          obtain ⟨w21, hw21⟩ : ∃ W, W = w20.alloc (.cells #[.slice A6 n6 c6] 30) := ⟨_, rfl⟩
          rw [← hw21] at cq hbn
          have HW21 := Lib.hid hw21
          replace b := b.next hbn
          replace bm := bm.next hbn
          replace ys := ys.nx hbn
          replace yx := yx.nx hbn
          replace hb := next hb hbn
          clear hbn
          clear hw21 hqw
          go_wp2_with fail
          try rw [HQW.out]
          try rw [← HW21.out]
          refine (awake11_any w21 (HT.out.next hb)).mono ?_
          rintro e w25 ⟨rfl, hb25⟩
          go_wp2
          go_ret
          exact ⟨rfl, next hb hb25⟩
      · simp only [List.getElem_toArray, List.getElem_cons_succ, List.getElem_cons_zero, Act.put, List.setIfInBounds_toArray, List.set_cons_zero, List.set_cons_succ]
        rw [if_pos (by rfl)]
        refine wp_alloc_zero 35 rfl nilF zero_kf ?_
        obtain ⟨w11, hwz⟩ : ∃ W, W = w10.alloc (.cells nilF.toArray 35) := ⟨_, rfl⟩
        have bf := Bl.new w10 nilF 35
        have hbn : Below w10.heap.size w10 (w10.alloc (.cells nilF.toArray 35)) := (Below.refl _ w10).alloc (Nat.le_refl _) _
        obtain ⟨gf, hgf⟩ : ∃ g, g = w10.heap.size := ⟨_, rfl⟩
        rw [← hwz] at bf hbn
        rw [← hwz]
        rw [← hgf] at bf
        rw [← hgf]
        have hgw : w.heap.size ≤ gf := by rw [hgf]; exact hb.size
        have hgm2 : gm < gf := by rw [hgf]; exact bm.lt
        have hgk2 : w.heap.size < gf := by rw [hgf]; exact b.lt
        clear hwz hgf
        replace b := b.next hbn
        replace bm := bm.next hbn
        replace ys := ys.nx hbn
        replace yx := yx.nx hbn
        replace hb := next hb hbn
        clear hbn
        replace hS := H9I.out _ bm
        refine hK.out _ _ hS (fun _ => ?_)
        clear hK K
        refine wpAnyH_ready (rs := [8]) (by kernel_rfl) (by simp) (AllReadyH.cons rfl (fun K hK => ?_) AllReadyH.nil)
        simp only [List.getElem_toArray, List.getElem_cons_succ, List.getElem_cons_zero, Act.put, List.setIfInBounds_toArray, List.set_cons_zero, List.set_cons_succ]
        go_simp
        refine (own_any Xb w11 w11.heap.size (some ⟨gx, 0, none⟩) mf dX yx.sl yx.none_ (by omega) (Nat.le_refl _)).mono ?_
        rintro e w12 ⟨Y, dY, rfl, x9⟩
        have hbn := x9.below
        have y9 := x9.bys
        clear x9
        replace b := b.next hbn
        replace bm := bm.next hbn
        replace ys := ys.nx hbn
        replace yx := yx.nx hbn
        replace hb := next hb hbn
        replace bf := bf.next hbn
        clear hbn
        replace hS := H9I.out _ bm
        refine hK.out _ _ hS (fun _ => ?_)
        clear hK K
        refine wpAnyH_take (i := 9) (v := .agg (fC Af nf cf r nu Y mf dY).toArray) rfl (by kernel_rfl) (by kernel_rfl) (by kernel_rfl) (fun _ _ _ h => h) (Or.inl ⟨by rfl, fun w' _ => exec_build 35 #[(0, .tmp 57), (1, .tmp 59), (2, .tmp 61), (3, .tmp 64)] rfl (fC Af nf cf r nu Y mf dY) (built_kf Af nf cf r nu Y mf dY) w'⟩) hS ?_
        simp only [List.getElem_toArray, List.getElem_cons_succ, List.getElem_cons_zero, Act.put, List.setIfInBounds_toArray, List.set_cons_zero, List.set_cons_succ]
        refine wpAnyH_ready (rs := [11]) (by kernel_rfl) (by simp) (AllReadyH.cons rfl (fun K hK => ?_) AllReadyH.nil)
        simp only [List.getElem_toArray, List.getElem_cons_succ, List.getElem_cons_zero, Act.put, List.setIfInBounds_toArray, List.set_cons_zero, List.set_cons_succ]
        rw [if_pos (by rfl)]
        refine wp_store_mid 35 _ _ rfl _ _ (fC Af nf cf r nu Y mf dY).toArray rfl rfl (bf.there_ (by simp [nilF, fC])) size_kf (all_oneCell_toArray (fC_one _ _ _ _ _ _ _ _)) ?_
        have hgb : w12.grownBy (w12.setCells gf 0 (fC Af nf cf r nu Y mf dY)) (some gf) := but_setCells (but_refl w12 _) 0 _
        have o1 := off_file bf ys
        have o2 := off_file bf yx
        have o3 := off_file bf y9
        have bfile : Bl (w12.setCells gf 0 (fC Af nf cf r nu Y mf dY)) gf (fC Af nf cf r nu Y mf dY) 35 := bf.over rfl
        replace ys := ys.nb hgb o1
        replace yx := yx.nb hgb o2
        replace y9 := y9.nb hgb o3
        replace b := b.grown hgb (fun e => by have := Option.some.inj e; omega)
        replace bm := bm.grown hgb (fun e => by have := Option.some.inj e; omega)
        replace hb := below_setCells hb hgw 0 (fC Af nf cf r nu Y mf dY)
        obtain ⟨wf, hwf⟩ : ∃ W, W = w12.setCells gf 0 (fC Af nf cf r nu Y mf dY) := ⟨_, rfl⟩
        rw [← hwf] at ys yx y9 b bm hb bfile
        rw [← hwf]
        clear hwf hgb o1 o2 o3 bf
        replace hS := H9I.out _ bm
        refine hK.out _ _ hS (fun _ => ?_)
        clear hK K
        simp only [List.getElem_toArray, List.getElem_cons_succ, List.getElem_cons_zero, Act.put, List.setIfInBounds_toArray, List.set_cons_zero, List.set_cons_succ]
        refine wpAnyH_done (by kernel_rfl) ?_ _
        clear hS H9I H90 H91 H92 H93
        go_wp2_with fail
        obtain ⟨S7, hS7d⟩ : ∃ S : World → Prop, S = fun w' => Bl w' w.heap.size (kaC A0 n0 c0 A1 n1 c1 r nu M mn mc A5 n5 c5 xn yb.toNat) 26 ∧ Bl w' gf (fC Af nf cf r nu Y mf dY) 35 := ⟨_, rfl⟩
        have H7I : Hid (∀ w', Bl w' w.heap.size (kaC A0 n0 c0 A1 n1 c1 r nu M mn mc A5 n5 c5 xn yb.toNat) 26 → Bl w' gf (fC Af nf cf r nu Y mf dY) 35 → S7 w') := by unfold Hid; intro w' h h'; rw [hS7d]; exact ⟨h, h'⟩
        have H75 : Hid (∀ w', S7 w' → w'.cell? ⟨w.heap.size, 5, none⟩ = some (.slice A5 n5 c5)) := by unfold Hid; intro w' h; rw [hS7d] at h; exact h.1.cell 5
        have H7W : Hid (∀ w', S7 w' → ∀ j v, (fC Af nf cf r nu Y mf dY)[j]? = some v → w'.cell? ((⟨gf, 0, none⟩ : Addr).add j) = some v) := by unfold Hid; intro w' h j v hv; rw [hS7d] at h; rw [Addr.add_mid]; exact h.2.whole j v hv
        clear hS7d
        obtain ⟨w17, hw17⟩ : ∃ W', W' = wf.drew := ⟨_, rfl⟩
        have hbn : Below wf.heap.size wf w17 := by rw [hw17]; exact (Below.refl _ wf).drew
        replace b := b.next hbn
        replace bm := bm.next hbn
        replace ys := ys.nx hbn
        replace yx := yx.nx hbn
        replace hb := next hb hbn
        replace bfile := bfile.next hbn
        replace y9 := y9.nx hbn
        clear hbn
        have hS := H7I.out _ b bfile
        refine wp_region_held_drew (S := S7) (by kernel_rfl) (by rw [← hw17]; exact hS) (fun _ => ?_)
        rw [← hw17]
        clear hw17
        refine wpAnyH_take (i := 0) (v := .agg (fC Af nf cf r nu Y mf dY).toArray) rfl (by kernel_rfl) (by kernel_rfl) (by kernel_rfl) (fun _ _ _ h => h) (Or.inl ⟨by rfl, fun w' hSw => exec_load_at w' 35 _ rfl ⟨gf, 0, none⟩ rfl (fC Af nf cf r nu Y mf dY) _ (H7W.out w' hSw) Tryz.underlying35 rfl size_kf⟩) hS ?_
        simp only [List.getElem_toArray, List.getElem_cons_succ, List.getElem_cons_zero, Act.put, List.setIfInBounds_toArray, List.set_cons_zero, List.set_cons_succ]
        refine wpAnyH_take (i := 1) (v := (.pointer (some ⟨w.heap.size, 5, none⟩))) rfl (by kernel_rfl) (by kernel_rfl) (by kernel_rfl) (fun _ _ _ h => h) (Or.inl ⟨by rfl, fun _ hSw => by go_simp⟩) hS ?_
        simp only [List.getElem_toArray, List.getElem_cons_succ, List.getElem_cons_zero, Act.put, List.setIfInBounds_toArray, List.set_cons_zero, List.set_cons_succ]
        refine wpAnyH_take (i := 2) (v := (.slice A5 n5 c5)) rfl (by kernel_rfl) (by kernel_rfl) (by kernel_rfl) (fun _ _ _ h => h) (Or.inl ⟨by rfl, fun w' hSw => by have hq := H75.out w' hSw; go_simp⟩) hS ?_
        simp only [List.getElem_toArray, List.getElem_cons_succ, List.getElem_cons_zero, Act.put, List.setIfInBounds_toArray, List.set_cons_zero, List.set_cons_succ]
        refine wpAnyH_ready (rs := [3]) (by kernel_rfl) (by simp) (AllReadyH.cons rfl (fun K hK => ?_) AllReadyH.nil)
        simp only [List.getElem_toArray, List.getElem_cons_succ, List.getElem_cons_zero, Act.put, List.setIfInBounds_toArray, List.set_cons_zero, List.set_cons_succ]
        go_simp
        refine (own_any l5 w17 w17.heap.size A5 n5 c5 (i5.nx hb).sl i5.none_ (by omega) (Nat.le_refl _)).mono ?_
        rintro e w18 ⟨X8, d8, rfl, x8⟩
        have hbn := x8.below
        have y8 := x8.bys
        clear x8
        replace b := b.next hbn
        replace bm := bm.next hbn
        replace ys := ys.nx hbn
        replace yx := yx.nx hbn
        replace hb := next hb hbn
        replace bfile := bfile.next hbn
        replace y9 := y9.nx hbn
        clear hbn
        replace hS := H7I.out _ b bfile
        refine hK.out _ _ hS (fun _ => ?_)
        clear hK K
        refine wpAnyH_ready (rs := [4]) (by kernel_rfl) (by simp) (AllReadyH.cons rfl (fun K hK => ?_) AllReadyH.nil)
        simp only [List.getElem_toArray, List.getElem_cons_succ, List.getElem_cons_zero, Act.put, List.setIfInBounds_toArray, List.set_cons_zero, List.set_cons_succ]
        go_simp
        refine (kopen_any l5 l1 Xb X8 n5 d8 Af nf cf r nu Y mf dY w18 y8 ⟨ys, y9⟩ (by omega) hnf (by omega) (HT.out.next hb)).mono ?_
        rw [HOE.out, HOM.out]
        rintro e w19 ⟨hbn, (⟨hE0, gk, rfl, rg, hgk9⟩ | ⟨hE0, rfl⟩)⟩
        · subst hE0
          replace b := b.next hbn
          replace bm := bm.next hbn
          replace ys := ys.nx hbn
          replace yx := yx.nx hbn
          replace hb := next hb hbn
          replace bfile := bfile.next hbn
          replace y9 := y9.nx hbn
          clear hbn
          replace hS := H7I.out _ b bfile
          refine hK.out _ _ hS (fun _ => ?_)
          clear hK K
          refine wpAnyH_take (i := 5) (v := (.tuple #[.pointer (some ⟨gk, 0, none⟩), .int .i64 0])) rfl (by kernel_rfl) (by kernel_rfl) (by kernel_rfl) (fun _ _ _ h => h) (Or.inl ⟨by rfl, fun _ hSw => by go_simp⟩) hS ?_
          simp only [List.getElem_toArray, List.getElem_cons_succ, List.getElem_cons_zero, Act.put, List.setIfInBounds_toArray, List.set_cons_zero, List.set_cons_succ]
          refine wpAnyH_take (i := 6) (v := (.pointer (some ⟨gk, 0, none⟩))) rfl (by kernel_rfl) (by kernel_rfl) (by kernel_rfl) (fun _ _ _ h => h) (Or.inl ⟨by rfl, fun _ hSw => by go_simp⟩) hS ?_
          simp only [List.getElem_toArray, List.getElem_cons_succ, List.getElem_cons_zero, Act.put, List.setIfInBounds_toArray, List.set_cons_zero, List.set_cons_succ]
          refine wpAnyH_take (i := 7) (v := (.int .i64 0)) rfl (by kernel_rfl) (by kernel_rfl) (by kernel_rfl) (fun _ _ _ h => h) (Or.inl ⟨by rfl, fun _ hSw => by go_simp⟩) hS ?_
          simp only [List.getElem_toArray, List.getElem_cons_succ, List.getElem_cons_zero, Act.put, List.setIfInBounds_toArray, List.set_cons_zero, List.set_cons_succ]
          refine wpAnyH_take (i := 8) (v := (.pointer (some ⟨gk, 0, none⟩))) rfl (by kernel_rfl) (by kernel_rfl) (by kernel_rfl) (fun _ _ _ h => h) (Or.inl ⟨by rfl, fun _ hSw => by go_simp⟩) hS ?_
          simp only [List.getElem_toArray, List.getElem_cons_succ, List.getElem_cons_zero, Act.put, List.setIfInBounds_toArray, List.set_cons_zero, List.set_cons_succ]
          refine wpAnyH_take (i := 9) (v := (.int .i64 0)) rfl (by kernel_rfl) (by kernel_rfl) (by kernel_rfl) (fun _ _ _ h => h) (Or.inl ⟨by rfl, fun _ hSw => by go_simp⟩) hS ?_
          simp only [List.getElem_toArray, List.getElem_cons_succ, List.getElem_cons_zero, Act.put, List.setIfInBounds_toArray, List.set_cons_zero, List.set_cons_succ]
          refine wpAnyH_done (by kernel_rfl) ?_ _
          clear hS H7I H75 H7W y8 bfile y9
          have whm := bm.whole
          have c5' : w19.cell? ⟨w.heap.size, 5, none⟩ = some (.slice A5 n5 c5) := b.cell 5
          go_wp2_with (first
            | (refine wpList_load_mid rfl 39 _ rfl _ _ rfl (fC Af nf cf r nu (some ⟨gx, 0, none⟩) mf dX) _ whm Tryz.underlying39 rfl size_rf ?_)
            | fail)
          clear whm c5'
          refine (ropen_any11 l5 l1 Xb A5 n5 c5 Af nf cf r nu (some ⟨gx, 0, none⟩) mf dX w19 (i5.nx hb) ⟨ys, yx⟩ (by omega) hnf (by omega)).mono ?_
          rw [HOE.out, HOM.out]
          rintro e w20 ⟨A6, n6, c6, rfl, hbn, hrr⟩
          have rr := hrr rfl
          obtain ⟨B5, hB5⟩ : ∃ b, b = w20.heap.size := ⟨_, rfl⟩
          rw [← hB5] at rr
          have hB : B5 ≤ w20.heap.size := Nat.le_of_eq hB5
          clear hB5
          clear hrr
          replace b := b.next hbn
          replace bm := bm.next hbn
          replace ys := ys.nx hbn
          replace yx := yx.nx hbn
          replace hb := next hb hbn
          replace rg := (rg.next hbn).up hbn.size
          clear hbn
          have hbn : Below w20.heap.size w20 (w20.alloc (.cells #[.slice A6 n6 c6] 30)) := (Below.refl _ w20).alloc (Nat.le_refl _) _
          have cq := Bl.newA w20 #[.slice A6 n6 c6] 30
          obtain ⟨qw, hqw⟩ : ∃ g, g = w20.heap.size := ⟨_, rfl⟩
          rw [← hqw] at cq
          have HQW : Hid (w20.heap.size = qw) := hqw.symm
          obtain ⟨w21, hw21⟩ : ∃ W, W = w20.alloc (.cells #[.slice A6 n6 c6] 30) := ⟨_, rfl⟩
          rw [← hw21] at cq hbn
          have HW21 := Lib.hid hw21
          replace b := b.next hbn
          replace bm := bm.next hbn
          replace ys := ys.nx hbn
          replace yx := yx.nx hbn
          replace hb := next hb hbn
          replace rg := (rg.next hbn).up hbn.size
          replace rr := rr.next hB hbn
          replace hB := Nat.le_trans hB hbn.size
          clear hbn
          have cqc : w21.cell? ⟨qw, 0, none⟩ = some (.slice A6 n6 c6) := cq.cell 0
          rw [hw21, hqw] at cqc
          have OK2 := Lib.hid rg.2.1
          have hML : M2.length ≤ 1000 := by simpa using HML.out
          clear hw21 hqw
          go_wp2_with fail
          try rw [HQW.out]
          try rw [← HW21.out]
          clear HQW HW21 cqc
          refine (alike_any gk B5 M2 M2 (fun _ => rfl) A6 n6 c6 w21 (HT.out.next hb) rg rr OK2.out hB hML hML).mono ?_
          rintro e w24 ⟨rfl, hbn⟩
          replace hb := next hb hbn
          clear hbn
          go_wp2_with fail
          refine (awake11_any w24 (HT.out.next hb)).mono ?_
          rintro e w25 ⟨rfl, hb25⟩
          go_wp2
          go_ret
          exact ⟨rfl, next hb hb25⟩
        · have hEn : ((E : Int) != 0) = true := by simp [bne, hE0]
          have hEe : (E != E) = false := by simp
          replace b := b.next hbn
          replace bm := bm.next hbn
          replace ys := ys.nx hbn
          replace yx := yx.nx hbn
          replace hb := next hb hbn
          replace bfile := bfile.next hbn
          replace y9 := y9.nx hbn
          clear hbn
          replace hS := H7I.out _ b bfile
          refine hK.out _ _ hS (fun _ => ?_)
          clear hK K
          refine wpAnyH_take (i := 5) (v := (.tuple #[.pointer none, .int .i64 E])) rfl (by kernel_rfl) (by kernel_rfl) (by kernel_rfl) (fun _ _ _ h => h) (Or.inl ⟨by rfl, fun _ hSw => by go_simp⟩) hS ?_
          simp only [List.getElem_toArray, List.getElem_cons_succ, List.getElem_cons_zero, Act.put, List.setIfInBounds_toArray, List.set_cons_zero, List.set_cons_succ]
          refine wpAnyH_take (i := 6) (v := (.pointer none)) rfl (by kernel_rfl) (by kernel_rfl) (by kernel_rfl) (fun _ _ _ h => h) (Or.inl ⟨by rfl, fun _ hSw => by go_simp⟩) hS ?_
          simp only [List.getElem_toArray, List.getElem_cons_succ, List.getElem_cons_zero, Act.put, List.setIfInBounds_toArray, List.set_cons_zero, List.set_cons_succ]
          refine wpAnyH_take (i := 7) (v := (.int .i64 E)) rfl (by kernel_rfl) (by kernel_rfl) (by kernel_rfl) (fun _ _ _ h => h) (Or.inl ⟨by rfl, fun _ hSw => by go_simp⟩) hS ?_
          simp only [List.getElem_toArray, List.getElem_cons_succ, List.getElem_cons_zero, Act.put, List.setIfInBounds_toArray, List.set_cons_zero, List.set_cons_succ]
          refine wpAnyH_take (i := 8) (v := (.pointer none)) rfl (by kernel_rfl) (by kernel_rfl) (by kernel_rfl) (fun _ _ _ h => h) (Or.inl ⟨by rfl, fun _ hSw => by go_simp⟩) hS ?_
          simp only [List.getElem_toArray, List.getElem_cons_succ, List.getElem_cons_zero, Act.put, List.setIfInBounds_toArray, List.set_cons_zero, List.set_cons_succ]
          refine wpAnyH_take (i := 9) (v := (.int .i64 E)) rfl (by kernel_rfl) (by kernel_rfl) (by kernel_rfl) (fun _ _ _ h => h) (Or.inl ⟨by rfl, fun _ hSw => by go_simp⟩) hS ?_
          simp only [List.getElem_toArray, List.getElem_cons_succ, List.getElem_cons_zero, Act.put, List.setIfInBounds_toArray, List.set_cons_zero, List.set_cons_succ]
          refine wpAnyH_done (by kernel_rfl) ?_ _
          clear hS H7I H75 H7W y8 bfile y9
          have whm := bm.whole
          have c5' : w19.cell? ⟨w.heap.size, 5, none⟩ = some (.slice A5 n5 c5) := b.cell 5
          go_wp2_with (first
            | (refine wpList_load_mid rfl 39 _ rfl _ _ rfl (fC Af nf cf r nu (some ⟨gx, 0, none⟩) mf dX) _ whm Tryz.underlying39 rfl size_rf ?_)
            | fail)
          clear whm c5'
          refine (ropen_any11 l5 l1 Xb A5 n5 c5 Af nf cf r nu (some ⟨gx, 0, none⟩) mf dX w19 (i5.nx hb) ⟨ys, yx⟩ (by omega) hnf (by omega)).mono ?_
          rw [HOE.out, HOM.out]
          rintro e w20 ⟨A6, n6, c6, rfl, hbn, hrr⟩
          clear hrr
          replace b := b.next hbn
          replace bm := bm.next hbn
          replace ys := ys.nx hbn
          replace yx := yx.nx hbn
          replace hb := next hb hbn
          clear hbn
          have hbn : Below w20.heap.size w20 (w20.alloc (.cells #[.slice A6 n6 c6] 30)) := (Below.refl _ w20).alloc (Nat.le_refl _) _
          have cq := Bl.newA w20 #[.slice A6 n6 c6] 30
          obtain ⟨qw, hqw⟩ : ∃ g, g = w20.heap.size := ⟨_, rfl⟩
          rw [← hqw] at cq
          have HQW : Hid (w20.heap.size = qw) := hqw.symm
          obtain ⟨w21, hw21⟩ : ∃ W, W = w20.alloc (.cells #[.slice A6 n6 c6] 30) := ⟨_, rfl⟩
          rw [← hw21] at cq hbn
          have HW21 := Lib.hid hw21
          replace b := b.next hbn
          replace bm := bm.next hbn
          replace ys := ys.nx hbn
          replace yx := yx.nx hbn
          replace hb := next hb hbn
          clear hbn
          clear hw21 hqw
          go_wp2_with fail
          try rw [HQW.out]
          try rw [← HW21.out]
          refine (awake11_any w21 (HT.out.next hb)).mono ?_
          rintro e w25 ⟨rfl, hb25⟩
          go_wp2
          go_ret
          exact ⟨rfl, next hb hb25⟩
    · have hF2 : F = nilV := by rw [hF]; unfold mkF; rw [if_neg (by rw [← hE]; exact hE0)]
      have hEn : ((E : Int) != 0) = true := by simp [bne, hE0]
      clear hE hF
      subst hF2
      go_wp2_with fail
      refine (rmake_any11 l0 l1 m OK.out A0 n0 c0 A1 n1 c1 r nu A n c w3 y0 y1 q3 (by omega) (by omega)).mono ?_
      rw [HE.out, HF.out]
      rintro e w4 ⟨Af, nf, cf, Bf, mf, df, rfl, ff, hbn⟩
      have hb := next hbw3 hbn
      clear b3 hbw3 a0 a1 a2 a3 a4 y0 y1 q3 cq HE HF OK
      obtain ⟨bm, hbn7, hz7⟩ := put_new w4 nilF (fC Af nf cf nilV.r nilV.nu Bf mf df) 39 rfl
      obtain ⟨W7, hW7⟩ : ∃ W, W = (w4.alloc (.cells nilF.toArray 39)).setCells w4.heap.size 0 (fC Af nf cf nilV.r nilV.nu Bf mf df) := ⟨_, rfl⟩
      rw [← hW7] at bm hbn7 hz7
      have HW7 := Lib.hid hW7
      clear hW7
      replace hb := next hb hbn7
      have mk4 : True := trivial
      go_wp2_with (first
        | (have := mk4; refine wpList_alloc_zero rfl 39 rfl nilF zero_rf ?_)
        | (have := mk4; refine wpList_store_mid rfl 39 _ _ rfl _ _ (fC Af nf cf nilV.r nilV.nu Bf mf df).toArray rfl rfl (Bl.there_ (Bl.new w4 nilF 39) (by simp [nilF, fC])) size_rf (all_oneCell_toArray (fC_one _ _ _ _ _ _ _ _)) ?_; change wpList _ _ _ _ _ (World.setCells (w4.alloc (.cells nilF.toArray 39)) w4.heap.size 0 (fC Af nf cf nilV.r nilV.nu Bf mf df)); rw [← HW7.out]; clear mk4)
        | (go_at_call 10; refine (awake11_any W7 (HT.out.next hb)).mono ?_; rintro e w9 ⟨rfl, hb9⟩)
        | fail)
      go_ret
      exact ⟨rfl, next hb hb9⟩

end Go.Proofs.YtlnoopmblmkgkaaGreatDoor
