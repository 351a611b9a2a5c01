/- The walk of the law BoxBack. -/
import Derived.Test.YtgafdlcncojeoaaDoorBoxY
namespace Go.Proofs.YtgafdlcncojeoaaDoor
set_option maxRecDepth 100000
open Go.RowKit
set_option linter.unusedVariables false
set_option linter.unusedSimpArgs false

theorem bsizeP_any (n : Int) (w : World) (h0 : 0 < n) (h1 : n ≤ 9223372036854775791) :
    Calls Tryd.prog 15 #[.int .i64 n] w fun e w' => e = .returned (.int .i64 (n + 16)) ∧ w = w' := by
  refine (bsize_any n w (by omega) (by omega)).mono ?_
  rintro e w' ⟨rfl, rfl⟩
  exact ⟨ret_int (by omega), rfl⟩

theorem bsizeM_any (n : Int) (w : World) (h0 : -9223372036854775808 ≤ n) (h1 : n ≤ 0) :
    Calls Tryd.prog 15 #[.int .i64 n] w fun e w' => e = .returned (.int .i64 16) ∧ w = w' := by
  refine (bsize_any n w (by omega) (by omega)).mono ?_
  rintro e w' ⟨rfl, rfl⟩
  exact ⟨ret_int (by omega), rfl⟩

set_option maxHeartbeats 1000000 in
theorem boxBack_st (A0 : Option Addr) (c0 : Nat) (l0 : List UInt8) (A1 : Option Addr) (c1 : Nat) (l1 : List UInt8) (A2 : Option Addr) (c2 : Nat) (l2 : List UInt8) (A3 : Option Addr) (c3 : Nat) (l3 : List UInt8) (a : Int) (w : World) (hT : TabC w) (hp : Prt w A0 c0 l0 A1 c1 l1 A2 c2 l2 A3 c3 l3) (hn : PrtN A0 c0 l0 A1 c1 l1 A2 c2 l2 A3 c3 l3)
    (m0 : l0.length ≤ 140737488351232) (m1 : l1.length ≤ 140737488351232) (m2 : l2.length ≤ 140737488351232) (m3 : l3.length ≤ 140737488351232) (ha : (Lit.int .i64 a).wf = true) :
    Calls Tryd.prog 5 #[.agg #[.slice A0 l0.length c0, .slice A1 l1.length c1, .slice A2 l2.length c2, .slice A3 l3.length c3], .int .i64 a] w fun e w' => e = .returned (.bool true) ∧ Below w.heap.size w w' := by
  obtain ⟨W0, hW0⟩ : ∃ W, W = w.alloc (.cells (prtC A0 l0.length c0 A1 l1.length c1 A2 l2.length c2 A3 l3.length c3).toArray 24) := ⟨_, rfl⟩
  have b0 : Bl W0 w.heap.size (prtC A0 l0.length c0 A1 l1.length c1 A2 l2.length c2 A3 l3.length c3) 24 := by rw [hW0]; exact Bl.new _ _ _
  have hb0 : Below w.heap.size w W0 := by rw [hW0]; exact (Below.refl _ w).alloc (Nat.le_refl _) _
  have HW0 : Hid (w.alloc (.cells #[.slice A0 l0.length c0, .slice A1 l1.length c1, .slice A2 l2.length c2, .slice A3 l3.length c3] 24) = W0) := hW0.symm
  have HT := Lib.hid hT
  have HN := Lib.hid hn
  have HPL : Hid ((prtC A0 l0.length c0 A1 l1.length c1 A2 l2.length c2 A3 l3.length c3).length = 4) := (rfl : _ = _)
  clear hW0 hT hn
  have wh0 := b0.whole
  go_enter Tryd.func5, Tryd.ntmps5
  go_wp2_with (first | (rw [HW0.out]) | (refine wpList_load_mid rfl 24 _ rfl _ _ rfl (prtC A0 l0.length c0 A1 l1.length c1 A2 l2.length c2 A3 l3.length c3) _ wh0 Tryd.underlying24 rfl (by rw [size_prt, HPL.out]) ?_))
  refine (few_any A0 _ c0 A1 _ c1 A2 _ c2 A3 _ c3 _).mono ?_
  rintro e w1 ⟨rfl, hb1⟩
  replace b0 := b0.next hb1
  replace hb0 := next hb0 hb1
  clear hb1 HW0 wh0
  have wh0 := b0.whole
  cases hfew : fewB l2.length l3.length
  · clear hfew
    go_wp2_with fail
    refine (awake7_any _ (HT.out.next hb0)).mono ?_
    rintro e w' ⟨rfl, hb⟩
    go_wp2
    go_ret
    exact ⟨rfl, next hb0 hb⟩
  · have hm2 : l2.length ≤ 1000 ∧ l3.length ≤ 2000 := by simpa [fewB] using hfew
    obtain ⟨hm2, hm3⟩ := hm2
    clear hfew
    go_wp2_with (refine wpList_load_mid rfl 24 _ rfl _ _ rfl (prtC A0 l0.length c0 A1 l1.length c1 A2 l2.length c2 A3 l3.length c3) _ wh0 Tryd.underlying24 rfl (by rw [size_prt, HPL.out]) ?_)
    refine (pown_any A0 c0 l0 A1 c1 l1 A2 c2 l2 A3 c3 l3 _ (hp.nx hb0) HN.out (by omega) (by omega) (by omega) (by omega)).mono ?_
    rintro e w2 ⟨X0, d0, X1, d1, X2, d2, X3, d3, rfl, hq, hqn, hb2⟩
    replace b0 := b0.next hb2
    replace hb0 := next hb0 hb2
    clear hb2 wh0
    obtain ⟨C, hC⟩ : ∃ C, C = prtC X0 l0.length d0 X1 l1.length d1 X2 l2.length d2 X3 l3.length d3 := ⟨_, rfl⟩
    have HC1 : Hid (∀ v ∈ C, v.oneCell' = true) := by unfold Hid; rw [hC]; exact prt_one _ _ _ _ _ _ _ _ _ _ _ _
    have HCL : Hid (C.length = 4) := by unfold Hid; rw [hC]; rfl
    obtain ⟨bq, hb3, hz3⟩ := put_new w2 nilP C 24 (by rw [HCL.out]; rfl)
    obtain ⟨W3, hW3⟩ : ∃ W, W = (w2.alloc (.cells nilP.toArray 24)).setCells w2.heap.size 0 C := ⟨_, rfl⟩
    rw [← hW3] at bq hb3 hz3
    have HW3 := Lib.hid hW3
    rw [← hC]
    obtain ⟨gq, hgq⟩ : ∃ g, g = w2.heap.size := ⟨_, rfl⟩
    have HGQ := Lib.hid hgq
    replace b0 := b0.next hb3
    replace hb0 := next hb0 hb3
    replace hq := hq.nx hb3
    rw [← hgq] at bq
    clear hW3 hgq hz3 hb3
    have HC := Lib.hid hC
    obtain ⟨r0, r1, r2, r3⟩ : W3.cell? ⟨gq, 0, none⟩ = some (.slice X0 l0.length d0) ∧ W3.cell? ⟨gq, 1, none⟩ = some (.slice X1 l1.length d1) ∧ W3.cell? ⟨gq, 2, none⟩ = some (.slice X2 l2.length d2) ∧ W3.cell? ⟨gq, 3, none⟩ = some (.slice X3 l3.length d3) := by rw [hC] at bq; exact prt_cells bq
    clear hC
    go_wp2_with (first
      | (refine wpList_alloc_zero rfl 24 rfl nilP zero_prt ?_)
      | (refine wpList_store_mid rfl 24 _ _ rfl _ _ C.toArray rfl rfl (Bl.there_ (Bl.new w2 nilP 24) (by simp [nilP, prtC, HCL.out])) (by rw [size_prt, List.size_toArray, HCL.out]) (all_oneCell_toArray HC1.out) ?_; change wpList _ _ _ _ _ (World.setCells (w2.alloc (.cells nilP.toArray 24)) w2.heap.size 0 C); rw [← HW3.out, ← HGQ.out]))
    have HQN := Lib.hid hqn
    clear hqn HW3 HGQ r0 r1 r2 r3
    refine (seal_any l0 l1 l2 l3 X0 X1 X2 X3 _ _ _ _ d0 d1 d2 d3 W3 hq.s0 hq.s1 hq.s2 hq.s3 HQN.out.k0 HQN.out.k1 HQN.out.k3 HQN.out.z0 HQN.out.z1 HQN.out.z3 (by omega) (by omega) (HT.out.next hb0)).mono ?_
    rintro e w4 ⟨Y, m, d, rfl, y⟩
    obtain ⟨ha0, ha1⟩ := bounds_i64 ha
    clear ha
    have hbx := y.below
    replace b0 := b0.next hbx
    replace bq := bq.next hbx
    replace hb0 := next hb0 hbx
    replace hq := hq.nx hbx
    by_cases hfit : fitK l0 l1 = true
    · have HSE : Hid (sealR l0 l1 l2 l3 = boxL l0 l1 l2 l3 ∧ sealE l0 l1 = 0) := by unfold Hid sealR sealE; rw [if_pos hfit, if_pos hfit]; exact ⟨rfl, rfl⟩
      have HOP := Lib.hid (open_box l0 l1 l2 l3 hfit)
      rw [HSE.out.2]
      rw [HSE.out.1] at y
      have hml : m = l3.length + 16 := y.len.trans (boxL_len _ _ _ _)
      subst hml
      have ys := y.sl
      have yk := y.cap
      have yz := y.none_
      clear hfit y hbx
      obtain ⟨r0, r1, r2, r3⟩ : w4.cell? ⟨gq, 0, none⟩ = some (.slice X0 l0.length d0) ∧ w4.cell? ⟨gq, 1, none⟩ = some (.slice X1 l1.length d1) ∧ w4.cell? ⟨gq, 2, none⟩ = some (.slice X2 l2.length d2) ∧ w4.cell? ⟨gq, 3, none⟩ = some (.slice X3 l3.length d3) := by rw [HC.out] at bq; exact prt_cells bq
      go_wp2_with fail
      refine (open_any l0 l1 l2 (boxL l0 l1 l2 l3) X0 X1 X2 Y _ _ _ (l3.length + 16) d0 d1 d2 d w4 hq.s0 hq.s1 hq.s2 ys HQN.out.k0 HQN.out.k1 yk HQN.out.z0 HQN.out.z1 yz (by omega) (by omega) (HT.out.next hb0)).mono ?_
      rintro e w5 ⟨Z, k, f, rfl, z⟩
      rw [HOP.out.2]
      rw [HOP.out.1] at z
      replace b0 := b0.next z.below
      replace hb0 := next hb0 z.below
      have u1 := u8_str z.sl f
      have u2 := u8_str (hp.nx hb0).s3 c3
      clear z r0 r1 r2 r3 ys bq
      obtain ⟨p0, p1, p2, p3⟩ := prt_cells b0
      rcases (show 1099511627776 < a ∨ (a ≤ 1099511627776 ∧ 0 < a) ∨ a = 0 ∨ a < 0 by omega) with hc | ⟨hc, hc2⟩ | hc | hc
      · have hd : decide (1099511627776 < a) = true := by simp; omega
        go_wp2_with fail
        refine (bsizeN_any _ _ (by omega)).mono ?_
        rintro e w7 ⟨rfl, rfl⟩
        go_wp2_with fail
        refine (bsizeP_any 1099511627776 _ (by omega) (by omega)).mono ?_
        rintro e w7 ⟨rfl, rfl⟩
        go_wp2_with fail
        refine (awake7_any _ (HT.out.next hb0)).mono ?_
        rintro e w9 ⟨rfl, hb9⟩
        go_wp2
        go_ret
        exact ⟨rfl, next hb0 hb9⟩
      · have hd : decide (1099511627776 < a) = false := by simp; omega
        go_wp2_with fail
        refine (bsizeN_any _ _ (by omega)).mono ?_
        rintro e w7 ⟨rfl, rfl⟩
        go_wp2_with fail
        refine (bsizeP_any a _ (by omega) (by omega)).mono ?_
        rintro e w7 ⟨rfl, rfl⟩
        go_wp2_with fail
        refine (awake7_any _ (HT.out.next hb0)).mono ?_
        rintro e w9 ⟨rfl, hb9⟩
        go_wp2
        go_ret
        exact ⟨rfl, next hb0 hb9⟩
      · subst hc
        have hd : decide ((1099511627776 : Int) < 0) = false := by decide
        go_wp2_with fail
        refine (bsizeN_any _ _ (by omega)).mono ?_
        rintro e w7 ⟨rfl, rfl⟩
        go_wp2_with fail
        refine (bsizeM_any 0 _ (by omega) (by omega)).mono ?_
        rintro e w7 ⟨rfl, rfl⟩
        go_wp2_with fail
        refine (awake7_any _ (HT.out.next hb0)).mono ?_
        rintro e w9 ⟨rfl, hb9⟩
        go_wp2
        go_ret
        exact ⟨rfl, next hb0 hb9⟩
      · have hd : decide (1099511627776 < a) = false := by simp; omega
        go_wp2_with fail
        refine (bsizeN_any _ _ (by omega)).mono ?_
        rintro e w7 ⟨rfl, rfl⟩
        go_wp2_with fail
        refine (bsizeM_any a _ (by omega) (by omega)).mono ?_
        rintro e w7 ⟨rfl, rfl⟩
        go_wp2_with fail
        refine (awake7_any _ (HT.out.next hb0)).mono ?_
        rintro e w9 ⟨rfl, hb9⟩
        go_wp2
        go_ret
        exact ⟨rfl, next hb0 hb9⟩
    · have HSE : Hid (sealR l0 l1 l2 l3 = [] ∧ sealE l0 l1 = 1) := by unfold Hid sealR sealE; rw [if_neg hfit, if_neg hfit]; exact ⟨rfl, rfl⟩
      rw [HSE.out.2]
      rw [HSE.out.1] at y
      have hml : m = 0 := y.len
      subst hml
      clear y hbx
      obtain ⟨p0, p1, p2, p3⟩ := prt_cells b0
      by_cases h32 : l0.length = 32
      · have h12 : l1.length ≠ 12 := fun h => hfit (by unfold fitK; rw [h32, h]; rfl)
        have hk0 : ((l0.length : Int) != 32) = false := by simp; omega
        have hk1 : ((l1.length : Int) != 12) = true := by simp; omega
        clear hfit h32 h12
        go_wp2_with fail
        refine (awake7_any _ (HT.out.next hb0)).mono ?_
        rintro e w9 ⟨rfl, hb9⟩
        go_wp2
        go_ret
        exact ⟨rfl, next hb0 hb9⟩
      · have hk0 : ((l0.length : Int) != 32) = true := by simp; omega
        clear hfit h32
        go_wp2_with fail
        refine (awake7_any _ (HT.out.next hb0)).mono ?_
        rintro e w9 ⟨rfl, hb9⟩
        go_wp2
        go_ret
        exact ⟨rfl, next hb0 hb9⟩

theorem boxBack_walk (v : Value) (a : Int) (w : World) (hT : TabC w) (h : PartsIn w v) (ha : (Lit.int .i64 a).wf = true) :
    Calls Tryd.prog 5 #[v, .int .i64 a] w fun e w' => e = .returned (.bool true) ∧ Below w.heap.size w w' := by
  obtain ⟨A0, n0, c0, l0, A1, n1, c1, l1, A2, n2, c2, l2, A3, n3, c3, l3, rfl, i0, i1, i2, i3⟩ := h
  have e0 := i0.len
  have e1 := i1.len
  have e2 := i2.len
  have e3 := i3.len
  subst e0; subst e1; subst e2; subst e3
  have r0 := i0.room
  have r1 := i1.room
  have r2 := i2.room
  have r3 := i3.room
  have k0 := i0.cap
  have k1 := i1.cap
  have k2 := i2.cap
  have k3 := i3.cap
  exact boxBack_st A0 c0 l0 A1 c1 l1 A2 c2 l2 A3 c3 l3 a w hT ⟨i0.sl, i1.sl, i2.sl, i3.sl⟩ ⟨k0, k1, k2, k3, i0.none_, i1.none_, i2.none_, i3.none_⟩ (by omega) (by omega) (by omega) (by omega) ha

end Go.Proofs.YtgafdlcncojeoaaDoor
