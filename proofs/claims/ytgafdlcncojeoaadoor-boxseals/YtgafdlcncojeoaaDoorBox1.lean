/- The walk of the law BoxSeals. -/
import Derived.Test.YtgafdlcncojeoaaDoorBoxY
namespace Go.Proofs.YtgafdlcncojeoaaDoor
set_option maxRecDepth 100000
open Go.RowKit
set_option linter.unusedVariables false
set_option linter.unusedSimpArgs false

set_option maxHeartbeats 1000000 in
theorem boxSeals_st (A0 : Option Addr) (c0 : Nat) (l0 : List UInt8) (A1 : Option Addr) (c1 : Nat) (l1 : List UInt8) (A2 : Option Addr) (c2 : Nat) (l2 : List UInt8) (A3 : Option Addr) (c3 : Nat) (l3 : List UInt8) (w : World) (hT : TabC w) (hp : Prt w A0 c0 l0 A1 c1 l1 A2 c2 l2 A3 c3 l3) (hn : PrtN A0 c0 l0 A1 c1 l1 A2 c2 l2 A3 c3 l3)
    (m0 : l0.length ≤ 140737488351232) (m1 : l1.length ≤ 140737488351232) (m2 : l2.length ≤ 140737488351232) (m3 : l3.length ≤ 140737488351232) :
    Calls Tryd.prog 3 #[.agg #[.slice A0 l0.length c0, .slice A1 l1.length c1, .slice A2 l2.length c2, .slice A3 l3.length c3]] w fun e w' => e = .returned (.bool true) ∧ Below w.heap.size w w' := by
  obtain ⟨W0, hW0⟩ : ∃ W, W = w.alloc (.cells (prtC A0 l0.length c0 A1 l1.length c1 A2 l2.length c2 A3 l3.length c3).toArray 24) := ⟨_, rfl⟩
  have b0 : Bl W0 w.heap.size (prtC A0 l0.length c0 A1 l1.length c1 A2 l2.length c2 A3 l3.length c3) 24 := by rw [hW0]; exact Bl.new _ _ _
  have hb0 : Below w.heap.size w W0 := by rw [hW0]; exact (Below.refl _ w).alloc (Nat.le_refl _) _
  have HW0 : Hid (w.alloc (.cells #[.slice A0 l0.length c0, .slice A1 l1.length c1, .slice A2 l2.length c2, .slice A3 l3.length c3] 24) = W0) := hW0.symm
  have HT := Lib.hid hT
  have HN := Lib.hid hn
  have HPL : Hid ((prtC A0 l0.length c0 A1 l1.length c1 A2 l2.length c2 A3 l3.length c3).length = 4) := (rfl : _ = _)
  clear hW0 hT hn
  have wh0 := b0.whole
  go_enter Tryd.func3, Tryd.ntmps3
  go_wp2_with (first | (rw [HW0.out]) | (refine wpList_load_mid rfl 24 _ rfl _ _ rfl (prtC A0 l0.length c0 A1 l1.length c1 A2 l2.length c2 A3 l3.length c3) _ wh0 Tryd.underlying24 rfl (by rw [size_prt, HPL.out]) ?_))
  refine (few_any A0 _ c0 A1 _ c1 A2 _ c2 A3 _ c3 _).mono ?_
  rintro e w1 ⟨rfl, hb1⟩
  replace b0 := b0.next hb1
  replace hb0 := next hb0 hb1
  clear hb1 HW0 wh0
  have wh0 := b0.whole
  cases hfew : fewB l2.length l3.length
  · clear hfew
    go_wp2_with fail
    refine (awake7_any _ (HT.out.next hb0)).mono ?_
    rintro e w' ⟨rfl, hb⟩
    go_wp2
    go_ret
    exact ⟨rfl, next hb0 hb⟩
  · have hm2 : l2.length ≤ 1000 ∧ l3.length ≤ 2000 := by simpa [fewB] using hfew
    obtain ⟨hm2, hm3⟩ := hm2
    clear hfew
    go_wp2_with (refine wpList_load_mid rfl 24 _ rfl _ _ rfl (prtC A0 l0.length c0 A1 l1.length c1 A2 l2.length c2 A3 l3.length c3) _ wh0 Tryd.underlying24 rfl (by rw [size_prt, HPL.out]) ?_)
    refine (pown_any A0 c0 l0 A1 c1 l1 A2 c2 l2 A3 c3 l3 _ (hp.nx hb0) HN.out (by omega) (by omega) (by omega) (by omega)).mono ?_
    rintro e w2 ⟨X0, d0, X1, d1, X2, d2, X3, d3, rfl, hq, hqn, hb2⟩
    replace b0 := b0.next hb2
    replace hb0 := next hb0 hb2
    clear hb2 wh0
    obtain ⟨C, hC⟩ : ∃ C, C = prtC X0 l0.length d0 X1 l1.length d1 X2 l2.length d2 X3 l3.length d3 := ⟨_, rfl⟩
    have HC1 : Hid (∀ v ∈ C, v.oneCell' = true) := by unfold Hid; rw [hC]; exact prt_one _ _ _ _ _ _ _ _ _ _ _ _
    have HCL : Hid (C.length = 4) := by unfold Hid; rw [hC]; rfl
    obtain ⟨bq, hb3, hz3⟩ := put_new w2 nilP C 24 (by rw [HCL.out]; rfl)
    obtain ⟨W3, hW3⟩ : ∃ W, W = (w2.alloc (.cells nilP.toArray 24)).setCells w2.heap.size 0 C := ⟨_, rfl⟩
    rw [← hW3] at bq hb3 hz3
    have HW3 := Lib.hid hW3
    rw [← hC]
    obtain ⟨gq, hgq⟩ : ∃ g, g = w2.heap.size := ⟨_, rfl⟩
    have HGQ := Lib.hid hgq
    replace b0 := b0.next hb3
    replace hb0 := next hb0 hb3
    replace hq := hq.nx hb3
    rw [← hgq] at bq
    clear hW3 hgq hz3 hb3
    have HC := Lib.hid hC
    obtain ⟨r0, r1, r2, r3⟩ : W3.cell? ⟨gq, 0, none⟩ = some (.slice X0 l0.length d0) ∧ W3.cell? ⟨gq, 1, none⟩ = some (.slice X1 l1.length d1) ∧ W3.cell? ⟨gq, 2, none⟩ = some (.slice X2 l2.length d2) ∧ W3.cell? ⟨gq, 3, none⟩ = some (.slice X3 l3.length d3) := by rw [hC] at bq; exact prt_cells bq
    clear hC
    go_wp2_with (first
      | (refine wpList_alloc_zero rfl 24 rfl nilP zero_prt ?_)
      | (refine wpList_store_mid rfl 24 _ _ rfl _ _ C.toArray rfl rfl (Bl.there_ (Bl.new w2 nilP 24) (by simp [nilP, prtC, HCL.out])) (by rw [size_prt, List.size_toArray, HCL.out]) (all_oneCell_toArray HC1.out) ?_; change wpList _ _ _ _ _ (World.setCells (w2.alloc (.cells nilP.toArray 24)) w2.heap.size 0 C); rw [← HW3.out, ← HGQ.out]))
    have HQN := Lib.hid hqn
    clear hqn HW3 HGQ r0 r1 r2 r3
    obtain ⟨E, hE⟩ : ∃ E, E = sealE l0 l1 := ⟨_, rfl⟩
    obtain ⟨L, hL⟩ : ∃ L, L = sealR l0 l1 l2 l3 := ⟨_, rfl⟩
    have HE := Lib.hid hE
    have HL := Lib.hid hL
    clear hE hL
    have hEE : (E == E) = true := by simp
    refine (seal_any l0 l1 l2 l3 X0 X1 X2 X3 _ _ _ _ d0 d1 d2 d3 W3 hq.s0 hq.s1 hq.s2 hq.s3 HQN.out.k0 HQN.out.k1 HQN.out.k3 HQN.out.z0 HQN.out.z1 HQN.out.z3 (by omega) (by omega) (HT.out.next hb0)).mono ?_
    rintro e w4 ⟨Y, m, d, rfl, y⟩
    rw [← HE.out]
    rw [← HL.out] at y
    replace b0 := b0.next y.below
    replace bq := bq.next y.below
    replace hb0 := next hb0 y.below
    replace hq := hq.nx y.below
    have ys := y.sl
    clear y
    obtain ⟨p0, p1, p2, p3⟩ := prt_cells b0
    go_wp2_with fail
    refine (rseal_any l0 l1 l2 l3 A0 A1 A2 A3 _ _ _ _ c0 c1 c2 c3 w4 (hp.nx hb0).s0 (hp.nx hb0).s1 (hp.nx hb0).s2 (hp.nx hb0).s3 HN.out.k0 HN.out.k1 HN.out.k3 HN.out.z0 HN.out.z1 HN.out.z2 HN.out.z3 (by omega) (by omega)).mono ?_
    rintro e w5 ⟨Z, k, f, rfl, z⟩
    rw [← HE.out]
    rw [← HL.out] at z
    replace b0 := b0.next z.below
    replace bq := bq.next z.below
    replace hb0 := next hb0 z.below
    replace hq := hq.nx z.below
    have u1 := u8_str (ys.nx z.below) d
    have u2 := u8_str z.sl f
    clear z ys p0 p1 p2 p3
    have whq := bq.whole
    have wh0 := b0.whole
    go_wp2_with (first
      | (refine wpList_load_want (by rfl) 24 _ rfl _ _ rfl C _ whq Tryd.underlying24 rfl (by rw [size_prt, HCL.out]) ?_)
      | (refine wpList_load_want (by rfl) 24 _ rfl _ _ rfl (prtC A0 l0.length c0 A1 l1.length c1 A2 l2.length c2 A3 l3.length c3) _ wh0 Tryd.underlying24 rfl (by rw [size_prt, HPL.out]) ?_))
    rw [HC.out]
    refine (psame_any A0 c0 l0 A1 c1 l1 A2 c2 l2 A3 c3 l3 X0 d0 X1 d1 X2 d2 X3 d3 _ (hp.nx hb0) hq).mono ?_
    rintro e w8 ⟨rfl, hb8⟩
    replace hb0 := next hb0 hb8
    clear hb8 whq wh0
    go_wp2_with fail
    refine (awake7_any _ (HT.out.next hb0)).mono ?_
    rintro e w9 ⟨rfl, hb9⟩
    go_wp2
    go_ret
    exact ⟨rfl, next hb0 hb9⟩

theorem boxSeals_walk (v : Value) (w : World) (hT : TabC w) (h : PartsIn w v) :
    Calls Tryd.prog 3 #[v] w fun e w' => e = .returned (.bool true) ∧ Below w.heap.size w w' := by
  obtain ⟨A0, n0, c0, l0, A1, n1, c1, l1, A2, n2, c2, l2, A3, n3, c3, l3, rfl, i0, i1, i2, i3⟩ := h
  have e0 := i0.len
  have e1 := i1.len
  have e2 := i2.len
  have e3 := i3.len
  subst e0; subst e1; subst e2; subst e3
  have r0 := i0.room
  have r1 := i1.room
  have r2 := i2.room
  have r3 := i3.room
  have k0 := i0.cap
  have k1 := i1.cap
  have k2 := i2.cap
  have k3 := i3.cap
  exact boxSeals_st A0 c0 l0 A1 c1 l1 A2 c2 l2 A3 c3 l3 w hT ⟨i0.sl, i1.sl, i2.sl, i3.sl⟩ ⟨k0, k1, k2, k3, i0.none_, i1.none_, i2.none_, i3.none_⟩ (by omega) (by omega) (by omega) (by omega)

end Go.Proofs.YtgafdlcncojeoaaDoor
