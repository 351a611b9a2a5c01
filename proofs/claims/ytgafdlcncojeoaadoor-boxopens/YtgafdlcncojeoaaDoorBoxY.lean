/- same of a Parts; awake. -/
import Derived.Test.YtgafdlcncojeoaaDoorBoxX
namespace Go.Proofs.YtgafdlcncojeoaaDoor
set_option maxRecDepth 100000
open Go.RowKit
set_option linter.unusedVariables false
set_option linter.unusedSimpArgs false

set_option maxHeartbeats 1000000 in
theorem psame_any (A0 : Option Addr) (c0 : Nat) (l0 : List UInt8) (A1 : Option Addr) (c1 : Nat) (l1 : List UInt8) (A2 : Option Addr) (c2 : Nat) (l2 : List UInt8) (A3 : Option Addr) (c3 : Nat) (l3 : List UInt8)
    (X0 : Option Addr) (d0 : Nat) (X1 : Option Addr) (d1 : Nat) (X2 : Option Addr) (d2 : Nat) (X3 : Option Addr) (d3 : Nat) (w : World) (hp : Prt w A0 c0 l0 A1 c1 l1 A2 c2 l2 A3 c3 l3) (hx : Prt w X0 d0 l0 X1 d1 l1 X2 d2 l2 X3 d3 l3) :
    Calls Tryd.prog 12 #[.agg (prtC X0 l0.length d0 X1 l1.length d1 X2 l2.length d2 X3 l3.length d3).toArray, .agg (prtC A0 l0.length c0 A1 l1.length c1 A2 l2.length c2 A3 l3.length c3).toArray] w fun e w' => e = .returned (.bool true) ∧ Below w.heap.size w w' := by
  obtain ⟨W0, hW0⟩ : ∃ W, W = w.alloc (.cells (prtC X0 l0.length d0 X1 l1.length d1 X2 l2.length d2 X3 l3.length d3).toArray 24) := ⟨_, rfl⟩
  have b0 : Bl W0 w.heap.size (prtC X0 l0.length d0 X1 l1.length d1 X2 l2.length d2 X3 l3.length d3) 24 := by rw [hW0]; exact Bl.new _ _ _
  have hb0 : Below w.heap.size w W0 := by rw [hW0]; exact (Below.refl _ w).alloc (Nat.le_refl _) _
  have HW0 : Hid (w.alloc (.cells #[.slice X0 l0.length d0, .slice X1 l1.length d1, .slice X2 l2.length d2, .slice X3 l3.length d3] 24) = W0) := hW0.symm
  obtain ⟨W1, hW1⟩ : ∃ W, W = W0.alloc (.cells (prtC A0 l0.length c0 A1 l1.length c1 A2 l2.length c2 A3 l3.length c3).toArray 24) := ⟨_, rfl⟩
  have b1 : Bl W1 W0.heap.size (prtC A0 l0.length c0 A1 l1.length c1 A2 l2.length c2 A3 l3.length c3) 24 := by rw [hW1]; exact Bl.new _ _ _
  have hb1 : Below W0.heap.size W0 W1 := by rw [hW1]; exact (Below.refl _ W0).alloc (Nat.le_refl _) _
  have HW1 : Hid (W0.alloc (.cells #[.slice A0 l0.length c0, .slice A1 l1.length c1, .slice A2 l2.length c2, .slice A3 l3.length c3] 24) = W1) := hW1.symm
  have b0n := b0.next hb1
  have hbw := next hb0 hb1
  have HA1 : Hid (#[Value.slice X0 l0.length d0, .slice X1 l1.length d1, .slice X2 l2.length d2, .slice X3 l3.length d3] = (prtC X0 l0.length d0 X1 l1.length d1 X2 l2.length d2 X3 l3.length d3).toArray) := (rfl : _ = _)
  obtain ⟨q0, q1, q2, q3⟩ := prt_cells b0n
  obtain ⟨r0, r1, r2, r3⟩ := prt_cells b1
  have u0 := u8_str (hp.s0.nx hbw) c0
  have u1 := u8_str (hp.s1.nx hbw) c1
  have u2 := u8_str (hp.s2.nx hbw) c2
  have u3 := u8_str (hp.s3.nx hbw) c3
  have v0 := u8_str (hx.s0.nx hbw) d0
  have v1 := u8_str (hx.s1.nx hbw) d1
  have v2 := u8_str (hx.s2.nx hbw) d2
  have v3 := u8_str (hx.s3.nx hbw) d3
  obtain ⟨gr, hgr⟩ : ∃ g, g = W0.heap.size := ⟨_, rfl⟩
  rw [← hgr] at r0 r1 r2 r3
  have HGR := Lib.hid hgr
  clear hW0 hW1 b0 b1 b0n hp hx hb0 hb1 hgr
  go_enter Tryd.func12, Tryd.ntmps12
  unfold prtC
  go_wp2_with (first | (rw [HW0.out]) | (rw [HW1.out, ← HGR.out]))
  go_ret
  exact ⟨rfl, hbw⟩

/-- make([]byte, n), as one operation. -/
theorem wp_make_bytes {o : Oper} {a : Act} {w : World} {K : Act → World → Prop} {Q : Exit → Act → World → Prop} (l c : Operand) (hop : o.op = .makeSlice 22 l c) (n : Nat) (hl : a.eval l = .int .i64 (n : Int)) (hc : a.eval c = .int .i64 (n : Int)) (hn : n ≤ 1000000)
    (hK : ∀ w', Sl w' w'.heap.size (some ⟨w.heap.size, 0, none⟩) n (cb (List.replicate n 0)) → Below w.heap.size w w' → K (a.put o.dst (.slice (some ⟨w.heap.size, 0, none⟩) n n)) w') : Oper.wp Tryd.prog o a w K Q := by
  obtain ⟨i0, hi, hz0, hz1, hz2⟩ := info_parts u8_info
  obtain ⟨w', hrun, r1, r2⟩ := run_make_full (P := Tryd.prog) w w.heap.size 22 5 i0 (.int .u8 0) 1 Tryd.underlying22 hi hz0 hz1 .i64 .i64 n (by rw [hz2]; omega) (by unfold maxLen; omega) (Nat.le_refl _)
  obtain ⟨b1, hb1⟩ := made_block1 (n := n) (by unfold maxLen; omega) r1 r2
  unfold Oper.wp
  simp [execOp, hop, hl, hc, hrun, Result.andThen]
  exact hK w' ((b1.sl (o := 0) (n := n) (by rw [List.drop_zero, List.take_of_length_le (by rw [cb_len]; simp)]) (by rw [cb_len]; simp)).up b1.lt) hb1

set_option maxHeartbeats 1000000 in
theorem awake7_any (w : World) (hT : TabC w) : Calls Tryd.prog 8 #[] w fun e w' => e = .returned (.bool true) ∧ Below w.heap.size w w' := by
  obtain ⟨KK, hKK⟩ : ∃ K : List UInt8, K = List.replicate 32 0 := ⟨_, rfl⟩
  obtain ⟨NN, hNN⟩ : ∃ K : List UInt8, K = List.replicate 12 0 := ⟨_, rfl⟩
  have hfit : fitK KK NN = true := by rw [hKK, hNN]; rfl
  obtain ⟨B, hB⟩ : ∃ B, B = boxL KK NN [] [] := ⟨_, rfl⟩
  have HBL : Hid (B.length = 16) := by unfold Hid; rw [hB, boxL_len]; rfl
  have HS : Hid (sealR KK NN [] [] = B ∧ sealE KK NN = 0) := by unfold Hid sealR sealE; rw [if_pos hfit, if_pos hfit, hB]; exact ⟨rfl, rfl⟩
  have HO : Hid (openR KK NN [] B = [] ∧ openE KK NN [] B = 0) := by unfold Hid; rw [hB]; exact open_box KK NN [] [] hfit
  have HZ : Hid (openR KK NN [] [] = [] ∧ openE KK NN [] [] = 3) := by unfold Hid openR openE; rw [if_pos hfit, if_pos hfit]; exact ⟨rfl, rfl⟩
  have HKK := Lib.hid hKK
  have HNN := Lib.hid hNN
  have HT := Lib.hid hT
  clear hB hfit hKK hNN hT
  go_enter Tryd.func8, Tryd.ntmps8
  go_wp2_with fail
  refine wp_region_any (by kernel_rfl) ?_
  change wpAny _ _ _ _ _ _ _ (World.drew _)
  obtain ⟨W0, hW0⟩ : ∃ W, W = w.drew := ⟨_, rfl⟩
  have hb0 : Below w.heap.size w W0 := by rw [hW0]; exact (Below.refl _ w).drew
  rw [← hW0]
  clear hW0
  refine wpAny_ready (rs := [0, 1]) (by kernel_rfl) (by simp) (AllReady.cons rfl (fun K hK => ?_) (AllReady.cons rfl (fun K hK => ?_) AllReady.nil))
  simp only [List.getElem_toArray, List.getElem_cons_succ, List.getElem_cons_zero, Act.put, List.setIfInBounds_toArray, List.set_cons_zero, List.set_cons_succ]
  rw [if_pos (by rfl)]
  refine wp_make_bytes _ _ rfl 32 rfl rfl (by decide) ?_
  intro w1a sk hbA
  refine hK _ _ ?_
  clear hK K
  simp only [List.getElem_toArray, List.getElem_cons_succ, List.getElem_cons_zero, Act.put, List.setIfInBounds_toArray, List.set_cons_zero, List.set_cons_succ]
  refine wpAny_one (i := 1) (by kernel_rfl) rfl (by rfl) (fun K hK => ?_)
  simp only [List.getElem_toArray, List.getElem_cons_succ, List.getElem_cons_zero, Act.put, List.setIfInBounds_toArray, List.set_cons_zero, List.set_cons_succ]
  refine wp_make_bytes _ _ rfl 12 rfl rfl (by decide) ?_
  intro w1b sn hbB
  refine hK.out _ _ ?_
  clear hK K
  simp only [List.getElem_toArray, List.getElem_cons_succ, List.getElem_cons_zero, Act.put, List.setIfInBounds_toArray, List.set_cons_zero, List.set_cons_succ]
  have s1 := sk.nx hbB
  have s2 := sn
  rotate_left 1
  simp only [List.getElem_toArray, List.getElem_cons_succ, List.getElem_cons_zero, Act.put, List.setIfInBounds_toArray, List.set_cons_zero, List.set_cons_succ]
  rw [if_pos (by rfl)]
  refine wp_make_bytes _ _ rfl 12 rfl rfl (by decide) ?_
  intro w1a sn hbA
  refine hK _ _ ?_
  clear hK K
  simp only [List.getElem_toArray, List.getElem_cons_succ, List.getElem_cons_zero, Act.put, List.setIfInBounds_toArray, List.set_cons_zero, List.set_cons_succ]
  refine wpAny_one (i := 0) (by kernel_rfl) rfl (by rfl) (fun K hK => ?_)
  simp only [List.getElem_toArray, List.getElem_cons_succ, List.getElem_cons_zero, Act.put, List.setIfInBounds_toArray, List.set_cons_zero, List.set_cons_succ]
  refine wp_make_bytes _ _ rfl 32 rfl rfl (by decide) ?_
  intro w1b sk hbB
  refine hK.out _ _ ?_
  clear hK K
  simp only [List.getElem_toArray, List.getElem_cons_succ, List.getElem_cons_zero, Act.put, List.setIfInBounds_toArray, List.set_cons_zero, List.set_cons_succ]
  have s1 := sk
  have s2 := sn.nx hbB
  all_goals
    replace hb0 := next (next hb0 hbA) hbB
    rw [← HKK.out] at s1
    rw [← HNN.out] at s2
    clear sk sn hbA hbB
    refine wpAny_one (i := 2) (by kernel_rfl) rfl (by rfl) (fun K hK => ?_)
    simp only [List.getElem_toArray, List.getElem_cons_succ, List.getElem_cons_zero, Act.put, List.setIfInBounds_toArray, List.set_cons_zero, List.set_cons_succ]
    go_simp
    refine (seal_any KK NN [] [] _ _ none none 32 12 0 0 32 12 0 0 _ s1 s2 Sl.nil_ Sl.nil_ (Nat.le_refl _) (Nat.le_refl _) (Nat.le_refl _) (by intro h; cases h) (by intro h; cases h) (fun _ => rfl) (by omega) (by omega) (HT.out.next hb0)).mono ?_
    rintro e w2 ⟨X, n, d, rfl, x⟩
    rw [HS.out.2]
    rw [HS.out.1] at x
    obtain rfl : n = 16 := x.len.trans HBL.out
    replace hb0 := next hb0 x.below
    have sb := x.sl
    have cb0 := x.cap
    have zb := x.none_
    refine hK.out _ _ ?_
    clear hK K x s1 s2
    refine wpAny_take (i := 3) (v := (.tuple #[.slice X 16 d, .int .i64 0])) rfl (by kernel_rfl) (by kernel_rfl) (by kernel_rfl) (fun _ _ _ h => h) (Or.inl ⟨by rfl, fun _ => by go_simp⟩) ?_
    simp only [List.getElem_toArray, List.getElem_cons_succ, List.getElem_cons_zero, Act.put, List.setIfInBounds_toArray, List.set_cons_zero, List.set_cons_succ]
    refine wpAny_take (i := 4) (v := (.slice X 16 d)) rfl (by kernel_rfl) (by kernel_rfl) (by kernel_rfl) (fun _ _ _ h => h) (Or.inl ⟨by rfl, fun _ => by go_simp⟩) ?_
    simp only [List.getElem_toArray, List.getElem_cons_succ, List.getElem_cons_zero, Act.put, List.setIfInBounds_toArray, List.set_cons_zero, List.set_cons_succ]
    refine wpAny_take (i := 5) (v := (.int .i64 0)) rfl (by kernel_rfl) (by kernel_rfl) (by kernel_rfl) (fun _ _ _ h => h) (Or.inl ⟨by rfl, fun _ => by go_simp⟩) ?_
    simp only [List.getElem_toArray, List.getElem_cons_succ, List.getElem_cons_zero, Act.put, List.setIfInBounds_toArray, List.set_cons_zero, List.set_cons_succ]
    refine wpAny_take (i := 6) (v := (.slice X 16 d)) rfl (by kernel_rfl) (by kernel_rfl) (by kernel_rfl) (fun _ _ _ h => h) (Or.inl ⟨by rfl, fun _ => by go_simp⟩) ?_
    simp only [List.getElem_toArray, List.getElem_cons_succ, List.getElem_cons_zero, Act.put, List.setIfInBounds_toArray, List.set_cons_zero, List.set_cons_succ]
    refine wpAny_take (i := 7) (v := (.int .i64 0)) rfl (by kernel_rfl) (by kernel_rfl) (by kernel_rfl) (fun _ _ _ h => h) (Or.inl ⟨by rfl, fun _ => by go_simp⟩) ?_
    simp only [List.getElem_toArray, List.getElem_cons_succ, List.getElem_cons_zero, Act.put, List.setIfInBounds_toArray, List.set_cons_zero, List.set_cons_succ]
    refine wpAny_done (by kernel_rfl) ?_ _
    go_wp2_with fail
    refine wp_region_any (by kernel_rfl) ?_
    change wpAny _ _ _ _ _ _ _ (World.drew _)
    obtain ⟨W2, hW2⟩ : ∃ W, W = w2.drew := ⟨_, rfl⟩
    have hbd : Below w2.heap.size w2 W2 := by rw [hW2]; exact (Below.refl _ w2).drew
    rw [← hW2]
    replace hb0 := next hb0 hbd
    replace sb := sb.nx hbd
    clear hW2 hbd
    refine wpAny_take (i := 2) (v := (.slice X 16 d)) rfl (by kernel_rfl) (by kernel_rfl) (by kernel_rfl) (fun _ _ _ h => h) (Or.inl ⟨by rfl, fun _ => by go_simp⟩) ?_
    simp only [List.getElem_toArray, List.getElem_cons_succ, List.getElem_cons_zero, Act.put, List.setIfInBounds_toArray, List.set_cons_zero, List.set_cons_succ]
    refine wpAny_ready (rs := [0, 1]) (by kernel_rfl) (by simp) (AllReady.cons rfl (fun K hK => ?_) (AllReady.cons rfl (fun K hK => ?_) AllReady.nil))
    simp only [List.getElem_toArray, List.getElem_cons_succ, List.getElem_cons_zero, Act.put, List.setIfInBounds_toArray, List.set_cons_zero, List.set_cons_succ]
    rw [if_pos (by rfl)]
    refine wp_make_bytes _ _ rfl 32 rfl rfl (by decide) ?_
    intro w3a sk hbA
    refine hK _ _ ?_
    clear hK K
    simp only [List.getElem_toArray, List.getElem_cons_succ, List.getElem_cons_zero, Act.put, List.setIfInBounds_toArray, List.set_cons_zero, List.set_cons_succ]
    refine wpAny_one (i := 1) (by kernel_rfl) rfl (by rfl) (fun K hK => ?_)
    simp only [List.getElem_toArray, List.getElem_cons_succ, List.getElem_cons_zero, Act.put, List.setIfInBounds_toArray, List.set_cons_zero, List.set_cons_succ]
    refine wp_make_bytes _ _ rfl 12 rfl rfl (by decide) ?_
    intro w3b sn hbB
    refine hK.out _ _ ?_
    clear hK K
    simp only [List.getElem_toArray, List.getElem_cons_succ, List.getElem_cons_zero, Act.put, List.setIfInBounds_toArray, List.set_cons_zero, List.set_cons_succ]
    have s1 := sk.nx hbB
    have s2 := sn
    rotate_left 1
    simp only [List.getElem_toArray, List.getElem_cons_succ, List.getElem_cons_zero, Act.put, List.setIfInBounds_toArray, List.set_cons_zero, List.set_cons_succ]
    rw [if_pos (by rfl)]
    refine wp_make_bytes _ _ rfl 12 rfl rfl (by decide) ?_
    intro w3a sn hbA
    refine hK _ _ ?_
    clear hK K
    simp only [List.getElem_toArray, List.getElem_cons_succ, List.getElem_cons_zero, Act.put, List.setIfInBounds_toArray, List.set_cons_zero, List.set_cons_succ]
    refine wpAny_one (i := 0) (by kernel_rfl) rfl (by rfl) (fun K hK => ?_)
    simp only [List.getElem_toArray, List.getElem_cons_succ, List.getElem_cons_zero, Act.put, List.setIfInBounds_toArray, List.set_cons_zero, List.set_cons_succ]
    refine wp_make_bytes _ _ rfl 32 rfl rfl (by decide) ?_
    intro w3b sk hbB
    refine hK.out _ _ ?_
    clear hK K
    simp only [List.getElem_toArray, List.getElem_cons_succ, List.getElem_cons_zero, Act.put, List.setIfInBounds_toArray, List.set_cons_zero, List.set_cons_succ]
    have s1 := sk
    have s2 := sn.nx hbB
    all_goals
      replace hb0 := next (next hb0 hbA) hbB
      replace sb := (sb.nx hbA).nx hbB
      rw [← HKK.out] at s1
      rw [← HNN.out] at s2
      clear sk sn hbA hbB
      refine wpAny_one (i := 3) (by kernel_rfl) rfl (by rfl) (fun K hK => ?_)
      simp only [List.getElem_toArray, List.getElem_cons_succ, List.getElem_cons_zero, Act.put, List.setIfInBounds_toArray, List.set_cons_zero, List.set_cons_succ]
      go_simp
      refine (open_any KK NN [] B _ _ none X 32 12 0 16 32 12 0 d _ s1 s2 Sl.nil_ sb (Nat.le_refl _) (Nat.le_refl _) cb0 (by intro h; cases h) (by intro h; cases h) zb (by omega) (by omega) (HT.out.next hb0)).mono ?_
      rintro e w4 ⟨Y, m, dy, rfl, y⟩
      rw [HO.out.2]
      rw [HO.out.1] at y
      obtain rfl : m = 0 := y.len
      replace hb0 := next hb0 y.below
      refine hK.out _ _ ?_
      clear hK K y s1 s2 sb
      refine wpAny_take (i := 4) (v := (.tuple #[.slice Y 0 dy, .int .i64 0])) rfl (by kernel_rfl) (by kernel_rfl) (by kernel_rfl) (fun _ _ _ h => h) (Or.inl ⟨by rfl, fun _ => by go_simp⟩) ?_
      simp only [List.getElem_toArray, List.getElem_cons_succ, List.getElem_cons_zero, Act.put, List.setIfInBounds_toArray, List.set_cons_zero, List.set_cons_succ]
      refine wpAny_take (i := 5) (v := (.slice Y 0 dy)) rfl (by kernel_rfl) (by kernel_rfl) (by kernel_rfl) (fun _ _ _ h => h) (Or.inl ⟨by rfl, fun _ => by go_simp⟩) ?_
      simp only [List.getElem_toArray, List.getElem_cons_succ, List.getElem_cons_zero, Act.put, List.setIfInBounds_toArray, List.set_cons_zero, List.set_cons_succ]
      refine wpAny_take (i := 6) (v := (.int .i64 0)) rfl (by kernel_rfl) (by kernel_rfl) (by kernel_rfl) (fun _ _ _ h => h) (Or.inl ⟨by rfl, fun _ => by go_simp⟩) ?_
      simp only [List.getElem_toArray, List.getElem_cons_succ, List.getElem_cons_zero, Act.put, List.setIfInBounds_toArray, List.set_cons_zero, List.set_cons_succ]
      refine wpAny_take (i := 7) (v := (.slice Y 0 dy)) rfl (by kernel_rfl) (by kernel_rfl) (by kernel_rfl) (fun _ _ _ h => h) (Or.inl ⟨by rfl, fun _ => by go_simp⟩) ?_
      simp only [List.getElem_toArray, List.getElem_cons_succ, List.getElem_cons_zero, Act.put, List.setIfInBounds_toArray, List.set_cons_zero, List.set_cons_succ]
      refine wpAny_take (i := 8) (v := (.int .i64 0)) rfl (by kernel_rfl) (by kernel_rfl) (by kernel_rfl) (fun _ _ _ h => h) (Or.inl ⟨by rfl, fun _ => by go_simp⟩) ?_
      simp only [List.getElem_toArray, List.getElem_cons_succ, List.getElem_cons_zero, Act.put, List.setIfInBounds_toArray, List.set_cons_zero, List.set_cons_succ]
      refine wpAny_done (by kernel_rfl) ?_ _
      go_wp2_with fail
      refine wp_region_any (by kernel_rfl) ?_
      change wpAny _ _ _ _ _ _ _ (World.drew _)
      obtain ⟨W4, hW4⟩ : ∃ W, W = w4.drew := ⟨_, rfl⟩
      have hbd : Below w4.heap.size w4 W4 := by rw [hW4]; exact (Below.refl _ w4).drew
      rw [← hW4]
      replace hb0 := next hb0 hbd
      clear hW4 hbd
      refine wpAny_ready (rs := [0, 1]) (by kernel_rfl) (by simp) (AllReady.cons rfl (fun K hK => ?_) (AllReady.cons rfl (fun K hK => ?_) AllReady.nil))
      simp only [List.getElem_toArray, List.getElem_cons_succ, List.getElem_cons_zero, Act.put, List.setIfInBounds_toArray, List.set_cons_zero, List.set_cons_succ]
      rw [if_pos (by rfl)]
      refine wp_make_bytes _ _ rfl 32 rfl rfl (by decide) ?_
      intro w5a sk hbA
      refine hK _ _ ?_
      clear hK K
      simp only [List.getElem_toArray, List.getElem_cons_succ, List.getElem_cons_zero, Act.put, List.setIfInBounds_toArray, List.set_cons_zero, List.set_cons_succ]
      refine wpAny_one (i := 1) (by kernel_rfl) rfl (by rfl) (fun K hK => ?_)
      simp only [List.getElem_toArray, List.getElem_cons_succ, List.getElem_cons_zero, Act.put, List.setIfInBounds_toArray, List.set_cons_zero, List.set_cons_succ]
      refine wp_make_bytes _ _ rfl 12 rfl rfl (by decide) ?_
      intro w5b sn hbB
      refine hK.out _ _ ?_
      clear hK K
      simp only [List.getElem_toArray, List.getElem_cons_succ, List.getElem_cons_zero, Act.put, List.setIfInBounds_toArray, List.set_cons_zero, List.set_cons_succ]
      have s1 := sk.nx hbB
      have s2 := sn
      rotate_left 1
      simp only [List.getElem_toArray, List.getElem_cons_succ, List.getElem_cons_zero, Act.put, List.setIfInBounds_toArray, List.set_cons_zero, List.set_cons_succ]
      rw [if_pos (by rfl)]
      refine wp_make_bytes _ _ rfl 12 rfl rfl (by decide) ?_
      intro w5a sn hbA
      refine hK _ _ ?_
      clear hK K
      simp only [List.getElem_toArray, List.getElem_cons_succ, List.getElem_cons_zero, Act.put, List.setIfInBounds_toArray, List.set_cons_zero, List.set_cons_succ]
      refine wpAny_one (i := 0) (by kernel_rfl) rfl (by rfl) (fun K hK => ?_)
      simp only [List.getElem_toArray, List.getElem_cons_succ, List.getElem_cons_zero, Act.put, List.setIfInBounds_toArray, List.set_cons_zero, List.set_cons_succ]
      refine wp_make_bytes _ _ rfl 32 rfl rfl (by decide) ?_
      intro w5b sk hbB
      refine hK.out _ _ ?_
      clear hK K
      simp only [List.getElem_toArray, List.getElem_cons_succ, List.getElem_cons_zero, Act.put, List.setIfInBounds_toArray, List.set_cons_zero, List.set_cons_succ]
      have s1 := sk
      have s2 := sn.nx hbB
      all_goals
        replace hb0 := next (next hb0 hbA) hbB
        rw [← HKK.out] at s1
        rw [← HNN.out] at s2
        clear sk sn hbA hbB
        refine wpAny_one (i := 2) (by kernel_rfl) rfl (by rfl) (fun K hK => ?_)
        simp only [List.getElem_toArray, List.getElem_cons_succ, List.getElem_cons_zero, Act.put, List.setIfInBounds_toArray, List.set_cons_zero, List.set_cons_succ]
        go_simp
        refine (open_any KK NN [] [] _ _ none none 32 12 0 0 32 12 0 0 _ s1 s2 Sl.nil_ Sl.nil_ (Nat.le_refl _) (Nat.le_refl _) (Nat.le_refl _) (by intro h; cases h) (by intro h; cases h) (fun _ => rfl) (by omega) (by omega) (HT.out.next hb0)).mono ?_
        rintro e w6 ⟨Z, q, dz, rfl, z⟩
        rw [HZ.out.2]
        replace hb0 := next hb0 z.below
        refine hK.out _ _ ?_
        clear hK K z s1 s2
        refine wpAny_take (i := 3) (v := (.tuple #[.slice Z q dz, .int .i64 3])) rfl (by kernel_rfl) (by kernel_rfl) (by kernel_rfl) (fun _ _ _ h => h) (Or.inl ⟨by rfl, fun _ => by go_simp⟩) ?_
        simp only [List.getElem_toArray, List.getElem_cons_succ, List.getElem_cons_zero, Act.put, List.setIfInBounds_toArray, List.set_cons_zero, List.set_cons_succ]
        refine wpAny_take (i := 4) (v := (.slice Z q dz)) rfl (by kernel_rfl) (by kernel_rfl) (by kernel_rfl) (fun _ _ _ h => h) (Or.inl ⟨by rfl, fun _ => by go_simp⟩) ?_
        simp only [List.getElem_toArray, List.getElem_cons_succ, List.getElem_cons_zero, Act.put, List.setIfInBounds_toArray, List.set_cons_zero, List.set_cons_succ]
        refine wpAny_take (i := 5) (v := (.int .i64 3)) rfl (by kernel_rfl) (by kernel_rfl) (by kernel_rfl) (fun _ _ _ h => h) (Or.inl ⟨by rfl, fun _ => by go_simp⟩) ?_
        simp only [List.getElem_toArray, List.getElem_cons_succ, List.getElem_cons_zero, Act.put, List.setIfInBounds_toArray, List.set_cons_zero, List.set_cons_succ]
        refine wpAny_take (i := 6) (v := (.slice Z q dz)) rfl (by kernel_rfl) (by kernel_rfl) (by kernel_rfl) (fun _ _ _ h => h) (Or.inl ⟨by rfl, fun _ => by go_simp⟩) ?_
        simp only [List.getElem_toArray, List.getElem_cons_succ, List.getElem_cons_zero, Act.put, List.setIfInBounds_toArray, List.set_cons_zero, List.set_cons_succ]
        refine wpAny_take (i := 7) (v := (.int .i64 3)) rfl (by kernel_rfl) (by kernel_rfl) (by kernel_rfl) (fun _ _ _ h => h) (Or.inl ⟨by rfl, fun _ => by go_simp⟩) ?_
        simp only [List.getElem_toArray, List.getElem_cons_succ, List.getElem_cons_zero, Act.put, List.setIfInBounds_toArray, List.set_cons_zero, List.set_cons_succ]
        refine wpAny_done (by kernel_rfl) ?_ _
        go_wp2
        go_ret
        exact ⟨rfl, hb0⟩

end Go.Proofs.YtgafdlcncojeoaaDoor
