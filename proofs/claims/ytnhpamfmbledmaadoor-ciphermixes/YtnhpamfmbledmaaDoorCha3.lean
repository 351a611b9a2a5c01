/- The walk of the law CipherMixes. -/
import Derived.Test.YtnhpamfmbledmaaDoorChaX
namespace Go.Proofs.YtnhpamfmbledmaaDoor
open Go.RowKit
set_option linter.unusedVariables false
set_option linter.unusedSimpArgs false

set_option maxRecDepth 100000 in
set_option maxHeartbeats 1000000 in
theorem cipherMixes_st (A0 : Option Addr) (n0 c0 : Nat) (l0 : List UInt8) (A1 : Option Addr) (n1 c1 : Nat) (l1 : List UInt8) (f : Int) (A3 : Option Addr) (n3 c3 : Nat) (l3 : List UInt8) (w : World) (hT : TabC w)
    (s0 : InBytes w A0 n0 c0 l0) (s1 : InBytes w A1 n1 c1 l1) (wf : (Lit.int .u32 f).wf = true) (s3 : InBytes w A3 n3 c3 l3) :
    Calls Tryd.prog 5 #[.agg #[.slice A0 n0 c0, .slice A1 n1 c1, .int .u32 f, .slice A3 n3 c3]] w fun e w' => e = .returned (.bool true) ∧ Below w.heap.size w w' := by
  obtain ⟨bf0, bf1⟩ := bounds_u32 wf
  obtain ⟨F, rfl⟩ := Int.eq_ofNat_of_zero_le bf0
  have hF : F < 4294967296 := by omega
  clear wf bf0 bf1
  have y0 := s0.sl
  have z0 := s0.none_
  have e0 := s0.len
  have y1 := s1.sl
  have z1 := s1.none_
  have e1 := s1.len
  have y3 := s3.sl
  have z3 := s3.none_
  have e3 := s3.len
  have r0 := s0.room
  have r1 := s1.room
  have r3 := s3.room
  have k0 := s0.cap
  have k1 := s1.cap
  have k3 := s3.cap
  clear s0 s1 s3
  subst e0; subst e1; subst e3
  have HT := Lib.hid hT
  clear hT
  obtain ⟨W0, hW0⟩ : ∃ W, W = w.alloc (.cells (stcC A0 l0.length c0 A1 l1.length c1 (F : Int) A3 l3.length c3).toArray 40) := ⟨_, rfl⟩
  have b0 : Bl W0 w.heap.size (stcC A0 l0.length c0 A1 l1.length c1 (F : Int) A3 l3.length c3) 40 := by rw [hW0]; exact Bl.new _ _ _
  have hb0 : Below w.heap.size w W0 := by rw [hW0]; exact (Below.refl _ w).alloc (Nat.le_refl _) _
  have HW0 : Hid (w.alloc (.cells #[.slice A0 l0.length c0, .slice A1 l1.length c1, .int .u32 (F : Int), .slice A3 l3.length c3] 40) = W0) := hW0.symm
  clear hW0
  obtain ⟨q0, q1, q2, q3⟩ := stc_cells b0
  by_cases hbig : 4000 < l3.length
  · have hd : decide (4000 < (l3.length : Int)) = true := by simp; omega
    clear hbig
    go_enter Tryd.func5, Tryd.ntmps5
    go_wp2_with (go_at_call 11; rw [HW0.out]; refine (awake5_any _ (HT.out.next hb0)).mono ?_; rintro e w' ⟨rfl, hb⟩)
    go_ret
    exact ⟨rfl, next hb0 hb⟩
  · have hd : decide (4000 < (l3.length : Int)) = false := by simp; omega
    have hl3 : l3.length ≤ 4000 := by omega
    clear hbig
    obtain ⟨S, hSd⟩ : ∃ S : World → Prop, S = fun w' => w'.cell? ⟨w.heap.size, 0, none⟩ = some (.slice A0 l0.length c0) ∧ w'.cell? ⟨w.heap.size, 1, none⟩ = some (.slice A1 l1.length c1) ∧ w'.cell? ⟨w.heap.size, 2, none⟩ = some (.int .u32 (F : Int)) ∧ w'.cell? ⟨w.heap.size, 3, none⟩ = some (.slice A3 l3.length c3) := ⟨_, rfl⟩
    have HSI : Hid (∀ w', Below W0.heap.size W0 w' → S w') := by unfold Hid; intro w' hb; rw [hSd]; exact stc_cells (b0.next hb)
    have HS0 : Hid (∀ w', S w' → w'.cell? ⟨w.heap.size, 0, none⟩ = some (.slice A0 l0.length c0)) := by unfold Hid; intro w' h; rw [hSd] at h; exact h.1
    have HS1 : Hid (∀ w', S w' → w'.cell? ⟨w.heap.size, 1, none⟩ = some (.slice A1 l1.length c1)) := by unfold Hid; intro w' h; rw [hSd] at h; exact h.2.1
    have HS2 : Hid (∀ w', S w' → w'.cell? ⟨w.heap.size, 2, none⟩ = some (.int .u32 (F : Int))) := by unfold Hid; intro w' h; rw [hSd] at h; exact h.2.2.1
    have HS3 : Hid (∀ w', S w' → w'.cell? ⟨w.heap.size, 3, none⟩ = some (.slice A3 l3.length c3)) := by unfold Hid; intro w' h; rw [hSd] at h; exact h.2.2.2
    clear hSd
    have HB0 := Lib.hid b0
    clear b0
    obtain ⟨E, hE⟩ : ∃ E, E = mixE l0 l1 F l3 := ⟨_, rfl⟩
    obtain ⟨L, hL⟩ : ∃ L, L = mixR l0 l1 F l3 := ⟨_, rfl⟩
    have HE := Lib.hid hE
    have HL := Lib.hid hL
    clear hE hL
    have hEE : (E == E) = true := by simp
    go_enter Tryd.func5, Tryd.ntmps5
    go_wp2_with fail
    rw [HW0.out]
    refine (own_any l3 _ _ _ _ _ (y3.nx hb0) z3 (by omega) (Nat.le_refl _)).mono ?_
    rintro e w1 ⟨X3, d3, rfl, h3'⟩
    have hb1 := h3'.below
    have x3 := h3'.sl
    have f3 := h3'.none_
    have g3 := own_cap h3'.own
    clear h3' q0 q1 q2 q3
    go_wp2_with fail
    have hbd : Below W0.heap.size W0 w1.drew := hb1.drew
    have hS := HSI.out _ hbd
    have x3d : Sl w1.drew w1.drew.heap.size X3 l3.length (cb l3) := x3
    refine wp_region_held_drew (S := S) (by kernel_rfl) hS (fun _ => ?_)
    refine wpAnyH_take (i := 0) (v := (.pointer (some ⟨w.heap.size, 0, none⟩))) rfl (by kernel_rfl) (by kernel_rfl) (by kernel_rfl) (fun _ _ _ h => h) (Or.inl ⟨by rfl, fun _ hSw => by go_simp⟩) hS ?_
    simp only [List.getElem_toArray, List.getElem_cons_succ, List.getElem_cons_zero, Act.put, List.setIfInBounds_toArray, List.set_cons_zero, List.set_cons_succ]
    refine wpAnyH_take (i := 1) (v := .slice A0 l0.length c0) rfl (by kernel_rfl) (by kernel_rfl) (by kernel_rfl) (fun _ _ _ h => h) (Or.inl ⟨by rfl, fun w' hSw => by have hq := HS0.out w' hSw; go_simp⟩) hS ?_
    simp only [List.getElem_toArray, List.getElem_cons_succ, List.getElem_cons_zero, Act.put, List.setIfInBounds_toArray, List.set_cons_zero, List.set_cons_succ]
    refine wpAnyH_take (i := 3) (v := (.pointer (some ⟨w.heap.size, 1, none⟩))) rfl (by kernel_rfl) (by kernel_rfl) (by kernel_rfl) (fun _ _ _ h => h) (Or.inl ⟨by rfl, fun _ hSw => by go_simp⟩) hS ?_
    simp only [List.getElem_toArray, List.getElem_cons_succ, List.getElem_cons_zero, Act.put, List.setIfInBounds_toArray, List.set_cons_zero, List.set_cons_succ]
    refine wpAnyH_take (i := 4) (v := .slice A1 l1.length c1) rfl (by kernel_rfl) (by kernel_rfl) (by kernel_rfl) (fun _ _ _ h => h) (Or.inl ⟨by rfl, fun w' hSw => by have hq := HS1.out w' hSw; go_simp⟩) hS ?_
    simp only [List.getElem_toArray, List.getElem_cons_succ, List.getElem_cons_zero, Act.put, List.setIfInBounds_toArray, List.set_cons_zero, List.set_cons_succ]
    refine wpAnyH_take (i := 6) (v := (.pointer (some ⟨w.heap.size, 2, none⟩))) rfl (by kernel_rfl) (by kernel_rfl) (by kernel_rfl) (fun _ _ _ h => h) (Or.inl ⟨by rfl, fun _ hSw => by go_simp⟩) hS ?_
    simp only [List.getElem_toArray, List.getElem_cons_succ, List.getElem_cons_zero, Act.put, List.setIfInBounds_toArray, List.set_cons_zero, List.set_cons_succ]
    refine wpAnyH_take (i := 7) (v := .int .u32 (F : Int)) rfl (by kernel_rfl) (by kernel_rfl) (by kernel_rfl) (fun _ _ _ h => h) (Or.inl ⟨by rfl, fun w' hSw => by have hq := HS2.out w' hSw; go_simp⟩) hS ?_
    simp only [List.getElem_toArray, List.getElem_cons_succ, List.getElem_cons_zero, Act.put, List.setIfInBounds_toArray, List.set_cons_zero, List.set_cons_succ]
    refine wpAnyH_take (i := 8) (v := (.slice X3 l3.length d3)) rfl (by kernel_rfl) (by kernel_rfl) (by kernel_rfl) (fun _ _ _ h => h) (Or.inl ⟨by rfl, fun _ hSw => by go_simp⟩) hS ?_
    simp only [List.getElem_toArray, List.getElem_cons_succ, List.getElem_cons_zero, Act.put, List.setIfInBounds_toArray, List.set_cons_zero, List.set_cons_succ]
    refine wpAnyH_ready (rs := [2]) (by kernel_rfl) (by simp) (AllReadyH.cons rfl (fun K hK => ?_) AllReadyH.nil)
    simp only [List.getElem_toArray, List.getElem_cons_succ, List.getElem_cons_zero, Act.put, List.setIfInBounds_toArray, List.set_cons_zero, List.set_cons_succ]
    go_simp
    refine (own_any l0 _ _ _ _ _ (y0.nx (next hb0 hbd)) z0 (by omega) (Nat.le_refl _)).mono ?_
    rintro e w2 ⟨X0, d0, rfl, h2⟩
    have hb2 := next hbd h2.below
    have x0 := h2.sl
    have f0 := h2.none_
    have g0 := own_cap h2.own
    have x3e := x3d.nx h2.below
    replace hS := HSI.out _ hb2
    refine hK.out _ _ hS (fun _ => ?_)
    clear hK K h2 hbd x3d x3
    refine wpAnyH_ready (rs := [5]) (by kernel_rfl) (by simp) (AllReadyH.cons rfl (fun K hK => ?_) AllReadyH.nil)
    simp only [List.getElem_toArray, List.getElem_cons_succ, List.getElem_cons_zero, Act.put, List.setIfInBounds_toArray, List.set_cons_zero, List.set_cons_succ]
    go_simp
    refine (own_any l1 _ _ _ _ _ (y1.nx (next hb0 hb2)) z1 (by omega) (Nat.le_refl _)).mono ?_
    rintro e w3 ⟨X1, d1, rfl, h3⟩
    have hb3 := next hb2 h3.below
    replace x0 := x0.nx h3.below
    have x1 := h3.sl
    have f1 := h3.none_
    have g1 := own_cap h3.own
    replace x3e := x3e.nx h3.below
    replace hS := HSI.out _ hb3
    refine hK.out _ _ hS (fun _ => ?_)
    clear hK K h3 hb2
    refine wpAnyH_ready (rs := [9]) (by kernel_rfl) (by simp) (AllReadyH.cons rfl (fun K hK => ?_) AllReadyH.nil)
    simp only [List.getElem_toArray, List.getElem_cons_succ, List.getElem_cons_zero, Act.put, List.setIfInBounds_toArray, List.set_cons_zero, List.set_cons_succ]
    go_simp
    refine (mix_any l0 l1 l3 F _ _ _ _ _ _ _ _ _ _ hF x0 x1 x3e g0 g1 g3 f0 f1 f3 (by omega) (HT.out.next (next hb0 hb3))).mono ?_
    rintro e w4 ⟨X4, n4, d4, rfl, h4⟩
    rw [← HE.out]
    rw [← HL.out] at h4
    have hb4 := next hb3 h4.below
    have x4 := h4.sl
    replace x3e := x3e.nx h4.below
    replace hS := HSI.out _ hb4
    refine hK.out _ _ hS (fun _ => ?_)
    clear hK K h4 hb3 x0 x1
    refine wpAnyH_take (i := 10) (v := (.tuple #[.slice X4 n4 d4, .int .i64 E])) rfl (by kernel_rfl) (by kernel_rfl) (by kernel_rfl) (fun _ _ _ h => h) (Or.inl ⟨by rfl, fun _ hSw => by go_simp⟩) hS ?_
    simp only [List.getElem_toArray, List.getElem_cons_succ, List.getElem_cons_zero, Act.put, List.setIfInBounds_toArray, List.set_cons_zero, List.set_cons_succ]
    refine wpAnyH_take (i := 11) (v := (.slice X4 n4 d4)) rfl (by kernel_rfl) (by kernel_rfl) (by kernel_rfl) (fun _ _ _ h => h) (Or.inl ⟨by rfl, fun _ hSw => by go_simp⟩) hS ?_
    simp only [List.getElem_toArray, List.getElem_cons_succ, List.getElem_cons_zero, Act.put, List.setIfInBounds_toArray, List.set_cons_zero, List.set_cons_succ]
    refine wpAnyH_take (i := 12) (v := (.int .i64 E)) rfl (by kernel_rfl) (by kernel_rfl) (by kernel_rfl) (fun _ _ _ h => h) (Or.inl ⟨by rfl, fun _ hSw => by go_simp⟩) hS ?_
    simp only [List.getElem_toArray, List.getElem_cons_succ, List.getElem_cons_zero, Act.put, List.setIfInBounds_toArray, List.set_cons_zero, List.set_cons_succ]
    refine wpAnyH_take (i := 13) (v := (.slice X4 n4 d4)) rfl (by kernel_rfl) (by kernel_rfl) (by kernel_rfl) (fun _ _ _ h => h) (Or.inl ⟨by rfl, fun _ hSw => by go_simp⟩) hS ?_
    simp only [List.getElem_toArray, List.getElem_cons_succ, List.getElem_cons_zero, Act.put, List.setIfInBounds_toArray, List.set_cons_zero, List.set_cons_succ]
    refine wpAnyH_take (i := 14) (v := (.int .i64 E)) rfl (by kernel_rfl) (by kernel_rfl) (by kernel_rfl) (fun _ _ _ h => h) (Or.inl ⟨by rfl, fun _ hSw => by go_simp⟩) hS ?_
    simp only [List.getElem_toArray, List.getElem_cons_succ, List.getElem_cons_zero, Act.put, List.setIfInBounds_toArray, List.set_cons_zero, List.set_cons_succ]
    refine wpAnyH_done (by kernel_rfl) ?_ _
    clear hS HSI HS0 HS1 HS2 HS3
    obtain ⟨q0, q1, q2, q3⟩ := stc_cells (HB0.out.next hb4)
    have hb5 := next hb0 hb4
    go_wp2_with fail
    refine (rmix_any l0 l1 l3 F _ _ _ _ _ _ _ _ _ _ hF (y0.nx hb5) (y1.nx hb5) (y3.nx hb5) k0 k1 z0 z1 (by omega)).mono ?_
    rintro e w6 ⟨X6, n6, d6, rfl, h6⟩
    rw [← HE.out]
    rw [← HL.out] at h6
    have hb6 := next hb4 h6.below
    have hb7 := next hb0 hb6
    have u4 := u8_str (x4.nx h6.below) d4
    have u6 := u8_str h6.sl d6
    have u3 := u8_str (x3e.nx h6.below) d3
    have v3 := u8_str (y3.nx hb7) c3
    clear h6 q0 q1 q2 q3 hb4 hb5 x4 x3e
    obtain ⟨q0, q1, q2, q3⟩ := stc_cells (HB0.out.next hb6)
    go_wp2_with fail
    refine (awake5_any _ (HT.out.next hb7)).mono ?_
    rintro e w9 ⟨rfl, hb9⟩
    clear u3 u4 u6 v3 q0 q1 q2 q3
    go_wp2
    go_ret
    exact ⟨rfl, next hb7 hb9⟩

theorem cipherMixes_walk (v : Value) (w : World) (hT : TabC w) (h : StretchIn w v) :
    Calls Tryd.prog 5 #[v] w fun e w' => e = .returned (.bool true) ∧ Below w.heap.size w w' := by
  obtain ⟨A0, n0, c0, l0, A1, n1, c1, l1, f, A3, n3, c3, l3, rfl, i0, i1, hf, i3⟩ := h
  exact cipherMixes_st A0 n0 c0 l0 A1 n1 c1 l1 f A3 n3 c3 l3 w hT i0 i1 hf i3

end Go.Proofs.YtnhpamfmbledmaaDoor
