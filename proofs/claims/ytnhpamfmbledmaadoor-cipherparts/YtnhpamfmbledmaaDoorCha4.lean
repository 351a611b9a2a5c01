/- The walk of the law CipherTwice. -/
import Derived.Test.YtnhpamfmbledmaaDoorChaX
namespace Go.Proofs.YtnhpamfmbledmaaDoor
open Go.RowKit
set_option linter.unusedVariables false
set_option linter.unusedSimpArgs false

theorem mixL_twice (key nonce : List UInt8) (f : Nat) (b : List UInt8) : mixL key nonce f (mixL key nonce f b) = b := by
  apply List.ext_getElem?
  intro i
  by_cases hi : i < b.length
  · have h1 : (mixL key nonce f (mixL key nonce f b))[i]? = some ((mixL key nonce f (mixL key nonce f b)).getD i 0) := by
      have : i < (mixL key nonce f (mixL key nonce f b)).length := by rw [mixL_len, mixL_len]; exact hi
      simp [this]
    rw [h1, mixL_at _ _ _ _ _ (by rw [mixL_len]; exact hi), mixL_at _ _ _ _ _ hi, UInt8.xor_assoc, UInt8.xor_self, UInt8.xor_zero]
    simp [hi]
  · rw [List.getElem?_eq_none (by rw [mixL_len, mixL_len]; omega), List.getElem?_eq_none (by omega)]

theorem mix_ok (key nonce : List UInt8) (f : Nat) (b : List UInt8) (h : mixE key nonce f b = 0) : mixR key nonce f b = mixL key nonce f b ∧ fitK key nonce = true ∧ blksN b.length ≤ 4294967296 - f := by
  unfold mixE at h
  unfold mixR
  by_cases h1 : fitK key nonce = true
  · rw [if_pos h1] at h ⊢
    by_cases h2 : blksN b.length ≤ 4294967296 - f
    · rw [if_pos h2]; exact ⟨rfl, h1, h2⟩
    · rw [if_neg h2] at h; exact absurd h (by decide)
  · rw [if_neg h1] at h; exact absurd h (by decide)
theorem mix_bad (key nonce : List UInt8) (f : Nat) (b : List UInt8) (h : ¬ mixE key nonce f b = 0) : mixR key nonce f b = [] := by
  unfold mixE at h
  unfold mixR
  by_cases h1 : fitK key nonce = true
  · rw [if_pos h1] at h ⊢
    by_cases h2 : blksN b.length ≤ 4294967296 - f
    · rw [if_pos h2] at h; exact absurd rfl h
    · rw [if_neg h2]
  · rw [if_neg h1]
theorem mix_fits (key nonce : List UInt8) (f : Nat) (b : List UInt8) (h1 : fitK key nonce = true) (h2 : blksN b.length ≤ 4294967296 - f) : mixR key nonce f b = mixL key nonce f b ∧ mixE key nonce f b = 0 := by
  unfold mixR mixE
  rw [if_pos h1, if_pos h2, if_pos h1, if_pos h2]
  exact ⟨rfl, rfl⟩
theorem mix_twice (key nonce : List UInt8) (f : Nat) (b : List UInt8) (h : mixE key nonce f b = 0) : (mixR key nonce f b).length = b.length ∧ mixR key nonce f (mixR key nonce f b) = b ∧ mixE key nonce f (mixR key nonce f b) = 0 := by
  obtain ⟨e1, e2, e3⟩ := mix_ok key nonce f b h
  have hl : (mixR key nonce f b).length = b.length := by rw [e1, mixL_len]
  obtain ⟨g1, g2⟩ := mix_fits key nonce f (mixR key nonce f b) e2 (by rw [hl]; exact e3)
  exact ⟨hl, by rw [g1, e1, mixL_twice], g2⟩

set_option maxRecDepth 100000 in
set_option maxHeartbeats 1000000 in
theorem cipherTwice_st (A0 : Option Addr) (n0 c0 : Nat) (l0 : List UInt8) (A1 : Option Addr) (n1 c1 : Nat) (l1 : List UInt8) (f : Int) (A3 : Option Addr) (n3 c3 : Nat) (l3 : List UInt8) (w : World) (hT : TabC w)
    (s0 : InBytes w A0 n0 c0 l0) (s1 : InBytes w A1 n1 c1 l1) (wf : (Lit.int .u32 f).wf = true) (s3 : InBytes w A3 n3 c3 l3) :
    Calls Tryd.prog 6 #[.agg #[.slice A0 n0 c0, .slice A1 n1 c1, .int .u32 f, .slice A3 n3 c3]] w fun e w' => e = .returned (.bool true) ∧ Below w.heap.size w w' := by
  obtain ⟨bf0, bf1⟩ := bounds_u32 wf
  obtain ⟨F, rfl⟩ := Int.eq_ofNat_of_zero_le bf0
  have hF : F < 4294967296 := by omega
  clear wf bf0 bf1
  have y0 := s0.sl
  have z0 := s0.none_
  have e0 := s0.len
  have y1 := s1.sl
  have z1 := s1.none_
  have e1 := s1.len
  have y3 := s3.sl
  have z3 := s3.none_
  have e3 := s3.len
  have r0 := s0.room
  have r1 := s1.room
  have r3 := s3.room
  have k0 := s0.cap
  have k1 := s1.cap
  have k3 := s3.cap
  clear s0 s1 s3
  subst e0; subst e1; subst e3
  have HT := Lib.hid hT
  clear hT
  obtain ⟨W0, hW0⟩ : ∃ W, W = w.alloc (.cells (stcC A0 l0.length c0 A1 l1.length c1 (F : Int) A3 l3.length c3).toArray 40) := ⟨_, rfl⟩
  have b0 : Bl W0 w.heap.size (stcC A0 l0.length c0 A1 l1.length c1 (F : Int) A3 l3.length c3) 40 := by rw [hW0]; exact Bl.new _ _ _
  have hb0 : Below w.heap.size w W0 := by rw [hW0]; exact (Below.refl _ w).alloc (Nat.le_refl _) _
  have HW0 : Hid (w.alloc (.cells #[.slice A0 l0.length c0, .slice A1 l1.length c1, .int .u32 (F : Int), .slice A3 l3.length c3] 40) = W0) := hW0.symm
  clear hW0
  obtain ⟨q0, q1, q2, q3⟩ := stc_cells b0
  by_cases hbig : 4000 < l3.length
  · have hd : decide (4000 < (l3.length : Int)) = true := by simp; omega
    clear hbig
    go_enter Tryd.func6, Tryd.ntmps6
    go_wp2_with (go_at_call 11; rw [HW0.out]; refine (awake5_any _ (HT.out.next hb0)).mono ?_; rintro e w' ⟨rfl, hb⟩)
    go_ret
    exact ⟨rfl, next hb0 hb⟩
  · have hd : decide (4000 < (l3.length : Int)) = false := by simp; omega
    have hl3 : l3.length ≤ 4000 := by omega
    clear hbig
    obtain ⟨S, hSd⟩ : ∃ S : World → Prop, S = fun w' => w'.cell? ⟨w.heap.size, 0, none⟩ = some (.slice A0 l0.length c0) ∧ w'.cell? ⟨w.heap.size, 1, none⟩ = some (.slice A1 l1.length c1) ∧ w'.cell? ⟨w.heap.size, 2, none⟩ = some (.int .u32 (F : Int)) ∧ w'.cell? ⟨w.heap.size, 3, none⟩ = some (.slice A3 l3.length c3) := ⟨_, rfl⟩
    have HSI : Hid (∀ w', Below W0.heap.size W0 w' → S w') := by unfold Hid; intro w' hb; rw [hSd]; exact stc_cells (b0.next hb)
    have HS0 : Hid (∀ w', S w' → w'.cell? ⟨w.heap.size, 0, none⟩ = some (.slice A0 l0.length c0)) := by unfold Hid; intro w' h; rw [hSd] at h; exact h.1
    have HS1 : Hid (∀ w', S w' → w'.cell? ⟨w.heap.size, 1, none⟩ = some (.slice A1 l1.length c1)) := by unfold Hid; intro w' h; rw [hSd] at h; exact h.2.1
    have HS2 : Hid (∀ w', S w' → w'.cell? ⟨w.heap.size, 2, none⟩ = some (.int .u32 (F : Int))) := by unfold Hid; intro w' h; rw [hSd] at h; exact h.2.2.1
    have HS3 : Hid (∀ w', S w' → w'.cell? ⟨w.heap.size, 3, none⟩ = some (.slice A3 l3.length c3)) := by unfold Hid; intro w' h; rw [hSd] at h; exact h.2.2.2
    clear hSd
    have HB0 := Lib.hid b0
    clear b0
    obtain ⟨E, hE⟩ : ∃ E, E = mixE l0 l1 F l3 := ⟨_, rfl⟩
    obtain ⟨L, hL⟩ : ∃ L, L = mixR l0 l1 F l3 := ⟨_, rfl⟩
    have HC : Hid ((E = 0 ∧ L.length = l3.length ∧ mixR l0 l1 F L = l3 ∧ mixE l0 l1 F L = 0) ∨ (E ≠ 0 ∧ L = [])) := by
      unfold Hid
      by_cases h : mixE l0 l1 F l3 = 0
      · obtain ⟨h1, h2, h3⟩ := mix_twice l0 l1 F l3 h
        rw [hE, hL]; exact .inl ⟨h, h1, h2, h3⟩
      · rw [hE, hL]; exact .inr ⟨h, mix_bad _ _ _ _ h⟩
    have HE := Lib.hid hE
    have HL := Lib.hid hL
    clear hE hL
    go_enter Tryd.func6, Tryd.ntmps6
    go_wp2_with fail
    rw [HW0.out]
    clear q0 q1 q2 q3
    have hbd : Below W0.heap.size W0 W0.drew := (Below.refl _ W0).drew
    have hS := HSI.out _ hbd
    refine wp_region_held_drew (S := S) (by kernel_rfl) hS (fun _ => ?_)
    refine wpAnyH_take (i := 0) (v := (.pointer (some ⟨w.heap.size, 0, none⟩))) rfl (by kernel_rfl) (by kernel_rfl) (by kernel_rfl) (fun _ _ _ h => h) (Or.inl ⟨by rfl, fun _ hSw => by go_simp⟩) hS ?_
    simp only [List.getElem_toArray, List.getElem_cons_succ, List.getElem_cons_zero, Act.put, List.setIfInBounds_toArray, List.set_cons_zero, List.set_cons_succ]
    refine wpAnyH_take (i := 1) (v := .slice A0 l0.length c0) rfl (by kernel_rfl) (by kernel_rfl) (by kernel_rfl) (fun _ _ _ h => h) (Or.inl ⟨by rfl, fun w' hSw => by have hq := HS0.out w' hSw; go_simp⟩) hS ?_
    simp only [List.getElem_toArray, List.getElem_cons_succ, List.getElem_cons_zero, Act.put, List.setIfInBounds_toArray, List.set_cons_zero, List.set_cons_succ]
    refine wpAnyH_take (i := 3) (v := (.pointer (some ⟨w.heap.size, 1, none⟩))) rfl (by kernel_rfl) (by kernel_rfl) (by kernel_rfl) (fun _ _ _ h => h) (Or.inl ⟨by rfl, fun _ hSw => by go_simp⟩) hS ?_
    simp only [List.getElem_toArray, List.getElem_cons_succ, List.getElem_cons_zero, Act.put, List.setIfInBounds_toArray, List.set_cons_zero, List.set_cons_succ]
    refine wpAnyH_take (i := 4) (v := .slice A1 l1.length c1) rfl (by kernel_rfl) (by kernel_rfl) (by kernel_rfl) (fun _ _ _ h => h) (Or.inl ⟨by rfl, fun w' hSw => by have hq := HS1.out w' hSw; go_simp⟩) hS ?_
    simp only [List.getElem_toArray, List.getElem_cons_succ, List.getElem_cons_zero, Act.put, List.setIfInBounds_toArray, List.set_cons_zero, List.set_cons_succ]
    refine wpAnyH_take (i := 6) (v := (.pointer (some ⟨w.heap.size, 2, none⟩))) rfl (by kernel_rfl) (by kernel_rfl) (by kernel_rfl) (fun _ _ _ h => h) (Or.inl ⟨by rfl, fun _ hSw => by go_simp⟩) hS ?_
    simp only [List.getElem_toArray, List.getElem_cons_succ, List.getElem_cons_zero, Act.put, List.setIfInBounds_toArray, List.set_cons_zero, List.set_cons_succ]
    refine wpAnyH_take (i := 7) (v := .int .u32 (F : Int)) rfl (by kernel_rfl) (by kernel_rfl) (by kernel_rfl) (fun _ _ _ h => h) (Or.inl ⟨by rfl, fun w' hSw => by have hq := HS2.out w' hSw; go_simp⟩) hS ?_
    simp only [List.getElem_toArray, List.getElem_cons_succ, List.getElem_cons_zero, Act.put, List.setIfInBounds_toArray, List.set_cons_zero, List.set_cons_succ]
    refine wpAnyH_take (i := 8) (v := (.pointer (some ⟨w.heap.size, 3, none⟩))) rfl (by kernel_rfl) (by kernel_rfl) (by kernel_rfl) (fun _ _ _ h => h) (Or.inl ⟨by rfl, fun _ hSw => by go_simp⟩) hS ?_
    simp only [List.getElem_toArray, List.getElem_cons_succ, List.getElem_cons_zero, Act.put, List.setIfInBounds_toArray, List.set_cons_zero, List.set_cons_succ]
    refine wpAnyH_take (i := 9) (v := .slice A3 l3.length c3) rfl (by kernel_rfl) (by kernel_rfl) (by kernel_rfl) (fun _ _ _ h => h) (Or.inl ⟨by rfl, fun w' hSw => by have hq := HS3.out w' hSw; go_simp⟩) hS ?_
    simp only [List.getElem_toArray, List.getElem_cons_succ, List.getElem_cons_zero, Act.put, List.setIfInBounds_toArray, List.set_cons_zero, List.set_cons_succ]
    refine wpAnyH_ready (rs := [2]) (by kernel_rfl) (by simp) (AllReadyH.cons rfl (fun K hK => ?_) AllReadyH.nil)
    simp only [List.getElem_toArray, List.getElem_cons_succ, List.getElem_cons_zero, Act.put, List.setIfInBounds_toArray, List.set_cons_zero, List.set_cons_succ]
    go_simp
    refine (own_any l0 _ _ _ _ _ (y0.nx (next hb0 hbd)) z0 (by omega) (Nat.le_refl _)).mono ?_
    rintro e w2 ⟨X0, d0, rfl, h2⟩
    have hb2 := next hbd h2.below
    have x0 := h2.sl
    have f0 := h2.none_
    have g0 := own_cap h2.own
    replace hS := HSI.out _ hb2
    refine hK.out _ _ hS (fun _ => ?_)
    clear hK K h2 hbd
    refine wpAnyH_ready (rs := [5]) (by kernel_rfl) (by simp) (AllReadyH.cons rfl (fun K hK => ?_) AllReadyH.nil)
    simp only [List.getElem_toArray, List.getElem_cons_succ, List.getElem_cons_zero, Act.put, List.setIfInBounds_toArray, List.set_cons_zero, List.set_cons_succ]
    go_simp
    refine (own_any l1 _ _ _ _ _ (y1.nx (next hb0 hb2)) z1 (by omega) (Nat.le_refl _)).mono ?_
    rintro e w3 ⟨X1, d1, rfl, h3⟩
    have hb3 := next hb2 h3.below
    replace x0 := x0.nx h3.below
    have x1 := h3.sl
    have f1 := h3.none_
    have g1 := own_cap h3.own
    replace hS := HSI.out _ hb3
    refine hK.out _ _ hS (fun _ => ?_)
    clear hK K h3 hb2
    refine wpAnyH_ready (rs := [10]) (by kernel_rfl) (by simp) (AllReadyH.cons rfl (fun K hK => ?_) AllReadyH.nil)
    simp only [List.getElem_toArray, List.getElem_cons_succ, List.getElem_cons_zero, Act.put, List.setIfInBounds_toArray, List.set_cons_zero, List.set_cons_succ]
    go_simp
    refine (own_any l3 _ _ _ _ _ (y3.nx (next hb0 hb3)) z3 (by omega) (Nat.le_refl _)).mono ?_
    rintro e w4 ⟨X3, d3, rfl, h4⟩
    have hb4 := next hb3 h4.below
    replace x0 := x0.nx h4.below
    replace x1 := x1.nx h4.below
    have x3 := h4.sl
    have f3 := h4.none_
    have g3 := own_cap h4.own
    replace hS := HSI.out _ hb4
    refine hK.out _ _ hS (fun _ => ?_)
    clear hK K h4 hb3
    refine wpAnyH_ready (rs := [11]) (by kernel_rfl) (by simp) (AllReadyH.cons rfl (fun K hK => ?_) AllReadyH.nil)
    simp only [List.getElem_toArray, List.getElem_cons_succ, List.getElem_cons_zero, Act.put, List.setIfInBounds_toArray, List.set_cons_zero, List.set_cons_succ]
    go_simp
    refine (mix_any l0 l1 l3 F _ _ _ _ _ _ _ _ _ _ hF x0 x1 x3 g0 g1 g3 f0 f1 f3 (by omega) (HT.out.next (next hb0 hb4))).mono ?_
    rintro e w5 ⟨X5, n5, d5, rfl, h5⟩
    rw [← HE.out]
    rw [← HL.out] at h5
    have hb5 := next hb4 h5.below
    have x5 := h5.sl
    have f5 := h5.none_
    have g5 := h5.cap
    have e5 := h5.len
    subst e5
    replace hS := HSI.out _ hb5
    refine hK.out _ _ hS (fun _ => ?_)
    clear hK K h5 hb4 x0 x1 x3 f0 f1 f3 g0 g1 g3
    refine wpAnyH_take (i := 12) (v := (.tuple #[.slice X5 L.length d5, .int .i64 E])) rfl (by kernel_rfl) (by kernel_rfl) (by kernel_rfl) (fun _ _ _ h => h) (Or.inl ⟨by rfl, fun _ hSw => by go_simp⟩) hS ?_
    simp only [List.getElem_toArray, List.getElem_cons_succ, List.getElem_cons_zero, Act.put, List.setIfInBounds_toArray, List.set_cons_zero, List.set_cons_succ]
    refine wpAnyH_take (i := 13) (v := (.slice X5 L.length d5)) rfl (by kernel_rfl) (by kernel_rfl) (by kernel_rfl) (fun _ _ _ h => h) (Or.inl ⟨by rfl, fun _ hSw => by go_simp⟩) hS ?_
    simp only [List.getElem_toArray, List.getElem_cons_succ, List.getElem_cons_zero, Act.put, List.setIfInBounds_toArray, List.set_cons_zero, List.set_cons_succ]
    refine wpAnyH_take (i := 14) (v := (.int .i64 E)) rfl (by kernel_rfl) (by kernel_rfl) (by kernel_rfl) (fun _ _ _ h => h) (Or.inl ⟨by rfl, fun _ hSw => by go_simp⟩) hS ?_
    simp only [List.getElem_toArray, List.getElem_cons_succ, List.getElem_cons_zero, Act.put, List.setIfInBounds_toArray, List.set_cons_zero, List.set_cons_succ]
    refine wpAnyH_take (i := 15) (v := (.slice X5 L.length d5)) rfl (by kernel_rfl) (by kernel_rfl) (by kernel_rfl) (fun _ _ _ h => h) (Or.inl ⟨by rfl, fun _ hSw => by go_simp⟩) hS ?_
    simp only [List.getElem_toArray, List.getElem_cons_succ, List.getElem_cons_zero, Act.put, List.setIfInBounds_toArray, List.set_cons_zero, List.set_cons_succ]
    refine wpAnyH_take (i := 16) (v := (.int .i64 E)) rfl (by kernel_rfl) (by kernel_rfl) (by kernel_rfl) (fun _ _ _ h => h) (Or.inl ⟨by rfl, fun _ hSw => by go_simp⟩) hS ?_
    simp only [List.getElem_toArray, List.getElem_cons_succ, List.getElem_cons_zero, Act.put, List.setIfInBounds_toArray, List.set_cons_zero, List.set_cons_succ]
    refine wpAnyH_done (by kernel_rfl) ?_ _
    obtain ⟨q0, q1, q2, q3⟩ := stc_cells (HB0.out.next hb5)
    rcases HC.out with ⟨hE0, hLl, hR2, hE2⟩ | ⟨hE0, hL0⟩
    · have hne : (E != 0) = false := by rw [hE0]; rfl
      have HLL := Lib.hid hLl
      have hLb : L.length ≤ 4000 := by omega
      have HR2 := Lib.hid hR2
      have HE2 := Lib.hid hE2
      clear hE0 hLl hR2 hE2
      go_wp2_with fail
      clear q0 q1 q2 q3
      have hbd : Below W0.heap.size W0 w5.drew := hb5.drew
      have hS := HSI.out _ hbd
      replace x5 : Sl w5.drew w5.drew.heap.size X5 L.length (cb L) := x5
      refine wp_region_held_drew (S := S) (by kernel_rfl) hS (fun _ => ?_)
      refine wpAnyH_take (i := 0) (v := (.pointer (some ⟨w.heap.size, 0, none⟩))) rfl (by kernel_rfl) (by kernel_rfl) (by kernel_rfl) (fun _ _ _ h => h) (Or.inl ⟨by rfl, fun _ hSw => by go_simp⟩) hS ?_
      simp only [List.getElem_toArray, List.getElem_cons_succ, List.getElem_cons_zero, Act.put, List.setIfInBounds_toArray, List.set_cons_zero, List.set_cons_succ]
      refine wpAnyH_take (i := 1) (v := .slice A0 l0.length c0) rfl (by kernel_rfl) (by kernel_rfl) (by kernel_rfl) (fun _ _ _ h => h) (Or.inl ⟨by rfl, fun w' hSw => by have hq := HS0.out w' hSw; go_simp⟩) hS ?_
      simp only [List.getElem_toArray, List.getElem_cons_succ, List.getElem_cons_zero, Act.put, List.setIfInBounds_toArray, List.set_cons_zero, List.set_cons_succ]
      refine wpAnyH_take (i := 3) (v := (.pointer (some ⟨w.heap.size, 1, none⟩))) rfl (by kernel_rfl) (by kernel_rfl) (by kernel_rfl) (fun _ _ _ h => h) (Or.inl ⟨by rfl, fun _ hSw => by go_simp⟩) hS ?_
      simp only [List.getElem_toArray, List.getElem_cons_succ, List.getElem_cons_zero, Act.put, List.setIfInBounds_toArray, List.set_cons_zero, List.set_cons_succ]
      refine wpAnyH_take (i := 4) (v := .slice A1 l1.length c1) rfl (by kernel_rfl) (by kernel_rfl) (by kernel_rfl) (fun _ _ _ h => h) (Or.inl ⟨by rfl, fun w' hSw => by have hq := HS1.out w' hSw; go_simp⟩) hS ?_
      simp only [List.getElem_toArray, List.getElem_cons_succ, List.getElem_cons_zero, Act.put, List.setIfInBounds_toArray, List.set_cons_zero, List.set_cons_succ]
      refine wpAnyH_take (i := 6) (v := (.pointer (some ⟨w.heap.size, 2, none⟩))) rfl (by kernel_rfl) (by kernel_rfl) (by kernel_rfl) (fun _ _ _ h => h) (Or.inl ⟨by rfl, fun _ hSw => by go_simp⟩) hS ?_
      simp only [List.getElem_toArray, List.getElem_cons_succ, List.getElem_cons_zero, Act.put, List.setIfInBounds_toArray, List.set_cons_zero, List.set_cons_succ]
      refine wpAnyH_take (i := 7) (v := .int .u32 (F : Int)) rfl (by kernel_rfl) (by kernel_rfl) (by kernel_rfl) (fun _ _ _ h => h) (Or.inl ⟨by rfl, fun w' hSw => by have hq := HS2.out w' hSw; go_simp⟩) hS ?_
      simp only [List.getElem_toArray, List.getElem_cons_succ, List.getElem_cons_zero, Act.put, List.setIfInBounds_toArray, List.set_cons_zero, List.set_cons_succ]
      refine wpAnyH_take (i := 8) (v := (.slice X5 L.length d5)) rfl (by kernel_rfl) (by kernel_rfl) (by kernel_rfl) (fun _ _ _ h => h) (Or.inl ⟨by rfl, fun _ hSw => by go_simp⟩) hS ?_
      simp only [List.getElem_toArray, List.getElem_cons_succ, List.getElem_cons_zero, Act.put, List.setIfInBounds_toArray, List.set_cons_zero, List.set_cons_succ]
      refine wpAnyH_ready (rs := [2]) (by kernel_rfl) (by simp) (AllReadyH.cons rfl (fun K hK => ?_) AllReadyH.nil)
      simp only [List.getElem_toArray, List.getElem_cons_succ, List.getElem_cons_zero, Act.put, List.setIfInBounds_toArray, List.set_cons_zero, List.set_cons_succ]
      go_simp
      refine (own_any l0 _ _ _ _ _ (y0.nx (next hb0 hbd)) z0 (by omega) (Nat.le_refl _)).mono ?_
      rintro e w2b ⟨X0b, d0b, rfl, h2⟩
      have hb2 := next hbd h2.below
      have x0 := h2.sl
      have f0 := h2.none_
      have g0 := own_cap h2.own
      replace x5 := x5.nx h2.below
      replace hS := HSI.out _ hb2
      refine hK.out _ _ hS (fun _ => ?_)
      clear hK K h2 hbd
      refine wpAnyH_ready (rs := [5]) (by kernel_rfl) (by simp) (AllReadyH.cons rfl (fun K hK => ?_) AllReadyH.nil)
      simp only [List.getElem_toArray, List.getElem_cons_succ, List.getElem_cons_zero, Act.put, List.setIfInBounds_toArray, List.set_cons_zero, List.set_cons_succ]
      go_simp
      refine (own_any l1 _ _ _ _ _ (y1.nx (next hb0 hb2)) z1 (by omega) (Nat.le_refl _)).mono ?_
      rintro e w3b ⟨X1b, d1b, rfl, h3⟩
      have hb3 := next hb2 h3.below
      replace x0 := x0.nx h3.below
      have x1 := h3.sl
      have f1 := h3.none_
      have g1 := own_cap h3.own
      replace x5 := x5.nx h3.below
      replace hS := HSI.out _ hb3
      refine hK.out _ _ hS (fun _ => ?_)
      clear hK K h3 hb2
      refine wpAnyH_ready (rs := [9]) (by kernel_rfl) (by simp) (AllReadyH.cons rfl (fun K hK => ?_) AllReadyH.nil)
      simp only [List.getElem_toArray, List.getElem_cons_succ, List.getElem_cons_zero, Act.put, List.setIfInBounds_toArray, List.set_cons_zero, List.set_cons_succ]
      go_simp
      refine (own_any L _ _ _ _ _ x5 f5 (by omega) (Nat.le_refl _)).mono ?_
      rintro e w4b ⟨X3b, d3b, rfl, h4⟩
      have hb4 := next hb3 h4.below
      replace x0 := x0.nx h4.below
      replace x1 := x1.nx h4.below
      have x3 := h4.sl
      have f3 := h4.none_
      have g3 := own_cap h4.own
      replace x5 := x5.nx h4.below
      replace hS := HSI.out _ hb4
      refine hK.out _ _ hS (fun _ => ?_)
      clear hK K h4 hb3
      refine wpAnyH_ready (rs := [10]) (by kernel_rfl) (by simp) (AllReadyH.cons rfl (fun K hK => ?_) AllReadyH.nil)
      simp only [List.getElem_toArray, List.getElem_cons_succ, List.getElem_cons_zero, Act.put, List.setIfInBounds_toArray, List.set_cons_zero, List.set_cons_succ]
      go_simp
      refine (mix_any l0 l1 L F _ _ _ _ _ _ _ _ _ _ hF x0 x1 x3 g0 g1 g3 f0 f1 f3 (by omega) (HT.out.next (next hb0 hb4))).mono ?_
      rintro e w5b ⟨X5b, n5b, d5b, rfl, h5⟩
      rw [HE2.out]
      rw [HR2.out] at h5
      have hb6 := next hb4 h5.below
      have x6 := h5.sl
      replace hS := HSI.out _ hb6
      refine hK.out _ _ hS (fun _ => ?_)
      have e6 := h5.len
      subst e6
      clear hK K h5 hb4 x0 x1 x3 f0 f1 f3 g0 g1 g3 hb5
      refine wpAnyH_take (i := 11) (v := (.tuple #[.slice X5b l3.length d5b, .int .i64 0])) rfl (by kernel_rfl) (by kernel_rfl) (by kernel_rfl) (fun _ _ _ h => h) (Or.inl ⟨by rfl, fun _ hSw => by go_simp⟩) hS ?_
      simp only [List.getElem_toArray, List.getElem_cons_succ, List.getElem_cons_zero, Act.put, List.setIfInBounds_toArray, List.set_cons_zero, List.set_cons_succ]
      refine wpAnyH_take (i := 12) (v := (.slice X5b l3.length d5b)) rfl (by kernel_rfl) (by kernel_rfl) (by kernel_rfl) (fun _ _ _ h => h) (Or.inl ⟨by rfl, fun _ hSw => by go_simp⟩) hS ?_
      simp only [List.getElem_toArray, List.getElem_cons_succ, List.getElem_cons_zero, Act.put, List.setIfInBounds_toArray, List.set_cons_zero, List.set_cons_succ]
      refine wpAnyH_take (i := 13) (v := (.int .i64 0)) rfl (by kernel_rfl) (by kernel_rfl) (by kernel_rfl) (fun _ _ _ h => h) (Or.inl ⟨by rfl, fun _ hSw => by go_simp⟩) hS ?_
      simp only [List.getElem_toArray, List.getElem_cons_succ, List.getElem_cons_zero, Act.put, List.setIfInBounds_toArray, List.set_cons_zero, List.set_cons_succ]
      refine wpAnyH_take (i := 14) (v := (.slice X5b l3.length d5b)) rfl (by kernel_rfl) (by kernel_rfl) (by kernel_rfl) (fun _ _ _ h => h) (Or.inl ⟨by rfl, fun _ hSw => by go_simp⟩) hS ?_
      simp only [List.getElem_toArray, List.getElem_cons_succ, List.getElem_cons_zero, Act.put, List.setIfInBounds_toArray, List.set_cons_zero, List.set_cons_succ]
      refine wpAnyH_take (i := 15) (v := (.int .i64 0)) rfl (by kernel_rfl) (by kernel_rfl) (by kernel_rfl) (fun _ _ _ h => h) (Or.inl ⟨by rfl, fun _ hSw => by go_simp⟩) hS ?_
      simp only [List.getElem_toArray, List.getElem_cons_succ, List.getElem_cons_zero, Act.put, List.setIfInBounds_toArray, List.set_cons_zero, List.set_cons_succ]
      refine wpAnyH_done (by kernel_rfl) ?_ _
      obtain ⟨q0, q1, q2, q3⟩ := stc_cells (HB0.out.next hb6)
      have hb7 := next hb0 hb6
      have u6 := u8_str x6 d5b
      have v3 := u8_str (y3.nx hb7) c3
      have hlen : ((L.length : Int) == (l3.length : Int)) = true := by rw [HLL.out]; simp
      clear HSI HS0 HS1 HS2 HS3
      go_wp2_with fail
      refine (awake5_any _ (HT.out.next hb7)).mono ?_
      rintro e w9 ⟨rfl, hb9⟩
      clear u6 v3 q0 q1 q2 q3
      go_wp2
      go_ret
      exact ⟨rfl, next hb7 hb9⟩
    · have hne : (E != 0) = true := by simp; exact hE0
      have hlen : ((L.length : Int) == 0) = true := by rw [hL0]; rfl
      clear hE0 hL0
      have hb6 := next hb0 hb5
      clear HSI HS0 HS1 HS2 HS3
      go_wp2_with fail
      refine (awake5_any _ (HT.out.next hb6)).mono ?_
      rintro e w9 ⟨rfl, hb9⟩
      go_wp2
      go_ret
      exact ⟨rfl, next hb6 hb9⟩

theorem cipherTwice_walk (v : Value) (w : World) (hT : TabC w) (h : StretchIn w v) :
    Calls Tryd.prog 6 #[v] w fun e w' => e = .returned (.bool true) ∧ Below w.heap.size w w' := by
  obtain ⟨A0, n0, c0, l0, A1, n1, c1, l1, f, A3, n3, c3, l3, rfl, i0, i1, hf, i3⟩ := h
  exact cipherTwice_st A0 n0 c0 l0 A1 n1 c1 l1 f A3 n3 c3 l3 w hT i0 i1 hf i3

end Go.Proofs.YtnhpamfmbledmaaDoor
