/- The walk of the law MacLong. -/
import Derived.Test.YtnhpedgolgdoiaaDoorMac3
import Derived.Test.YtnhpedgolgdoiaaDoorMacZ
namespace Go.Proofs.YtnhpedgolgdoiaaDoor
open Go.RowKit
set_option linter.unusedVariables false
set_option linter.unusedSimpArgs false

set_option maxRecDepth 100000 in
set_option maxHeartbeats 2000000 in
theorem macLong_walk (A0 : Option Addr) (n0 c0 : Nat) (l0 : List UInt8) (A1 : Option Addr) (n1 c1 : Nat) (l1 : List UInt8) (w : World) (hT : Tabs w)
    (s0 : InBytes w A0 n0 c0 l0) (s1 : InBytes w A1 n1 c1 l1) :
    Calls Tryd.prog 6 #[.slice A0 n0 c0, .slice A1 n1 c1] w fun e w' => e = .returned (.bool true) ∧ Below w.heap.size w w' := by
  obtain ⟨i0, hi, hz0, hz1, hz2⟩ := info_parts u8_info
  have y0 := s0.sl
  have z0 := s0.none_
  have e0 := s0.len
  have y1 := s1.sl
  have z1 := s1.none_
  have e1 := s1.len
  have r0 := s0.room
  have r1 := s1.room
  have p0 := s0.cap
  have p1 := s1.cap
  clear s0 s1
  subst e0; subst e1
  have HT := Lib.hid hT
  clear hT
  by_cases hbig : l0.length ≤ 4000 ∧ l1.length ≤ 4000
  · obtain ⟨b0, b1⟩ := hbig
    have HM := Lib.hid (hmac_len l0 l1)
    obtain ⟨M, hM⟩ : ∃ M, M = hmac l0 l1 := ⟨_, rfl⟩
    rw [← hM] at HM
    have HMM := Lib.hid hM
    clear hM
    have q0 : decide (4000 < (l0.length : Int)) = false := by simp; omega
    have q1 : decide (4000 < (l1.length : Int)) = false := by simp; omega
    have HI := Lib.hid hi
    clear hi
    go_enter Tryd.func6, Tryd.ntmps6
    go_wp2_with fail
    refine (own_any l0 _ _ _ _ _ y0 z0 (by omega) (Nat.le_refl _)).mono ?_
    rintro e w1 ⟨X1, d1, rfl, h1⟩
    have hb1 := h1.below
    have x1 := h1.sl
    have f1 := h1.none_
    have g1 := own_cap h1.own
    clear h1
    go_wp2_with fail
    refine (own_any l1 _ _ _ _ _ (y1.below hb1) z1 (by omega) hb1.size).mono ?_
    rintro e w2 ⟨X2, d2, rfl, h2⟩
    have hb2 := next hb1 h2.below
    replace x1 := x1.nx h2.below
    go_wp2_with fail
    obtain ⟨hp, hbp⟩ := list_one 22 h2.sl (own_cap h2.own) h2.none_
    replace hb2 := next hb2 hbp
    replace x1 := x1.nx hbp
    clear hb1 h2 hbp
    refine (tag_any l0 [l1] _ _ _ _ _ _ _ _ _ x1 g1 f1 (Nat.le_refl _) (by omega) hp (Nat.le_refl _) (by omega) (HT.out.next hb2) (by simp; omega)).mono ?_
    rintro e w3 ⟨rfl, hbp⟩
    rw [show [l1].flatten = l1 by simp, ← HMM.out]
    have hb3 := next hb2 hbp
    clear hp x1 f1 g1 hbp hb2
    have hn3 := (Bl.new w3 (zeros .u8 32) 28)
    obtain ⟨W4, hW4⟩ : ∃ W, W = (w3.alloc (.cells (zeros .u8 32).toArray 28)).setCells w3.heap.size 0 (cb M) := ⟨_, rfl⟩
    have b4 : Bl W4 w3.heap.size (cb M) 28 := by rw [hW4]; exact hn3.over (by rw [cb_len, HM.out, zeros_len])
    have hb4' : Below w3.heap.size w3 W4 := by rw [hW4]; exact below_setCells ((Below.refl _ w3).alloc (Nat.le_refl _) _) (Nat.le_refl _) _ _
    have hb4 := next hb3 hb4'
    have HW4 := Lib.hid hW4
    clear hW4 hn3 hb4' hb3
    by_cases hlong : 64 < l0.length
    · have HSH := Lib.hid (sha_len l0)
      have HHS := Lib.hid (hmac_sha hlong l1)
      have q6 : (64 : Int) < (l0.length : Int) := by omega
      go_wp2_with (first
        | (refine wpList_alloc_zero rfl 28 rfl (zeros .u8 32) zero_sum ?_)
        | (refine wpList_store_mid rfl 28 _ _ rfl _ _ (cb M).toArray rfl rfl (Bl.there_ (Bl.new _ (zeros .u8 32) 28) (by simp [zeros, cb_len, HM.out])) (by rw [size_sum, List.size_toArray, cb_len, HM.out]) (all_oneCell_toArray (cb_one _)) ?_; change wpList _ _ _ _ _ (World.setCells (w3.alloc (.cells (zeros .u8 32).toArray 28)) w3.heap.size 0 (cb M)); rw [← HW4.out]))
      refine (own_any l0 _ _ _ _ _ (y0.below hb4) z0 (by omega) hb4.size).mono ?_
      rintro e w5 ⟨X5, d5, rfl, h5⟩
      have hb5 := next hb4 h5.below
      replace b4 := b4.next h5.below
      go_wp2_with fail
      obtain ⟨hp, hbp⟩ := list_one 22 h5.sl (own_cap h5.own) h5.none_
      replace hb5 := next hb5 hbp
      replace b4 := b4.next hbp
      clear hb4 h5 hbp HW4
      refine (of_any [l0] _ _ _ _ _ hp (Nat.le_refl _) (by omega) (HT.out.next hb5) (by simp; omega)).mono ?_
      rintro e w6 ⟨rfl, hbp⟩
      rw [show [l0].flatten = l0 by simp]
      have hb6 := next hb5 hbp
      replace b4 := b4.next hbp
      clear hp hbp hb5
      obtain ⟨D, hD⟩ : ∃ D, D = sha l0 := ⟨_, rfl⟩
      rw [← hD] at HSH HHS ⊢
      clear hD
      have hn6 := (Bl.new w6 (zeros .u8 32) 28)
      obtain ⟨W7, hW7⟩ : ∃ W, W = (w6.alloc (.cells (zeros .u8 32).toArray 28)).setCells w6.heap.size 0 (cb D) := ⟨_, rfl⟩
      have b7 : Bl W7 w6.heap.size (cb D) 28 := by rw [hW7]; exact hn6.over (by rw [cb_len, HSH.out, zeros_len])
      have hb7' : Below w6.heap.size w6 W7 := by rw [hW7]; exact below_setCells ((Below.refl _ w6).alloc (Nat.le_refl _) _) (Nat.le_refl _) _ _
      have hb7 := next hb6 hb7'
      replace b4 := b4.next hb7'
      have s7 : Sl W7 W7.heap.size (some ⟨w6.heap.size, 0, none⟩) 32 (cb D) := (b7.sl (o := 0) (n := 32) (by rw [List.drop_zero, List.take_of_length_le (by rw [cb_len, HSH.out]; omega)]) (by rw [cb_len, HSH.out]; omega)).up b7.lt
      have HW7 := Lib.hid hW7
      clear hW7 hn6 hb7' hb6 b7
      go_wp2_with (first
        | (refine wpList_alloc_zero rfl 28 rfl (zeros .u8 32) zero_sum ?_)
        | (refine wpList_store_mid rfl 28 _ _ rfl _ _ (cb D).toArray rfl rfl (Bl.there_ (Bl.new _ (zeros .u8 32) 28) (by simp [zeros, cb_len, HSH.out])) (by rw [size_sum, List.size_toArray, cb_len, HSH.out]) (all_oneCell_toArray (cb_one _)) ?_; change wpList _ _ _ _ _ (World.setCells (w6.alloc (.cells (zeros .u8 32).toArray 28)) w6.heap.size 0 (cb D)); rw [← HW7.out]))
      clear HW7
      obtain ⟨S, hSd⟩ : ∃ S : World → Prop, S = fun w' => w'.rangeAt w3.heap.size 0 (cb M) := ⟨_, rfl⟩
      have HSI : Hid (∀ w', Below W7.heap.size W7 w' → S w') := by unfold Hid; intro w' hb; rw [hSd]; exact (b4.next hb).whole
      have HS1 : Hid (∀ w', S w' → w'.rangeAt w3.heap.size 0 (cb M)) := by unfold Hid; intro w' h; rw [hSd] at h; exact h
      clear hSd b4
      have hbd : Below W7.heap.size W7 W7.drew := (Below.refl _ W7).drew
      have hS := HSI.out _ hbd
      refine wp_region_held_drew (S := S) (by kernel_rfl) hS (fun _ => ?_)
      refine wpAnyH_take (i := 0) (v := .agg (cb M).toArray) rfl (by kernel_rfl) (by kernel_rfl) (by kernel_rfl) (fun _ _ _ h => h) (yieldsIf_load_mid (by rfl) 28 _ rfl w3.heap.size 0 rfl (cb M) _ HS1.out Tryd.underlying28 rfl (by rw [size_sum, cb_len, HM.out])) hS ?_
      simp only [List.getElem_toArray, List.getElem_cons_succ, List.getElem_cons_zero, Act.put, List.setIfInBounds_toArray, List.set_cons_zero, List.set_cons_succ]
      refine wpAnyH_take (i := 1) (v := (.slice (some ⟨w6.heap.size, 0, none⟩) 32 32)) rfl (by kernel_rfl) (by kernel_rfl) (by kernel_rfl) (fun _ _ _ h => h) (Or.inl ⟨by rfl, fun _ hSw => by go_simp⟩) hS ?_
      simp only [List.getElem_toArray, List.getElem_cons_succ, List.getElem_cons_zero, Act.put, List.setIfInBounds_toArray, List.set_cons_zero, List.set_cons_succ]
      refine wpAnyH_take (i := 2) (v := (.slice A1 l1.length c1)) rfl (by kernel_rfl) (by kernel_rfl) (by kernel_rfl) (fun _ _ _ h => h) (Or.inl ⟨by rfl, fun _ hSw => by go_simp⟩) hS ?_
      simp only [List.getElem_toArray, List.getElem_cons_succ, List.getElem_cons_zero, Act.put, List.setIfInBounds_toArray, List.set_cons_zero, List.set_cons_succ]
      have hx1 := y1.nx (next hb7 hbd)
      replace s7 := s7.nx hbd
      refine wpAnyH_ready (rs := [3]) (by kernel_rfl) (by simp) (AllReadyH.cons rfl (fun K hK => ?_) AllReadyH.nil)
      simp only [List.getElem_toArray, List.getElem_cons_succ, List.getElem_cons_zero, Act.put, List.setIfInBounds_toArray, List.set_cons_zero, List.set_cons_succ]
      go_simp
      refine (own_any l1 _ _ _ _ _ hx1 z1 (by omega) (Nat.le_refl _)).mono ?_
      rintro e w8 ⟨X8, d8, rfl, h8⟩
      have hb8 := next hbd h8.below
      replace s7 := s7.nx h8.below
      replace hS := HSI.out _ hb8
      refine hK.out _ _ hS (fun _ => ?_)
      clear hK K hx1
      obtain ⟨hp, hbp⟩ := list_one 22 h8.sl (own_cap h8.own) h8.none_
      replace hb8 := next hb8 hbp
      replace s7 := s7.nx hbp
      refine wpAnyH_ready (rs := [4]) (by kernel_rfl) (by simp) (AllReadyH.cons rfl (fun K hK => ?_) AllReadyH.nil)
      simp only [List.getElem_toArray, List.getElem_cons_succ, List.getElem_cons_zero, Act.put, List.setIfInBounds_toArray, List.set_cons_zero, List.set_cons_succ]
      go_simp
      replace hS := HSI.out _ hb8
      refine hK.out _ _ hS (fun _ => ?_)
      clear hK K h8 hbp hbd
      refine wpAnyH_ready (rs := [5]) (by kernel_rfl) (by simp) (AllReadyH.cons rfl (fun K hK => ?_) AllReadyH.nil)
      simp only [List.getElem_toArray, List.getElem_cons_succ, List.getElem_cons_zero, Act.put, List.setIfInBounds_toArray, List.set_cons_zero, List.set_cons_succ]
      go_simp
      refine (tag_any D [l1] _ _ _ _ _ _ _ _ _ s7 (by omega) (by simp) (Nat.le_refl _) (by omega) hp (Nat.le_refl _) (by omega) (HT.out.next (next hb7 hb8)) (by simp; omega)).mono ?_
      rintro e w9 ⟨rfl, hbp⟩
      rw [show [l1].flatten = l1 by simp, HHS.out, ← HMM.out]
      have hb9 := next hb8 hbp
      replace hS := HSI.out _ hb9
      refine hK.out _ _ hS (fun _ => ?_)
      clear hK K hp hbp hb8 s7
      refine wpAnyH_take (i := 6) (v := .bool true) rfl (by kernel_rfl) (by kernel_rfl) (by kernel_rfl) (fun _ _ _ h => h) (Or.inl ⟨by rfl, fun w' _ => exec_eql_sum w' _ _ _ rfl M HM.out rfl rfl⟩) hS ?_
      simp only [List.getElem_toArray, List.getElem_cons_succ, List.getElem_cons_zero, Act.put, List.setIfInBounds_toArray, List.set_cons_zero, List.set_cons_succ]
      refine wpAnyH_take (i := 7) (v := (.bool true)) rfl (by kernel_rfl) (by kernel_rfl) (by kernel_rfl) (fun _ _ _ h => h) (Or.inl ⟨by rfl, fun _ hSw => by go_simp⟩) hS ?_
      simp only [List.getElem_toArray, List.getElem_cons_succ, List.getElem_cons_zero, Act.put, List.setIfInBounds_toArray, List.set_cons_zero, List.set_cons_succ]
      refine wpAnyH_ready (rs := [8]) (by kernel_rfl) (by simp) (AllReadyH.cons rfl (fun K hK => ?_) AllReadyH.nil)
      simp only [List.getElem_toArray, List.getElem_cons_succ, List.getElem_cons_zero, Act.put, List.setIfInBounds_toArray, List.set_cons_zero, List.set_cons_succ]
      go_simp
      refine (awake3_any _ (HT.out.next (next hb7 hb9))).mono ?_
      rintro e w10 ⟨rfl, hbp⟩
      have hb10 := next hb9 hbp
      replace hS := HSI.out _ hb10
      refine hK.out _ _ hS (fun _ => ?_)
      clear hK K hb9 hbp
      refine wpAnyH_take (i := 9) (v := (.bool true)) rfl (by kernel_rfl) (by kernel_rfl) (by kernel_rfl) (fun _ _ _ h => h) (Or.inl ⟨by rfl, fun _ hSw => by go_simp⟩) hS ?_
      simp only [List.getElem_toArray, List.getElem_cons_succ, List.getElem_cons_zero, Act.put, List.setIfInBounds_toArray, List.set_cons_zero, List.set_cons_succ]
      refine wpAnyH_take (i := 10) (v := (.bool true)) rfl (by kernel_rfl) (by kernel_rfl) (by kernel_rfl) (fun _ _ _ h => h) (Or.inl ⟨by rfl, fun _ hSw => by go_simp⟩) hS ?_
      simp only [List.getElem_toArray, List.getElem_cons_succ, List.getElem_cons_zero, Act.put, List.setIfInBounds_toArray, List.set_cons_zero, List.set_cons_succ]
      refine wpAnyH_done (by kernel_rfl) ?_ _
      go_wp2
      go_ret
      exact ⟨rfl, next hb7 hb10⟩
    · have HHZ := Lib.hid (hmac_zeros hlong l1)
      obtain ⟨m, hm⟩ : ∃ m, m = 64 - l0.length := ⟨_, rfl⟩
      rw [← hm] at HHZ
      have hm64 : l0.length + m = 64 := by omega
      have hwr : IntKind.i64.wrap (64 - (l0.length : Int)) = (m : Int) := by rw [IntKind.wrap_i64]; omega
      have HCZ : Hid (cb l0 ++ zeros .u8 m = cb (l0 ++ List.replicate m 0)) := by unfold Hid; rw [cb_append, zeros_cb]
      have HWR := Lib.hid hwr
      clear hm hwr
      go_wp2_with (first
        | (refine wpList_alloc_zero rfl 28 rfl (zeros .u8 32) zero_sum ?_)
        | (refine wpList_store_mid rfl 28 _ _ rfl _ _ (cb M).toArray rfl rfl (Bl.there_ (Bl.new _ (zeros .u8 32) 28) (by simp [zeros, cb_len, HM.out])) (by rw [size_sum, List.size_toArray, cb_len, HM.out]) (all_oneCell_toArray (cb_one _)) ?_; change wpList _ _ _ _ _ (World.setCells (w3.alloc (.cells (zeros .u8 32).toArray 28)) w3.heap.size 0 (cb M)); rw [← HW4.out]))
      clear HW4
      obtain ⟨S, hSd⟩ : ∃ S : World → Prop, S = fun w' => w'.rangeAt w3.heap.size 0 (cb M) := ⟨_, rfl⟩
      have HSI : Hid (∀ w', Below W4.heap.size W4 w' → S w') := by unfold Hid; intro w' hb; rw [hSd]; exact (b4.next hb).whole
      have HS1 : Hid (∀ w', S w' → w'.rangeAt w3.heap.size 0 (cb M)) := by unfold Hid; intro w' h; rw [hSd] at h; exact h
      clear hSd b4
      have hbd : Below W4.heap.size W4 W4.drew := (Below.refl _ W4).drew
      have hS := HSI.out _ hbd
      refine wp_region_held_drew (S := S) (by kernel_rfl) hS (fun _ => ?_)
      refine wpAnyH_take (i := 0) (v := .agg (cb M).toArray) rfl (by kernel_rfl) (by kernel_rfl) (by kernel_rfl) (fun _ _ _ h => h) (yieldsIf_load_mid (by rfl) 28 _ rfl w3.heap.size 0 rfl (cb M) _ HS1.out Tryd.underlying28 rfl (by rw [size_sum, cb_len, HM.out])) hS ?_
      simp only [List.getElem_toArray, List.getElem_cons_succ, List.getElem_cons_zero, Act.put, List.setIfInBounds_toArray, List.set_cons_zero, List.set_cons_succ]
      refine wpAnyH_take (i := 1) (v := (.slice A0 l0.length c0)) rfl (by kernel_rfl) (by kernel_rfl) (by kernel_rfl) (fun _ _ _ h => h) (Or.inl ⟨by rfl, fun _ hSw => by go_simp⟩) hS ?_
      simp only [List.getElem_toArray, List.getElem_cons_succ, List.getElem_cons_zero, Act.put, List.setIfInBounds_toArray, List.set_cons_zero, List.set_cons_succ]
      refine wpAnyH_take (i := 3) (v := (.slice A0 l0.length c0)) rfl (by kernel_rfl) (by kernel_rfl) (by kernel_rfl) (fun _ _ _ h => h) (Or.inl ⟨by rfl, fun _ hSw => by go_simp⟩) hS ?_
      simp only [List.getElem_toArray, List.getElem_cons_succ, List.getElem_cons_zero, Act.put, List.setIfInBounds_toArray, List.set_cons_zero, List.set_cons_succ]
      refine wpAnyH_take (i := 4) (v := (.int .i64 (l0.length : Int))) rfl (by kernel_rfl) (by kernel_rfl) (by kernel_rfl) (fun _ _ _ h => h) (Or.inl ⟨by rfl, fun _ hSw => by go_simp⟩) hS ?_
      simp only [List.getElem_toArray, List.getElem_cons_succ, List.getElem_cons_zero, Act.put, List.setIfInBounds_toArray, List.set_cons_zero, List.set_cons_succ]
      refine wpAnyH_take (i := 5) (v := (.int .i64 (m : Int))) rfl (by kernel_rfl) (by kernel_rfl) (by kernel_rfl) (fun _ _ _ h => h) (Or.inl ⟨by rfl, fun _ hSw => by go_simp; exact HWR.out⟩) hS ?_
      simp only [List.getElem_toArray, List.getElem_cons_succ, List.getElem_cons_zero, Act.put, List.setIfInBounds_toArray, List.set_cons_zero, List.set_cons_succ]
      refine wpAnyH_take (i := 7) (v := (.slice A1 l1.length c1)) rfl (by kernel_rfl) (by kernel_rfl) (by kernel_rfl) (fun _ _ _ h => h) (Or.inl ⟨by rfl, fun _ hSw => by go_simp⟩) hS ?_
      simp only [List.getElem_toArray, List.getElem_cons_succ, List.getElem_cons_zero, Act.put, List.setIfInBounds_toArray, List.set_cons_zero, List.set_cons_succ]
      have hx0 := y0.nx (next hb4 hbd)
      refine wpAnyH_ready (rs := [2]) (by kernel_rfl) (by simp) (AllReadyH.cons rfl (fun K hK => ?_) AllReadyH.nil)
      simp only [List.getElem_toArray, List.getElem_cons_succ, List.getElem_cons_zero, Act.put, List.setIfInBounds_toArray, List.set_cons_zero, List.set_cons_succ]
      go_simp
      refine (own_any l0 _ _ _ _ _ hx0 z0 (by omega) (Nat.le_refl _)).mono ?_
      rintro e w5 ⟨X5, d5, rfl, h5⟩
      have hb5 := next hbd h5.below
      replace hS := HSI.out _ hb5
      refine hK.out _ _ hS (fun _ => ?_)
      clear hK K hx0
      have own5 := h5.own
      have bel5 := h5.below
      have lt5 : ∀ x, (Value.slice X5 l0.length d5).ownBlock = some x → x < w5.heap.size := fun x hx => own_lt own5 hx
      clear h5
      refine wpAnyH_ready (rs := [6]) (by kernel_rfl) (by simp) (AllReadyH.cons rfl (fun K hK => ?_) AllReadyH.nil)
      obtain ⟨v6, w6, hr6, own6, grow6, at6⟩ := run_append_own_zeros (P := Tryd.prog) w5 W4.drew.heap.size 22 3 22 5 i0 .i64 .i64 .u8 Tryd.underlying22 Tryd.underlying3 HI.out hz0 hz1 1 hz2 _ l0.length (cb l0) own5 m (by unfold maxLen; omega) (by omega) (by omega) bel5.size
      have bel6 : Below W4.drew.heap.size W4.drew w6 := below_app bel5 (Nat.le_refl _) own5 grow6
      simp only [List.getElem_toArray, List.getElem_cons_succ, List.getElem_cons_zero, Act.put, List.setIfInBounds_toArray, List.set_cons_zero, List.set_cons_succ]
      rw [if_pos (by rfl)]
      refine Lib.wp_append_run _ _ _ 22 3 rfl _ _ rfl rfl _ _ hr6 ?_
      replace hS := HSI.out _ (next hbd bel6)
      refine hK.out _ _ hS (fun _ => ?_)
      clear hK K
      simp only [List.getElem_toArray, List.getElem_cons_succ, List.getElem_cons_zero, Act.put, List.setIfInBounds_toArray, List.set_cons_zero, List.set_cons_succ]
      obtain ⟨A6, c6, rfl⟩ := own_form own6
      rw [hm64, HCZ.out] at own6
      rw [hm64]
      have sl6 := Sl.own own6
      refine wpAnyH_ready (rs := [8]) (by kernel_rfl) (by simp) (AllReadyH.cons rfl (fun K hK => ?_) AllReadyH.nil)
      have hx1 := y1.nx (next hb4 (next hbd bel6))
      simp only [List.getElem_toArray, List.getElem_cons_succ, List.getElem_cons_zero, Act.put, List.setIfInBounds_toArray, List.set_cons_zero, List.set_cons_succ]
      go_simp
      refine (own_any l1 _ _ _ _ _ hx1 z1 (by omega) (Nat.le_refl _)).mono ?_
      rintro e w8 ⟨X8, d8, rfl, h8⟩
      have bel8 := next bel6 h8.below
      have s8 := h8.sl
      have f8 := h8.none_
      have g8 := own_cap h8.own
      have whr8 : ∀ ad, X8 = some ad → w6.heap.size ≤ ad.block ∧ ad.block < w8.heap.size := fun ad e => own_where h8.own e
      replace hS := HSI.out _ (next hbd bel8)
      refine hK.out _ _ hS (fun _ => ?_)
      clear hK K hx1
      replace sl6 := sl6.nx h8.below
      clear h8
      have bl9 := Bl.newA w8 #[.slice X8 l1.length d8] 22
      have belp : Below w8.heap.size w8 (w8.alloc (.cells #[.slice X8 l1.length d8] 22)) := (Below.refl _ w8).alloc (Nat.le_refl _) _
      obtain ⟨w9, hw9⟩ : ∃ x, x = w8.alloc (.cells #[.slice X8 l1.length d8] 22) := ⟨_, rfl⟩
      rw [← hw9] at bl9 belp
      have bel9 := next bel8 belp
      have s9 := s8.nx belp
      have HW9 := Lib.hid hw9
      clear hw9
      refine wpAnyH_ready (rs := [9]) (by kernel_rfl) (by simp) (AllReadyH.cons rfl (fun K hK => ?_) AllReadyH.nil)
      simp only [List.getElem_toArray, List.getElem_cons_succ, List.getElem_cons_zero, Act.put, List.setIfInBounds_toArray, List.set_cons_zero, List.set_cons_succ]
      go_simp
      rw [← HW9.out]
      replace hS := HSI.out _ (next hbd bel9)
      refine hK.out _ _ hS (fun _ => ?_)
      clear hK K HW9
      replace sl6 := sl6.nx belp
      have hp := parts_one (B := _) (l := l1) bl9 bl9.lt s9 g8 f8
      refine wpAnyH_ready (rs := [10]) (by kernel_rfl) (by simp) (AllReadyH.cons rfl (fun K hK => ?_) AllReadyH.nil)
      simp only [List.getElem_toArray, List.getElem_cons_succ, List.getElem_cons_zero, Act.put, List.setIfInBounds_toArray, List.set_cons_zero, List.set_cons_succ]
      go_simp
      refine (tag_any (l0 ++ List.replicate m 0) [l1] _ _ _ _ _ _ _ _ _ sl6 (own_cap own6) (own_none own6) (Nat.le_refl _) (by omega) hp (Nat.le_refl _) (by omega) (HT.out.next (next hb4 (next hbd bel9))) (by simp; omega)).mono ?_
      rintro e w10 ⟨rfl, hbp⟩
      rw [show [l1].flatten = l1 by simp, HHZ.out, ← HMM.out]
      have hb10 := next (next hbd bel9) hbp
      replace hS := HSI.out _ hb10
      refine hK.out _ _ hS (fun _ => ?_)
      clear hK K
      refine wpAnyH_take (i := 11) (v := .bool true) rfl (by kernel_rfl) (by kernel_rfl) (by kernel_rfl) (fun _ _ _ h => h) (Or.inl ⟨by rfl, fun w' _ => exec_eql_sum w' _ _ _ rfl M HM.out rfl rfl⟩) hS ?_
      simp only [List.getElem_toArray, List.getElem_cons_succ, List.getElem_cons_zero, Act.put, List.setIfInBounds_toArray, List.set_cons_zero, List.set_cons_succ]
      refine wpAnyH_take (i := 12) (v := (.bool true)) rfl (by kernel_rfl) (by kernel_rfl) (by kernel_rfl) (fun _ _ _ h => h) (Or.inl ⟨by rfl, fun _ hSw => by go_simp⟩) hS ?_
      simp only [List.getElem_toArray, List.getElem_cons_succ, List.getElem_cons_zero, Act.put, List.setIfInBounds_toArray, List.set_cons_zero, List.set_cons_succ]
      refine wpAnyH_ready (rs := [13]) (by kernel_rfl) (by simp) (AllReadyH.cons rfl (fun K hK => ?_) AllReadyH.nil)
      simp only [List.getElem_toArray, List.getElem_cons_succ, List.getElem_cons_zero, Act.put, List.setIfInBounds_toArray, List.set_cons_zero, List.set_cons_succ]
      go_simp
      refine (awake3_any _ (HT.out.next (next hb4 hb10))).mono ?_
      rintro e w11 ⟨rfl, hbq⟩
      have hb11 := next hb10 hbq
      replace hS := HSI.out _ hb11
      refine hK.out _ _ hS (fun _ => ?_)
      clear hK K
      refine wpAnyH_take (i := 14) (v := (.bool true)) rfl (by kernel_rfl) (by kernel_rfl) (by kernel_rfl) (fun _ _ _ h => h) (Or.inl ⟨by rfl, fun _ hSw => by go_simp⟩) hS ?_
      simp only [List.getElem_toArray, List.getElem_cons_succ, List.getElem_cons_zero, Act.put, List.setIfInBounds_toArray, List.set_cons_zero, List.set_cons_succ]
      refine wpAnyH_take (i := 15) (v := (.bool true)) rfl (by kernel_rfl) (by kernel_rfl) (by kernel_rfl) (fun _ _ _ h => h) (Or.inl ⟨by rfl, fun _ hSw => by go_simp⟩) hS ?_
      simp only [List.getElem_toArray, List.getElem_cons_succ, List.getElem_cons_zero, Act.put, List.setIfInBounds_toArray, List.set_cons_zero, List.set_cons_succ]
      refine wpAnyH_done (by kernel_rfl) ?_ _
      go_wp2
      go_ret
      exact ⟨rfl, next hb4 hb11⟩
  · rcases (show 4000 < l0.length ∨ (l0.length ≤ 4000 ∧ 4000 < l1.length) by omega) with q0 | ⟨q0, q1⟩
    · have k0 : decide (4000 < (l0.length : Int)) = true := by simp; omega
      clear hbig
      go_enter Tryd.func6, Tryd.ntmps6
      go_wp2_with (go_at_call 9; refine (awake3_any _ HT.out).mono ?_; rintro e w' ⟨rfl, hb⟩)
      go_ret
      exact ⟨rfl, hb⟩
    · have k0 : decide (4000 < (l0.length : Int)) = false := by simp; omega
      have k1 : decide (4000 < (l1.length : Int)) = true := by simp; omega
      clear hbig
      go_enter Tryd.func6, Tryd.ntmps6
      go_wp2_with (go_at_call 9; refine (awake3_any _ HT.out).mono ?_; rintro e w' ⟨rfl, hb⟩)
      go_ret
      exact ⟨rfl, hb⟩

end Go.Proofs.YtnhpedgolgdoiaaDoor

