/- The walk of the law CutterLengths. -/
import Derived.Test.YtkopdkamhkmefaaCutV
namespace Go.Proofs.Ytkopdkamhkmefaa
set_option maxRecDepth 100000
open Go Go.RowKit
set_option linter.unusedVariables false
set_option linter.unusedSimpArgs false

set_option maxRecDepth 100000 in
set_option maxHeartbeats 4000000 in
theorem cutterLengths_walk (v0 : Value) (A1 : Option Addr) (n1 c1 : Nat) (l1 : List UInt8) (w : World) (h0 : CutIn w v0) (s1 : InBytes w A1 n1 c1 l1) :
    Calls Try.prog 3 #[v0, .slice A1 n1 c1] w fun e w' => e = .returned (.bool true) ∧ Below w.heap.size w w' := by
  obtain ⟨p, k, mn, mx, rfl, hp, hk, _, _⟩ := h0
  obtain ⟨W0, HW0, b0, hb0, _⟩ := put_f w (cutC p k mn mx) 24
  have y1 : By W0 A1 n1 c1 l1 := s1.bys.nx hb0
  have z1 := s1.none_
  have e1 := s1.len
  clear s1
  have AW := Lib.hid awake14_any
  obtain ⟨L, hL⟩ : ∃ L, L = cutLV p k mn mx l1 := ⟨_, rfl⟩
  obtain ⟨E, hE⟩ : ∃ E, E = cutE p mn mx := ⟨_, rfl⟩
  by_cases hbig : n1 ≤ 600
  · have q1 : ¬ (600 : Int) < (n1 : Int) := by omega
    have hLl : L.length ≤ 1000000 := by rw [hL]; have := cutLV_len p k mn mx l1; omega
    have HE1 := Lib.hid e1
    clear e1
    rcases hok : cutOk p mn mx with _ | _
    · have HL : Hid (L = cutLV p k mn mx l1) := hL
      have HE : Hid (E = cutE p mn mx) := hE
      have HOK := Lib.hid hok
      have hL0 : L.length = 0 := by rw [hL]; unfold cutLV; rw [hok]; rfl
      have HE6 : Hid (E = 6) := by unfold Hid; rw [hE]; unfold cutE; rw [hok]; rfl
      clear hL hE hok
      go_enter Try.func3, Try.ntmps3
      go_wp2_with (first
        | (refine wpList_box_agg rfl 24 _ rfl (cutC p k mn mx) rfl ?_; rw [HW0.out])
        | fail)
      refine (own_any l1 W0 _ A1 n1 c1 y1.sl z1 (by omega) (Nat.le_refl _)).mono ?_
      rintro e w1 ⟨X1, d1, rfl, h1⟩
      have b1 := b0.next h1.below
      have x1 := h1.bys
      have hb1 := next hb0 h1.below
      have y1' := y1.nx h1.below
      clear h1
      go_wp2_with (first
        | (refine wpList_load_mid rfl 24 _ rfl w.heap.size 0 rfl (cutC p k mn mx) _ b1.whole Try.underlying24 rfl size_cut ?_)
        | fail)
      refine (clens_any p k mn mx l1 w1 X1 n1 d1 x1 (by omega) hp hk).mono ?_
      rintro e w2 ⟨X2, d2, rfl, own2, hb2⟩
      rw [← HL.out, ← HE.out]
      rw [← HL.out] at own2
      have b2 := b1.next hb2
      have x2 := x1.nx hb2
      have y2 := y1'.nx hb2
      have u2 := Sl.own own2
      replace hb2 := next hb1 hb2
      clear own2 b1 x1 hb1
      go_wp2_with fail
      obtain ⟨S, hSd⟩ : ∃ S : World → Prop, S = fun w' => (∀ j v, (cutC p k mn mx)[j]? = some v → w'.cell? ((⟨w.heap.size, 0, none⟩ : Addr).add j) = some v) ∧ (convert 25 9 (.slice X1 n1 d1)).run Try.prog w' = .ok (.string ⟨l1.toArray⟩) w' ∧ (convert 25 9 (.slice A1 n1 c1)).run Try.prog w' = .ok (.string ⟨l1.toArray⟩) w' := ⟨_, rfl⟩
      have HSI : Hid (∀ w', Below w2.heap.size w2 w' → S w') := by
        unfold Hid; intro w' hb; rw [hSd]
        exact ⟨fun j v hv => by rw [Addr.add_mid]; exact (b2.next hb).whole j v hv, u8_str (x2.nx hb).sl _, u8_str (y2.nx hb).sl _⟩
      have HS0 : Hid (∀ w', S w' → ∀ j v, (cutC p k mn mx)[j]? = some v → w'.cell? ((⟨w.heap.size, 0, none⟩ : Addr).add j) = some v) := by unfold Hid; intro w' h; rw [hSd] at h; exact h.1
      have HS1 : Hid (∀ w', S w' → (convert 25 9 (.slice X1 n1 d1)).run Try.prog w' = .ok (.string ⟨l1.toArray⟩) w') := by unfold Hid; intro w' h; rw [hSd] at h; exact h.2.1
      have HS2 : Hid (∀ w', S w' → (convert 25 9 (.slice A1 n1 c1)).run Try.prog w' = .ok (.string ⟨l1.toArray⟩) w') := by unfold Hid; intro w' h; rw [hSd] at h; exact h.2.2
      clear hSd
      have hbd : Below w2.heap.size w2 w2.drew := (Below.refl _ w2).drew
      have hS := HSI.out _ hbd
      refine wp_region_held_drew (S := S) (by kernel_rfl) hS (fun _ => ?_)
      refine wpAnyH_take (i := 0) (v := .agg (cutC p k mn mx).toArray) rfl (by kernel_rfl) (by kernel_rfl) (by kernel_rfl) (fun _ _ _ h => h) (Or.inl ⟨by rfl, fun w' hSw => exec_load_at w' 24 _ rfl ⟨w.heap.size, 0, none⟩ rfl (cutC p k mn mx) _ (HS0.out w' hSw) Try.underlying24 rfl size_cut⟩) hS ?_
      simp only [List.getElem_toArray, List.getElem_cons_succ, List.getElem_cons_zero, Act.put, List.setIfInBounds_toArray, List.set_cons_zero, List.set_cons_succ]
      refine wpAnyH_take (i := 2) (v := .agg (cutC p k mn mx).toArray) rfl (by kernel_rfl) (by kernel_rfl) (by kernel_rfl) (fun _ _ _ h => h) (Or.inl ⟨by rfl, fun w' hSw => exec_load_at w' 24 _ rfl ⟨w.heap.size, 0, none⟩ rfl (cutC p k mn mx) _ (HS0.out w' hSw) Try.underlying24 rfl size_cut⟩) hS ?_
      simp only [List.getElem_toArray, List.getElem_cons_succ, List.getElem_cons_zero, Act.put, List.setIfInBounds_toArray, List.set_cons_zero, List.set_cons_succ]
      refine wpAnyH_ready (rs := [1]) (by kernel_rfl) (by simp) (AllReadyH.cons rfl (fun K hK => ?_) AllReadyH.nil)
      simp only [List.getElem_toArray, List.getElem_cons_succ, List.getElem_cons_zero, Act.put, List.setIfInBounds_toArray, List.set_cons_zero, List.set_cons_succ]
      go_simp
      refine (cright_any p k mn mx _ hp).mono ?_
      rintro e w3 ⟨rfl, hb3⟩
      rw [HOK.out]
      have hbx := next hbd hb3
      replace hS := HSI.out _ hbx
      refine hK.out _ _ hS (fun _ => ?_)
      clear hK K hbd hb3
      refine wpAnyH_ready (rs := [3]) (by kernel_rfl) (by simp) (AllReadyH.cons rfl (fun K hK => ?_) AllReadyH.nil)
      simp only [List.getElem_toArray, List.getElem_cons_succ, List.getElem_cons_zero, Act.put, List.setIfInBounds_toArray, List.set_cons_zero, List.set_cons_succ]
      go_simp
      refine (rright14_any p k mn mx w3 hp).mono ?_
      rintro e w4 ⟨rfl, hb4⟩
      rw [HOK.out]
      replace hbx := next hbx hb4
      replace hS := HSI.out _ hbx
      refine hK.out _ _ hS (fun _ => ?_)
      clear hK K hb4
      refine wpAnyH_take (i := 4) (v := (.bool false)) rfl (by kernel_rfl) (by kernel_rfl) (by kernel_rfl) (fun _ _ _ h => h) (Or.inl ⟨by rfl, fun _ hSw => by go_simp⟩) hS ?_
      simp only [List.getElem_toArray, List.getElem_cons_succ, List.getElem_cons_zero, Act.put, List.setIfInBounds_toArray, List.set_cons_zero, List.set_cons_succ]
      refine wpAnyH_take (i := 5) (v := (.bool false)) rfl (by kernel_rfl) (by kernel_rfl) (by kernel_rfl) (fun _ _ _ h => h) (Or.inl ⟨by rfl, fun _ hSw => by go_simp⟩) hS ?_
      simp only [List.getElem_toArray, List.getElem_cons_succ, List.getElem_cons_zero, Act.put, List.setIfInBounds_toArray, List.set_cons_zero, List.set_cons_succ]
      refine wpAnyH_take (i := 6) (v := (.slice X1 n1 d1)) rfl (by kernel_rfl) (by kernel_rfl) (by kernel_rfl) (fun _ _ _ h => h) (Or.inl ⟨by rfl, fun _ hSw => by go_simp⟩) hS ?_
      simp only [List.getElem_toArray, List.getElem_cons_succ, List.getElem_cons_zero, Act.put, List.setIfInBounds_toArray, List.set_cons_zero, List.set_cons_succ]
      refine wpAnyH_take (i := 7) (v := .string ⟨l1.toArray⟩) rfl (by kernel_rfl) (by kernel_rfl) (by kernel_rfl) (fun _ _ _ h => h) (Or.inl ⟨by rfl, fun w' hw' => exec_convert w' _ _ _ rfl _ _ rfl (HS1.out w' hw')⟩) hS ?_
      simp only [List.getElem_toArray, List.getElem_cons_succ, List.getElem_cons_zero, Act.put, List.setIfInBounds_toArray, List.set_cons_zero, List.set_cons_succ]
      refine wpAnyH_take (i := 8) (v := (.slice A1 n1 c1)) rfl (by kernel_rfl) (by kernel_rfl) (by kernel_rfl) (fun _ _ _ h => h) (Or.inl ⟨by rfl, fun _ hSw => by go_simp⟩) hS ?_
      simp only [List.getElem_toArray, List.getElem_cons_succ, List.getElem_cons_zero, Act.put, List.setIfInBounds_toArray, List.set_cons_zero, List.set_cons_succ]
      refine wpAnyH_take (i := 9) (v := .string ⟨l1.toArray⟩) rfl (by kernel_rfl) (by kernel_rfl) (by kernel_rfl) (fun _ _ _ h => h) (Or.inl ⟨by rfl, fun w' hw' => exec_convert w' _ _ _ rfl _ _ rfl (HS2.out w' hw')⟩) hS ?_
      simp only [List.getElem_toArray, List.getElem_cons_succ, List.getElem_cons_zero, Act.put, List.setIfInBounds_toArray, List.set_cons_zero, List.set_cons_succ]
      refine wpAnyH_take (i := 10) (v := (.bool false)) rfl (by kernel_rfl) (by kernel_rfl) (by kernel_rfl) (fun _ _ _ h => h) (Or.inl ⟨by rfl, fun _ hSw => by go_simp⟩) hS ?_
      simp only [List.getElem_toArray, List.getElem_cons_succ, List.getElem_cons_zero, Act.put, List.setIfInBounds_toArray, List.set_cons_zero, List.set_cons_succ]
      refine wpAnyH_take (i := 11) (v := (.bool false)) rfl (by kernel_rfl) (by kernel_rfl) (by kernel_rfl) (fun _ _ _ h => h) (Or.inl ⟨by rfl, fun _ hSw => by go_simp⟩) hS ?_
      simp only [List.getElem_toArray, List.getElem_cons_succ, List.getElem_cons_zero, Act.put, List.setIfInBounds_toArray, List.set_cons_zero, List.set_cons_succ]
      refine wpAnyH_done (by kernel_rfl) ?_ _
      have b4 := b2.next hbx
      have u4 := u2.nx hbx
      have y4 := y2.nx hbx
      replace hb2 := next hb2 hbx
      clear HSI HS0 HS1 HS2 hS hbx b2 u2 y2 x2
      go_wp2_with (first
        | (refine wpList_load_mid rfl 24 _ rfl w.heap.size 0 rfl (cutC p k mn mx) _ b4.whole Try.underlying24 rfl size_cut ?_)
        | fail)
      refine (rright14_any p k mn mx w4 hp).mono ?_
      rintro e w5 ⟨rfl, hb5⟩
      rw [HOK.out]
      have b5 := b4.next hb5
      have u5 := u4.nx hb5
      have y5 := y4.nx hb5
      replace hb2 := next hb2 hb5
      clear b4 u4 y4 hb5
      rw [HE6.out]
      go_wp2_with (first
        | (go_at_call 8; refine (AW.out _).mono ?_; rintro e w10 ⟨rfl, hb10⟩)
        | fail)
      go_ret
      exact ⟨rfl, next hb2 hb10⟩
    · obtain ⟨k0, k1, k2, k3⟩ := cutOk_of hok
      obtain ⟨a, rfl⟩ := Int.eq_ofNat_of_zero_le (show 0 ≤ mn by omega)
      obtain ⟨b, rfl⟩ := Int.eq_ofNat_of_zero_le (show 0 ≤ mx by omega)
      obtain ⟨d, hd, hd9, hd53, hdn, hpos⟩ := rolOk_deg k0 hp
      have HL : Hid (L = cutLV p k (a : Int) (b : Int) l1) := hL
      have HE : Hid (E = cutE p (a : Int) (b : Int)) := hE
      have HLF : Hid (cutL p d k a b l1 = L) := by unfold Hid; rw [hL, cutLV_ok hok hdn]; simp
      have HOK := Lib.hid hok
      have HE0 : Hid (E = 0) := by unfold Hid; rw [hE]; unfold cutE; rw [hok]; rfl
      have HD := Lib.hid hd
      have ha1 : 1 ≤ a := by omega
      have hab : a ≤ b := by omega
      have hb4 : b ≤ 4096 := by omega
      have HSM := Lib.hid (same14_any L L true (by simp))
      clear hL hE hok hd hdn k1 k2 k3
      go_enter Try.func3, Try.ntmps3
      go_wp2_with (first
        | (refine wpList_box_agg rfl 24 _ rfl (cutC p k (a : Int) (b : Int)) rfl ?_; rw [HW0.out])
        | fail)
      refine (own_any l1 W0 _ A1 n1 c1 y1.sl z1 (by omega) (Nat.le_refl _)).mono ?_
      rintro e w1 ⟨X1, d1, rfl, h1⟩
      have b1 := b0.next h1.below
      have x1 := h1.bys
      have hb1 := next hb0 h1.below
      have y1' := y1.nx h1.below
      clear h1
      go_wp2_with (first
        | (refine wpList_load_mid rfl 24 _ rfl w.heap.size 0 rfl (cutC p k (a : Int) (b : Int)) _ b1.whole Try.underlying24 rfl size_cut ?_)
        | fail)
      refine (clens_any p k (a : Int) (b : Int) l1 w1 X1 n1 d1 x1 (by omega) hp hk).mono ?_
      rintro e w2 ⟨X2, d2, rfl, own2, hb2⟩
      rw [← HL.out, ← HE.out]
      rw [← HL.out] at own2
      have b2 := b1.next hb2
      have x2 := x1.nx hb2
      have y2 := y1'.nx hb2
      have u2 := Sl.own own2
      replace hb2 := next hb1 hb2
      clear own2 b1 x1 hb1
      go_wp2_with fail
      obtain ⟨S, hSd⟩ : ∃ S : World → Prop, S = fun w' => (∀ j v, (cutC p k (a : Int) (b : Int))[j]? = some v → w'.cell? ((⟨w.heap.size, 0, none⟩ : Addr).add j) = some v) ∧ (convert 25 9 (.slice X1 n1 d1)).run Try.prog w' = .ok (.string ⟨l1.toArray⟩) w' ∧ (convert 25 9 (.slice A1 n1 c1)).run Try.prog w' = .ok (.string ⟨l1.toArray⟩) w' := ⟨_, rfl⟩
      have HSI : Hid (∀ w', Below w2.heap.size w2 w' → S w') := by
        unfold Hid; intro w' hb; rw [hSd]
        exact ⟨fun j v hv => by rw [Addr.add_mid]; exact (b2.next hb).whole j v hv, u8_str (x2.nx hb).sl _, u8_str (y2.nx hb).sl _⟩
      have HS0 : Hid (∀ w', S w' → ∀ j v, (cutC p k (a : Int) (b : Int))[j]? = some v → w'.cell? ((⟨w.heap.size, 0, none⟩ : Addr).add j) = some v) := by unfold Hid; intro w' h; rw [hSd] at h; exact h.1
      have HS1 : Hid (∀ w', S w' → (convert 25 9 (.slice X1 n1 d1)).run Try.prog w' = .ok (.string ⟨l1.toArray⟩) w') := by unfold Hid; intro w' h; rw [hSd] at h; exact h.2.1
      have HS2 : Hid (∀ w', S w' → (convert 25 9 (.slice A1 n1 c1)).run Try.prog w' = .ok (.string ⟨l1.toArray⟩) w') := by unfold Hid; intro w' h; rw [hSd] at h; exact h.2.2
      clear hSd
      have hbd : Below w2.heap.size w2 w2.drew := (Below.refl _ w2).drew
      have hS := HSI.out _ hbd
      refine wp_region_held_drew (S := S) (by kernel_rfl) hS (fun _ => ?_)
      refine wpAnyH_take (i := 0) (v := .agg (cutC p k (a : Int) (b : Int)).toArray) rfl (by kernel_rfl) (by kernel_rfl) (by kernel_rfl) (fun _ _ _ h => h) (Or.inl ⟨by rfl, fun w' hSw => exec_load_at w' 24 _ rfl ⟨w.heap.size, 0, none⟩ rfl (cutC p k (a : Int) (b : Int)) _ (HS0.out w' hSw) Try.underlying24 rfl size_cut⟩) hS ?_
      simp only [List.getElem_toArray, List.getElem_cons_succ, List.getElem_cons_zero, Act.put, List.setIfInBounds_toArray, List.set_cons_zero, List.set_cons_succ]
      refine wpAnyH_take (i := 2) (v := .agg (cutC p k (a : Int) (b : Int)).toArray) rfl (by kernel_rfl) (by kernel_rfl) (by kernel_rfl) (fun _ _ _ h => h) (Or.inl ⟨by rfl, fun w' hSw => exec_load_at w' 24 _ rfl ⟨w.heap.size, 0, none⟩ rfl (cutC p k (a : Int) (b : Int)) _ (HS0.out w' hSw) Try.underlying24 rfl size_cut⟩) hS ?_
      simp only [List.getElem_toArray, List.getElem_cons_succ, List.getElem_cons_zero, Act.put, List.setIfInBounds_toArray, List.set_cons_zero, List.set_cons_succ]
      refine wpAnyH_ready (rs := [1]) (by kernel_rfl) (by simp) (AllReadyH.cons rfl (fun K hK => ?_) AllReadyH.nil)
      simp only [List.getElem_toArray, List.getElem_cons_succ, List.getElem_cons_zero, Act.put, List.setIfInBounds_toArray, List.set_cons_zero, List.set_cons_succ]
      go_simp
      refine (cright_any p k (a : Int) (b : Int) _ hp).mono ?_
      rintro e w3 ⟨rfl, hb3⟩
      rw [HOK.out]
      have hbx := next hbd hb3
      replace hS := HSI.out _ hbx
      refine hK.out _ _ hS (fun _ => ?_)
      clear hK K hbd hb3
      refine wpAnyH_ready (rs := [3]) (by kernel_rfl) (by simp) (AllReadyH.cons rfl (fun K hK => ?_) AllReadyH.nil)
      simp only [List.getElem_toArray, List.getElem_cons_succ, List.getElem_cons_zero, Act.put, List.setIfInBounds_toArray, List.set_cons_zero, List.set_cons_succ]
      go_simp
      refine (rright14_any p k (a : Int) (b : Int) w3 hp).mono ?_
      rintro e w4 ⟨rfl, hb4⟩
      rw [HOK.out]
      replace hbx := next hbx hb4
      replace hS := HSI.out _ hbx
      refine hK.out _ _ hS (fun _ => ?_)
      clear hK K hb4
      refine wpAnyH_take (i := 4) (v := (.bool false)) rfl (by kernel_rfl) (by kernel_rfl) (by kernel_rfl) (fun _ _ _ h => h) (Or.inl ⟨by rfl, fun _ hSw => by go_simp⟩) hS ?_
      simp only [List.getElem_toArray, List.getElem_cons_succ, List.getElem_cons_zero, Act.put, List.setIfInBounds_toArray, List.set_cons_zero, List.set_cons_succ]
      refine wpAnyH_take (i := 5) (v := (.bool false)) rfl (by kernel_rfl) (by kernel_rfl) (by kernel_rfl) (fun _ _ _ h => h) (Or.inl ⟨by rfl, fun _ hSw => by go_simp⟩) hS ?_
      simp only [List.getElem_toArray, List.getElem_cons_succ, List.getElem_cons_zero, Act.put, List.setIfInBounds_toArray, List.set_cons_zero, List.set_cons_succ]
      refine wpAnyH_take (i := 6) (v := (.slice X1 n1 d1)) rfl (by kernel_rfl) (by kernel_rfl) (by kernel_rfl) (fun _ _ _ h => h) (Or.inl ⟨by rfl, fun _ hSw => by go_simp⟩) hS ?_
      simp only [List.getElem_toArray, List.getElem_cons_succ, List.getElem_cons_zero, Act.put, List.setIfInBounds_toArray, List.set_cons_zero, List.set_cons_succ]
      refine wpAnyH_take (i := 7) (v := .string ⟨l1.toArray⟩) rfl (by kernel_rfl) (by kernel_rfl) (by kernel_rfl) (fun _ _ _ h => h) (Or.inl ⟨by rfl, fun w' hw' => exec_convert w' _ _ _ rfl _ _ rfl (HS1.out w' hw')⟩) hS ?_
      simp only [List.getElem_toArray, List.getElem_cons_succ, List.getElem_cons_zero, Act.put, List.setIfInBounds_toArray, List.set_cons_zero, List.set_cons_succ]
      refine wpAnyH_take (i := 8) (v := (.slice A1 n1 c1)) rfl (by kernel_rfl) (by kernel_rfl) (by kernel_rfl) (fun _ _ _ h => h) (Or.inl ⟨by rfl, fun _ hSw => by go_simp⟩) hS ?_
      simp only [List.getElem_toArray, List.getElem_cons_succ, List.getElem_cons_zero, Act.put, List.setIfInBounds_toArray, List.set_cons_zero, List.set_cons_succ]
      refine wpAnyH_take (i := 9) (v := .string ⟨l1.toArray⟩) rfl (by kernel_rfl) (by kernel_rfl) (by kernel_rfl) (fun _ _ _ h => h) (Or.inl ⟨by rfl, fun w' hw' => exec_convert w' _ _ _ rfl _ _ rfl (HS2.out w' hw')⟩) hS ?_
      simp only [List.getElem_toArray, List.getElem_cons_succ, List.getElem_cons_zero, Act.put, List.setIfInBounds_toArray, List.set_cons_zero, List.set_cons_succ]
      refine wpAnyH_take (i := 10) (v := (.bool false)) rfl (by kernel_rfl) (by kernel_rfl) (by kernel_rfl) (fun _ _ _ h => h) (Or.inl ⟨by rfl, fun _ hSw => by go_simp⟩) hS ?_
      simp only [List.getElem_toArray, List.getElem_cons_succ, List.getElem_cons_zero, Act.put, List.setIfInBounds_toArray, List.set_cons_zero, List.set_cons_succ]
      refine wpAnyH_take (i := 11) (v := (.bool false)) rfl (by kernel_rfl) (by kernel_rfl) (by kernel_rfl) (fun _ _ _ h => h) (Or.inl ⟨by rfl, fun _ hSw => by go_simp⟩) hS ?_
      simp only [List.getElem_toArray, List.getElem_cons_succ, List.getElem_cons_zero, Act.put, List.setIfInBounds_toArray, List.set_cons_zero, List.set_cons_succ]
      refine wpAnyH_done (by kernel_rfl) ?_ _
      have b4 := b2.next hbx
      have u4 := u2.nx hbx
      have y4 := y2.nx hbx
      replace hb2 := next hb2 hbx
      clear HSI HS0 HS1 HS2 hS hbx b2 u2 y2 x2
      go_wp2_with (first
        | (refine wpList_load_mid rfl 24 _ rfl w.heap.size 0 rfl (cutC p k (a : Int) (b : Int)) _ b4.whole Try.underlying24 rfl size_cut ?_)
        | fail)
      refine (rright14_any p k (a : Int) (b : Int) w4 hp).mono ?_
      rintro e w5 ⟨rfl, hb5⟩
      rw [HOK.out]
      have b5 := b4.next hb5
      have u5 := u4.nx hb5
      have y5 := y4.nx hb5
      replace hb2 := next hb2 hb5
      clear b4 u4 y4 hb5
      rw [HE0.out]
      go_wp2_with (first
        | (refine wpList_load_mid rfl 24 _ rfl w.heap.size 0 rfl (cutC p k (a : Int) (b : Int)) _ b5.whole Try.underlying24 rfl size_cut ?_)
        | fail)
      refine (lengths14_any p k a b d l1 w5 A1 n1 c1 y5 (by omega) hp hk HD.out hd53 ha1 hab hb4).mono ?_
      rw [HLF.out]
      rintro e w6 ⟨X6, d6, rfl, own6, hb6⟩
      have u6 := Sl.own own6
      replace u5 := u5.nx hb6
      replace hb2 := next hb2 hb6
      clear own6 hb6 y5 b5
      go_wp2_with (first
        | (go_at_call 13; refine (HSM.out w6 _ _ _ _ _ _ _ _ u5 u6 (Nat.le_refl _) (Nat.le_refl _) hLl hLl).mono ?_; rintro e w7 ⟨rfl, hb7⟩; replace hb2 := next hb2 hb7; clear hb7)
        | (go_at_call 8; refine (AW.out _).mono ?_; rintro e w10 ⟨rfl, hb10⟩)
        | fail)
      go_ret
      exact ⟨rfl, next hb2 hb10⟩
  · have q1 : (600 : Int) < (n1 : Int) := by omega
    go_enter Try.func3, Try.ntmps3
    go_wp2_with (first
      | (refine wpList_box_agg rfl 24 _ rfl (cutC p k mn mx) rfl ?_; rw [HW0.out])
      | (go_at_call 8; refine (AW.out _).mono ?_; rintro e w10 ⟨rfl, hb10⟩)
      | fail)
    go_ret
    exact ⟨rfl, next hb0 hb10⟩

end Go.Proofs.Ytkopdkamhkmefaa
