/- The walk of the law CutterLocal. -/
import Derived.Test.YtkopdkamhkmefaaCutV
namespace Go.Proofs.Ytkopdkamhkmefaa
set_option maxRecDepth 100000
open Go Go.RowKit
set_option linter.unusedVariables false
set_option linter.unusedSimpArgs false

theorem int_size14 : (Try.prog.info? 3).map (·.size) = some 1 := by kernel_rfl
theorem sl_by_cut {w : World} {A : Option Addr} {n c f : Nat} {l : List UInt8} (h : By w A n c l) (hf : f ≤ n) : Sl w w.heap.size (if c = f then A else A.map (·.add f)) (n - f) (cb (l.drop f)) := by
  have := sl_cut (k := f) h.sl hf h.cap
  rw [show (cb l).drop f = cb (l.drop f) by simp [cb]] at this
  exact this
theorem none_cut {A : Option Addr} {c f : Nat} (h : A = none → c = 0) : (if c = f then A else A.map (·.add f)) = none → c - f = 0 := by
  intro e
  split at e
  · omega
  · rcases A with _ | a
    · have := h rfl; omega
    · cases e

set_option maxRecDepth 100000 in
set_option maxHeartbeats 4000000 in
theorem cutterLocal_walk (v0 : Value) (A1 : Option Addr) (n1 c1 : Nat) (l1 : List UInt8) (A2 : Option Addr) (n2 c2 : Nat) (l2 : List UInt8) (w : World) (h0 : CutIn w v0) (s1 : InBytes w A1 n1 c1 l1) (s2 : InBytes w A2 n2 c2 l2) :
    Calls Try.prog 7 #[v0, .slice A1 n1 c1, .slice A2 n2 c2] w fun e w' => e = .returned (.bool true) ∧ Below w.heap.size w w' := by
  obtain ⟨p, k, mn, mx, rfl, hp, hk, _, _⟩ := h0
  obtain ⟨W0, HW0, b0, hb0, _⟩ := put_f w (cutC p k mn mx) 24
  have y1 : By W0 A1 n1 c1 l1 := s1.bys.nx hb0
  have z1 := s1.none_
  have e1 := s1.len
  have y2 : By W0 A2 n2 c2 l2 := s2.bys.nx hb0
  have z2 := s2.none_
  have e2 := s2.len
  clear s1 s2
  have AW := Lib.hid awake14_any
  obtain ⟨i0, hi, hz0, hz1, hz2⟩ := info_parts u8_info
  by_cases hbig : n1 ≤ 4000 ∧ n2 ≤ 4000
  · obtain ⟨g1, g2⟩ := hbig
    have q1 : ¬ (4000 : Int) < (n1 : Int) := by omega
    have q2 : ¬ (4000 : Int) < (n2 : Int) := by omega
    obtain ⟨L, hL⟩ : ∃ L, L = cutLV p k mn mx l1 := ⟨_, rfl⟩
    obtain ⟨M, hM⟩ : ∃ M, M = cutLV p k mn mx (l1 ++ l2) := ⟨_, rfl⟩
    obtain ⟨E, hE⟩ : ∃ E, E = cutE p mn mx := ⟨_, rfl⟩
    have HL : Hid (L = cutLV p k mn mx l1) := hL
    have HM : Hid (M = cutLV p k mn mx (l1 ++ l2)) := hM
    have HE : Hid (E = cutE p mn mx) := hE
    have hLl : L.length ≤ 1000000 := by rw [hL]; have := cutLV_len p k mn mx l1; omega
    have hMl : M.length ≤ 1000000 := by rw [hM]; have := cutLV_len p k mn mx (l1 ++ l2); simp at this ⊢; omega
    have HF : Hid ((E = 6 ∧ L.length = 0 ∧ M.length = 0) ∨ (E = 0 ∧ (L.length = 0 ∨ ∃ t f, L.length = t + 1 ∧ t + 1 ≤ M.length ∧ L.take t = M.take t ∧ L[0]? = some f ∧ f ≤ n1 ∧ cutLV p k mn mx (l1.drop f) = L.drop 1))) := by
      unfold Hid
      rcases hok : cutOk p mn mx with _ | _
      · exact .inl ⟨by rw [hE]; unfold cutE; rw [hok]; rfl, by rw [hL]; unfold cutLV; rw [hok]; rfl, by rw [hM]; unfold cutLV; rw [hok]; rfl⟩
      · refine .inr ⟨by rw [hE]; unfold cutE; rw [hok]; rfl, ?_⟩
        have eV : ∀ l, cutLV p k mn mx l = cutL p (nb2 p - 1) k mn.toNat mx.toNat l := fun l => by unfold cutLV; rw [if_pos hok]
        rw [eV] at hL hM
        by_cases h0 : L.length = 0
        · exact .inl h0
        · refine .inr ?_
          have hl0 : 0 < l1.length := by
            rcases Nat.eq_zero_or_pos l1.length with h1 | h1
            · exfalso; apply h0; rw [hL, List.eq_nil_of_length_eq_zero h1, cutL_nil]; rfl
            · exact h1
          obtain ⟨t, _, ht⟩ := cutL_local (m := p) (d := nb2 p - 1) (mask := k) (mn := mn.toNat) (mx := mx.toNat) l1 l2 hl0
          rw [← hL, ← hM] at ht
          have hfl := (cutF_le p (nb2 p - 1) k mn.toNat mx.toNat hl0).2
          have hst := cutL_step p (nb2 p - 1) k mn.toNat mx.toNat hl0
          rw [← hL] at hst
          refine ⟨L.length - 1, cutF p (nb2 p - 1) k mn.toNat mx.toNat l1, by omega, ?_, ?_, ?_, by omega, ?_⟩
          · rw [ht, List.length_append, List.length_dropLast]; omega
          · rw [ht, List.take_left' (by rw [List.length_dropLast]), List.dropLast_eq_take]
          · rw [hst]; rfl
          · rw [eV, hst]; rfl
    have HE1 := Lib.hid e1
    have HE2 := Lib.hid e2
    clear hL hM hE e1 e2
    go_enter Try.func7, Try.ntmps7
    go_wp2_with (first
      | (refine wpList_box_agg rfl 24 _ rfl (cutC p k mn mx) rfl ?_; rw [HW0.out])
      | fail)
    obtain ⟨S, hSd⟩ : ∃ S : World → Prop, S = fun w' => ∀ j v, (cutC p k mn mx)[j]? = some v → w'.cell? ((⟨w.heap.size, 0, none⟩ : Addr).add j) = some v := ⟨_, rfl⟩
    have HSI : Hid (∀ w', Below W0.heap.size W0 w' → S w') := by
      unfold Hid; intro w' hb; rw [hSd]
      exact fun j v hv => by rw [Addr.add_mid]; exact (b0.next hb).whole j v hv
    have HS0 : Hid (∀ w', S w' → ∀ j v, (cutC p k mn mx)[j]? = some v → w'.cell? ((⟨w.heap.size, 0, none⟩ : Addr).add j) = some v) := by unfold Hid; intro w' h; rw [hSd] at h; exact h
    clear hSd
    have hbd : Below W0.heap.size W0 W0.drew := (Below.refl _ W0).drew
    have hS := HSI.out _ hbd
    refine wp_region_held_drew (S := S) (by kernel_rfl) hS (fun _ => ?_)
    refine wpAnyH_take (i := 0) (v := .agg (cutC p k mn mx).toArray) rfl (by kernel_rfl) (by kernel_rfl) (by kernel_rfl) (fun _ _ _ h => h) (Or.inl ⟨by rfl, fun w' hSw => exec_load_at w' 24 _ rfl ⟨w.heap.size, 0, none⟩ rfl (cutC p k mn mx) _ (HS0.out w' hSw) Try.underlying24 rfl size_cut⟩) hS ?_
    simp only [List.getElem_toArray, List.getElem_cons_succ, List.getElem_cons_zero, Act.put, List.setIfInBounds_toArray, List.set_cons_zero, List.set_cons_succ]
    refine wpAnyH_take (i := 1) (v := (.slice A1 n1 c1)) rfl (by kernel_rfl) (by kernel_rfl) (by kernel_rfl) (fun _ _ _ h => h) (Or.inl ⟨by rfl, fun _ hSw => by go_simp⟩) hS ?_
    simp only [List.getElem_toArray, List.getElem_cons_succ, List.getElem_cons_zero, Act.put, List.setIfInBounds_toArray, List.set_cons_zero, List.set_cons_succ]
    refine wpAnyH_ready (rs := [2]) (by kernel_rfl) (by simp) (AllReadyH.cons rfl (fun K hK => ?_) AllReadyH.nil)
    simp only [List.getElem_toArray, List.getElem_cons_succ, List.getElem_cons_zero, Act.put, List.setIfInBounds_toArray, List.set_cons_zero, List.set_cons_succ]
    go_simp
    refine (own_any l1 _ _ A1 n1 c1 (y1.nx hbd).sl z1 (by omega) (Nat.le_refl _)).mono ?_
    rintro e w2 ⟨X1, d1, rfl, h1⟩
    have hbx := next hbd h1.below
    replace hS := HSI.out _ hbx
    refine hK.out _ _ hS (fun _ => ?_)
    clear hK K hbd
    refine wpAnyH_ready (rs := [3]) (by kernel_rfl) (by simp) (AllReadyH.cons rfl (fun K hK => ?_) AllReadyH.nil)
    simp only [List.getElem_toArray, List.getElem_cons_succ, List.getElem_cons_zero, Act.put, List.setIfInBounds_toArray, List.set_cons_zero, List.set_cons_succ]
    go_simp
    refine (clens_any p k mn mx l1 w2 X1 n1 d1 h1.bys (by omega) hp hk).mono ?_
    rintro e w3 ⟨X2, d2, rfl, own3, hb3⟩
    rw [← HL.out, ← HE.out]
    rw [← HL.out] at own3
    have u3 := Sl.own own3
    have v3 := own_cap own3
    have x3 := own_none own3
    replace hbx := next hbx hb3
    replace hS := HSI.out _ hbx
    refine hK.out _ _ hS (fun _ => ?_)
    clear hK K h1 own3 hb3
    refine wpAnyH_take (i := 4) (v := (.tuple #[.slice X2 L.length d2, .int .i64 E])) rfl (by kernel_rfl) (by kernel_rfl) (by kernel_rfl) (fun _ _ _ h => h) (Or.inl ⟨by rfl, fun _ hSw => by go_simp⟩) hS ?_
    simp only [List.getElem_toArray, List.getElem_cons_succ, List.getElem_cons_zero, Act.put, List.setIfInBounds_toArray, List.set_cons_zero, List.set_cons_succ]
    refine wpAnyH_take (i := 5) (v := (.slice X2 L.length d2)) rfl (by kernel_rfl) (by kernel_rfl) (by kernel_rfl) (fun _ _ _ h => h) (Or.inl ⟨by rfl, fun _ hSw => by go_simp⟩) hS ?_
    simp only [List.getElem_toArray, List.getElem_cons_succ, List.getElem_cons_zero, Act.put, List.setIfInBounds_toArray, List.set_cons_zero, List.set_cons_succ]
    refine wpAnyH_take (i := 6) (v := (.int .i64 E)) rfl (by kernel_rfl) (by kernel_rfl) (by kernel_rfl) (fun _ _ _ h => h) (Or.inl ⟨by rfl, fun _ hSw => by go_simp⟩) hS ?_
    simp only [List.getElem_toArray, List.getElem_cons_succ, List.getElem_cons_zero, Act.put, List.setIfInBounds_toArray, List.set_cons_zero, List.set_cons_succ]
    refine wpAnyH_take (i := 7) (v := (.slice X2 L.length d2)) rfl (by kernel_rfl) (by kernel_rfl) (by kernel_rfl) (fun _ _ _ h => h) (Or.inl ⟨by rfl, fun _ hSw => by go_simp⟩) hS ?_
    simp only [List.getElem_toArray, List.getElem_cons_succ, List.getElem_cons_zero, Act.put, List.setIfInBounds_toArray, List.set_cons_zero, List.set_cons_succ]
    refine wpAnyH_take (i := 8) (v := (.int .i64 E)) rfl (by kernel_rfl) (by kernel_rfl) (by kernel_rfl) (fun _ _ _ h => h) (Or.inl ⟨by rfl, fun _ hSw => by go_simp⟩) hS ?_
    simp only [List.getElem_toArray, List.getElem_cons_succ, List.getElem_cons_zero, Act.put, List.setIfInBounds_toArray, List.set_cons_zero, List.set_cons_succ]
    refine wpAnyH_done (by kernel_rfl) ?_ _
    have b3 := b0.next hbx
    have hb3 := next hb0 hbx
    have y13 := y1.nx hbx
    have y23 := y2.nx hbx
    clear HSI HS0 hS hbx y1 y2 b0 hb0
    go_wp2_with fail
    obtain ⟨S, hSd⟩ : ∃ S : World → Prop, S = fun w' => ∀ j v, (cutC p k mn mx)[j]? = some v → w'.cell? ((⟨w.heap.size, 0, none⟩ : Addr).add j) = some v := ⟨_, rfl⟩
    have HSI : Hid (∀ w', Below w3.heap.size w3 w' → S w') := by
      unfold Hid; intro w' hb; rw [hSd]
      exact fun j v hv => by rw [Addr.add_mid]; exact (b3.next hb).whole j v hv
    have HS0 : Hid (∀ w', S w' → ∀ j v, (cutC p k mn mx)[j]? = some v → w'.cell? ((⟨w.heap.size, 0, none⟩ : Addr).add j) = some v) := by unfold Hid; intro w' h; rw [hSd] at h; exact h
    clear hSd
    have hbd : Below w3.heap.size w3 w3.drew := (Below.refl _ w3).drew
    have hS := HSI.out _ hbd
    refine wp_region_held_drew (S := S) (by kernel_rfl) hS (fun _ => ?_)
    refine wpAnyH_take (i := 0) (v := .agg (cutC p k mn mx).toArray) rfl (by kernel_rfl) (by kernel_rfl) (by kernel_rfl) (fun _ _ _ h => h) (Or.inl ⟨by rfl, fun w' hSw => exec_load_at w' 24 _ rfl ⟨w.heap.size, 0, none⟩ rfl (cutC p k mn mx) _ (HS0.out w' hSw) Try.underlying24 rfl size_cut⟩) hS ?_
    simp only [List.getElem_toArray, List.getElem_cons_succ, List.getElem_cons_zero, Act.put, List.setIfInBounds_toArray, List.set_cons_zero, List.set_cons_succ]
    refine wpAnyH_take (i := 1) (v := (.slice A1 n1 c1)) rfl (by kernel_rfl) (by kernel_rfl) (by kernel_rfl) (fun _ _ _ h => h) (Or.inl ⟨by rfl, fun _ hSw => by go_simp⟩) hS ?_
    simp only [List.getElem_toArray, List.getElem_cons_succ, List.getElem_cons_zero, Act.put, List.setIfInBounds_toArray, List.set_cons_zero, List.set_cons_succ]
    refine wpAnyH_take (i := 3) (v := (.slice A2 n2 c2)) rfl (by kernel_rfl) (by kernel_rfl) (by kernel_rfl) (fun _ _ _ h => h) (Or.inl ⟨by rfl, fun _ hSw => by go_simp⟩) hS ?_
    simp only [List.getElem_toArray, List.getElem_cons_succ, List.getElem_cons_zero, Act.put, List.setIfInBounds_toArray, List.set_cons_zero, List.set_cons_succ]
    refine wpAnyH_ready (rs := [2]) (by kernel_rfl) (by simp) (AllReadyH.cons rfl (fun K hK => ?_) AllReadyH.nil)
    simp only [List.getElem_toArray, List.getElem_cons_succ, List.getElem_cons_zero, Act.put, List.setIfInBounds_toArray, List.set_cons_zero, List.set_cons_succ]
    go_simp
    refine (own_any l1 _ _ A1 n1 c1 (y13.nx hbd).sl z1 (by omega) (Nat.le_refl _)).mono ?_
    rintro e w4 ⟨X4, d4, rfl, h4⟩
    have hbx := next hbd h4.below
    replace hS := HSI.out _ hbx
    refine hK.out _ _ hS (fun _ => ?_)
    clear hK K hbd
    have own4 : w4.ownsRow w3.heap.size 5 1 (.slice X4 n1 d4) n1 (cb l1) := h4.own
    obtain ⟨v6, w6, hr6, o6, g6, _⟩ := run_append_sl (P := Try.prog) w4 w3.heap.size 25 25 5 i0 (.int .u8 0) 1 Try.underlying25 hi hz0 hz1 hz2 rfl _ n1 _ own4 _ A2 n2 c2 (cb l2) (y23.nx hbx).sl z2 (cb_one _) (by unfold maxLen; omega) (by omega) hbx.size
    obtain ⟨X6, d6, rfl⟩ := own_form o6
    replace hbx : Below w3.heap.size w3 w6 := below_app hbx (Nat.le_refl _) own4 g6
    rw [← cb_append] at o6
    have cp6 := own_cap o6
    have nn6 := own_none o6
    have s6 := Sl.own o6
    have HR6 := Lib.hid hr6
    replace hS := HSI.out _ hbx
    clear hr6 g6 o6 own4 h4
    refine wpAnyH_one (i := 4) (by kernel_rfl) rfl (by rfl) (fun K hK => ?_)
    simp only [List.getElem_toArray, List.getElem_cons_succ, List.getElem_cons_zero, Act.put, List.setIfInBounds_toArray, List.set_cons_zero, List.set_cons_succ]
    refine op_append14 _ _ 25 rfl _ _ _ rfl rfl HR6.out ?_
    refine hK.out _ _ hS (fun _ => ?_)
    clear hK K HR6
    refine wpAnyH_ready (rs := [5]) (by kernel_rfl) (by simp) (AllReadyH.cons rfl (fun K hK => ?_) AllReadyH.nil)
    simp only [List.getElem_toArray, List.getElem_cons_succ, List.getElem_cons_zero, Act.put, List.setIfInBounds_toArray, List.set_cons_zero, List.set_cons_succ]
    go_simp
    refine (clens_any p k mn mx (l1 ++ l2) w6 X6 (n1 + n2) d6 ⟨s6, by rw [List.length_append, ← HE1.out, ← HE2.out], cp6, nn6⟩ (by omega) hp hk).mono ?_
    rintro e w7 ⟨X7, d7, rfl, own7, hb7⟩
    rw [← HM.out, ← HE.out]
    rw [← HM.out] at own7
    have u7 := Sl.own own7
    have v7 := own_cap own7
    replace hbx := next hbx hb7
    replace hS := HSI.out _ hbx
    refine hK.out _ _ hS (fun _ => ?_)
    clear hK K own7 hb7 s6
    refine wpAnyH_take (i := 6) (v := (.tuple #[.slice X7 M.length d7, .int .i64 E])) rfl (by kernel_rfl) (by kernel_rfl) (by kernel_rfl) (fun _ _ _ h => h) (Or.inl ⟨by rfl, fun _ hSw => by go_simp⟩) hS ?_
    simp only [List.getElem_toArray, List.getElem_cons_succ, List.getElem_cons_zero, Act.put, List.setIfInBounds_toArray, List.set_cons_zero, List.set_cons_succ]
    refine wpAnyH_take (i := 7) (v := (.slice X7 M.length d7)) rfl (by kernel_rfl) (by kernel_rfl) (by kernel_rfl) (fun _ _ _ h => h) (Or.inl ⟨by rfl, fun _ hSw => by go_simp⟩) hS ?_
    simp only [List.getElem_toArray, List.getElem_cons_succ, List.getElem_cons_zero, Act.put, List.setIfInBounds_toArray, List.set_cons_zero, List.set_cons_succ]
    refine wpAnyH_take (i := 8) (v := (.int .i64 E)) rfl (by kernel_rfl) (by kernel_rfl) (by kernel_rfl) (fun _ _ _ h => h) (Or.inl ⟨by rfl, fun _ hSw => by go_simp⟩) hS ?_
    simp only [List.getElem_toArray, List.getElem_cons_succ, List.getElem_cons_zero, Act.put, List.setIfInBounds_toArray, List.set_cons_zero, List.set_cons_succ]
    refine wpAnyH_take (i := 9) (v := (.slice X7 M.length d7)) rfl (by kernel_rfl) (by kernel_rfl) (by kernel_rfl) (fun _ _ _ h => h) (Or.inl ⟨by rfl, fun _ hSw => by go_simp⟩) hS ?_
    simp only [List.getElem_toArray, List.getElem_cons_succ, List.getElem_cons_zero, Act.put, List.setIfInBounds_toArray, List.set_cons_zero, List.set_cons_succ]
    refine wpAnyH_take (i := 10) (v := (.int .i64 E)) rfl (by kernel_rfl) (by kernel_rfl) (by kernel_rfl) (fun _ _ _ h => h) (Or.inl ⟨by rfl, fun _ hSw => by go_simp⟩) hS ?_
    simp only [List.getElem_toArray, List.getElem_cons_succ, List.getElem_cons_zero, Act.put, List.setIfInBounds_toArray, List.set_cons_zero, List.set_cons_succ]
    refine wpAnyH_done (by kernel_rfl) ?_ _
    have b7 := b3.next hbx
    have hb7 := next hb3 hbx
    have y17 := y13.nx hbx
    replace u3 := u3.nx hbx
    clear HSI HS0 hS hbx y13 y23 b3 hb3
    rcases HF.out with ⟨rfl, hl0, hm0⟩ | ⟨rfl, hl0 | ⟨t, f, ht, htm, htk, hf, hfn, hdr⟩⟩
    · clear HF HL HM HE hLl hMl u3 u7
      go_wp2_with (first
        | (go_at_call 8; refine (AW.out _).mono ?_; rintro e w10 ⟨rfl, hb10⟩)
        | fail)
      go_ret
      exact ⟨rfl, next hb7 hb10⟩
    · clear HF HL HM HE hLl hMl u3 u7
      go_wp2_with (first
        | (go_at_call 8; refine (AW.out _).mono ?_; rintro e w10 ⟨rfl, hb10⟩)
        | fail)
      go_ret
      exact ⟨rfl, next hb7 hb10⟩
    · obtain ⟨R, hR⟩ : ∃ R, R = L.drop 1 := ⟨_, rfl⟩
      rw [← hR] at hdr
      have HRL : Hid (R.length = L.length - 1) := by unfold Hid; rw [hR]; simp
      have HRD : Hid ((is L).drop 1 = is R) := by unfold Hid; rw [hR]; simp [is]
      have hRl : R.length ≤ 1000000 := by rw [hR]; simp; omega
      clear hR
      have HDR := Lib.hid hdr
      have HTK := Lib.hid htk
      have HF0 := Lib.hid hf
      have q3 : ¬ (M.length : Int) < (L.length : Int) := by omega
      have q3b : (M.length < L.length) = False := eq_false (by omega)
      have q4 : ¬ (L.length : Int) = 0 := by omega
      have q5 : ¬ L.length = 0 := by omega
      have HTT := Lib.hid ht
      have HTM := Lib.hid htm
      clear HF hdr htk hf ht htm
      go_wp2_with fail
      go_still_tail 16, (by kernel_rfl)
      have HLM := Lib.hid (And.intro hLl hMl)
      have HSM := Lib.hid (same14_any (L.take t) (M.take t) true (by rw [HTK.out]; simp))
      have eT : is (L.take t) = (is L).take t := by simp [is]
      have eM : is (M.take t) = (is M).take t := by simp [is]
      rw [eT, eM] at HSM
      repeat (refine wpStill_guarded (by kernel_rfl) (fun K hK => ?_); go_simp; refine hK _ ?_; clear hK K)
      refine wpStill_slice_h (by kernel_rfl) 28 _ _ rfl 3 Try.underlying28 int_size14 X2 L.length d2 t .i64 _ rfl rfl ?eH (by have := HTT.out; omega) ?_
      case eH =>
        have := HTT.out
        have := HLM.out.1
        rw [IntKind.wrap_i64]
        omega
      simp only [Act.put, List.setIfInBounds_toArray, List.set_cons_zero, List.set_cons_succ]
      repeat (refine wpStill_guarded (by kernel_rfl) (fun K hK => ?_); go_simp; refine hK _ ?_; clear hK K)
      refine wpStill_slice_h (by kernel_rfl) 28 _ _ rfl 3 Try.underlying28 int_size14 X7 M.length d7 t .i64 _ rfl rfl ?eH (by have := HTM.out; omega) ?_
      case eH =>
        have := HTT.out
        have := HLM.out.1
        rw [IntKind.wrap_i64]
        omega
      simp only [Act.put, List.setIfInBounds_toArray, List.set_cons_zero, List.set_cons_succ]
      refine wpStill_nil ?_
      change wpList _ _ _ _ _ w7.drew
      have hbd7 : Below w7.heap.size w7 w7.drew := (Below.refl _ w7).drew
      have ut := sl_take (h := t) (u3.nx hbd7) (by have := HTT.out; omega)
      have um := sl_take (h := t) (u7.nx hbd7) (by have := HTM.out; omega)
      obtain ⟨ad, rfl, hab, hac⟩ := u3.2 (by omega)
      have hc7 : w7.cell? (ad.add 0) = some (.int .i64 (f : Int)) := hac 0 _ (by simp [is, HF0.out]; rfl)
      have HAC := Lib.hid hac
      clear eT eM hLl hMl hac
      go_wp2_with (first
        | (go_at_call 13; refine (HSM.out w7.drew _ _ _ _ _ _ _ _ ut um (Nat.le_refl _) (Nat.le_refl _) (by have := HTT.out; have := HLM.out.1; omega) (by have := HTT.out; have := HLM.out.1; omega)).mono ?_; rintro e w8 ⟨rfl, hb8⟩; replace hb8 := next hbd7 hb8; have b8 := b7.next hb8; have y18 := y17.nx hb8; have hc8 : w8.cell? (ad.add 0) = some (.int .i64 (f : Int)) := (hb8.cell (by rw [add_block]; omega)).trans hc7; have hc9 : w8.cell? ad = some (.int .i64 (f : Int)) := (by rw [add_none] at hc8; exact hc8); have q6 : ¬ (n1 : Int) < (f : Int) := (by omega); have q7 : ¬ (f : Int) < 0 := (by omega); clear ut um hbd7 hc7)
        | fail)
      obtain ⟨S, hSd⟩ : ∃ S : World → Prop, S = fun w' => (∀ j v, (cutC p k mn mx)[j]? = some v → w'.cell? ((⟨w.heap.size, 0, none⟩ : Addr).add j) = some v) ∧ w'.cell? ad = some (.int .i64 (f : Int)) := ⟨_, rfl⟩
      have HSI : Hid (∀ w', Below w8.heap.size w8 w' → S w') := by
        unfold Hid; intro w' hb; rw [hSd]
        exact ⟨fun j v hv => by rw [Addr.add_mid]; exact (b8.next hb).whole j v hv, (hb.cell (Nat.lt_of_lt_of_le hab hb8.size)).trans hc9⟩
      have HS0 : Hid (∀ w', S w' → ∀ j v, (cutC p k mn mx)[j]? = some v → w'.cell? ((⟨w.heap.size, 0, none⟩ : Addr).add j) = some v) := by unfold Hid; intro w' h; rw [hSd] at h; exact h.1
      have HS1 : Hid (∀ w', S w' → w'.cell? ad = some (.int .i64 (f : Int))) := by unfold Hid; intro w' h; rw [hSd] at h; exact h.2
      clear hSd
      obtain ⟨A8, hA8⟩ : ∃ A', A' = if c1 = f then A1 else A1.map (·.add f) := ⟨_, rfl⟩
      have hbd8 : Below w8.heap.size w8 w8.drew := (Below.refl _ w8).drew
      have s8 := sl_by_cut (y18.nx hbd8) hfn
      have z8 := none_cut (f := f) z1
      rw [← hA8] at s8 z8
      have HA8 := Lib.hid hA8.symm
      clear hA8 hc8 hc9
      have hS := HSI.out _ hbd8
      refine wp_region_held_drew (S := S) (by kernel_rfl) hS (fun _ => ?_)
      refine wpAnyH_take (i := 0) (v := .agg (cutC p k mn mx).toArray) rfl (by kernel_rfl) (by kernel_rfl) (by kernel_rfl) (fun _ _ _ h => h) (Or.inl ⟨by rfl, fun w' hSw => exec_load_at w' 24 _ rfl ⟨w.heap.size, 0, none⟩ rfl (cutC p k mn mx) _ (HS0.out w' hSw) Try.underlying24 rfl size_cut⟩) hS ?_
      simp only [List.getElem_toArray, List.getElem_cons_succ, List.getElem_cons_zero, Act.put, List.setIfInBounds_toArray, List.set_cons_zero, List.set_cons_succ]
      refine wpAnyH_take (i := 1) (v := (.slice A1 n1 c1)) rfl (by kernel_rfl) (by kernel_rfl) (by kernel_rfl) (fun _ _ _ h => h) (Or.inl ⟨by rfl, fun _ hSw => by go_simp⟩) hS ?_
      simp only [List.getElem_toArray, List.getElem_cons_succ, List.getElem_cons_zero, Act.put, List.setIfInBounds_toArray, List.set_cons_zero, List.set_cons_succ]
      refine wpAnyH_take (i := 2) (v := (.slice (some ad) L.length d2)) rfl (by kernel_rfl) (by kernel_rfl) (by kernel_rfl) (fun _ _ _ h => h) (Or.inl ⟨by rfl, fun _ hSw => by go_simp⟩) hS ?_
      simp only [List.getElem_toArray, List.getElem_cons_succ, List.getElem_cons_zero, Act.put, List.setIfInBounds_toArray, List.set_cons_zero, List.set_cons_succ]
      have q8 : (0 : Int) < (L.length : Int) := by omega
      have q9 : 0 < L.length := by omega
      refine wpAnyH_take (i := 3) (v := (.pointer (some ad))) rfl (by kernel_rfl) (by kernel_rfl) (by kernel_rfl) (fun _ _ _ h => h) (Or.inl ⟨by rfl, fun _ hSw => by go_simp⟩) hS ?_
      simp only [List.getElem_toArray, List.getElem_cons_succ, List.getElem_cons_zero, Act.put, List.setIfInBounds_toArray, List.set_cons_zero, List.set_cons_succ]
      refine wpAnyH_take (i := 4) (v := .int .i64 (f : Int)) rfl (by kernel_rfl) (by kernel_rfl) (by kernel_rfl) (fun _ _ _ h => h) (Or.inl ⟨by rfl, fun w' hSw => by have h9 := HS1.out w' hSw; go_simp⟩) hS ?_
      simp only [List.getElem_toArray, List.getElem_cons_succ, List.getElem_cons_zero, Act.put, List.setIfInBounds_toArray, List.set_cons_zero, List.set_cons_succ]
      refine wpAnyH_take (i := 5) (v := (.slice A8 (n1 - f) (c1 - f))) rfl (by kernel_rfl) (by kernel_rfl) (by kernel_rfl) (fun _ _ _ h => h) (Or.inl ⟨by rfl, fun _ hSw => by go_simp; exact HA8.out⟩) hS ?_
      simp only [List.getElem_toArray, List.getElem_cons_succ, List.getElem_cons_zero, Act.put, List.setIfInBounds_toArray, List.set_cons_zero, List.set_cons_succ]
      refine wpAnyH_ready (rs := [6]) (by kernel_rfl) (by simp) (AllReadyH.cons rfl (fun K hK => ?_) AllReadyH.nil)
      simp only [List.getElem_toArray, List.getElem_cons_succ, List.getElem_cons_zero, Act.put, List.setIfInBounds_toArray, List.set_cons_zero, List.set_cons_succ]
      go_simp
      refine (own_any (l1.drop f) _ _ A8 (n1 - f) (c1 - f) s8 z8 (by omega) (Nat.le_refl _)).mono ?_
      rintro e w9 ⟨X9, d9, rfl, h9⟩
      have hbx := next hbd8 h9.below
      replace hS := HSI.out _ hbx
      refine hK.out _ _ hS (fun _ => ?_)
      clear hK K
      refine wpAnyH_ready (rs := [7]) (by kernel_rfl) (by simp) (AllReadyH.cons rfl (fun K hK => ?_) AllReadyH.nil)
      simp only [List.getElem_toArray, List.getElem_cons_succ, List.getElem_cons_zero, Act.put, List.setIfInBounds_toArray, List.set_cons_zero, List.set_cons_succ]
      go_simp
      refine (clens_any p k mn mx (l1.drop f) w9 X9 (n1 - f) d9 h9.bys (by omega) hp hk).mono ?_
      rintro e w11 ⟨X11, d11, rfl, own11, hb11⟩
      rw [HDR.out] at own11 ⊢
      rw [← HE.out]
      have u11 := Sl.own own11
      replace hbx := next hbx hb11
      replace hS := HSI.out _ hbx
      refine hK.out _ _ hS (fun _ => ?_)
      clear hK K h9 own11 hb11
      refine wpAnyH_take (i := 8) (v := (.tuple #[.slice X11 R.length d11, .int .i64 0])) rfl (by kernel_rfl) (by kernel_rfl) (by kernel_rfl) (fun _ _ _ h => h) (Or.inl ⟨by rfl, fun _ hSw => by go_simp⟩) hS ?_
      simp only [List.getElem_toArray, List.getElem_cons_succ, List.getElem_cons_zero, Act.put, List.setIfInBounds_toArray, List.set_cons_zero, List.set_cons_succ]
      refine wpAnyH_take (i := 9) (v := (.slice X11 R.length d11)) rfl (by kernel_rfl) (by kernel_rfl) (by kernel_rfl) (fun _ _ _ h => h) (Or.inl ⟨by rfl, fun _ hSw => by go_simp⟩) hS ?_
      simp only [List.getElem_toArray, List.getElem_cons_succ, List.getElem_cons_zero, Act.put, List.setIfInBounds_toArray, List.set_cons_zero, List.set_cons_succ]
      refine wpAnyH_take (i := 10) (v := (.int .i64 0)) rfl (by kernel_rfl) (by kernel_rfl) (by kernel_rfl) (fun _ _ _ h => h) (Or.inl ⟨by rfl, fun _ hSw => by go_simp⟩) hS ?_
      simp only [List.getElem_toArray, List.getElem_cons_succ, List.getElem_cons_zero, Act.put, List.setIfInBounds_toArray, List.set_cons_zero, List.set_cons_succ]
      refine wpAnyH_take (i := 11) (v := (.slice X11 R.length d11)) rfl (by kernel_rfl) (by kernel_rfl) (by kernel_rfl) (fun _ _ _ h => h) (Or.inl ⟨by rfl, fun _ hSw => by go_simp⟩) hS ?_
      simp only [List.getElem_toArray, List.getElem_cons_succ, List.getElem_cons_zero, Act.put, List.setIfInBounds_toArray, List.set_cons_zero, List.set_cons_succ]
      refine wpAnyH_take (i := 12) (v := (.int .i64 0)) rfl (by kernel_rfl) (by kernel_rfl) (by kernel_rfl) (fun _ _ _ h => h) (Or.inl ⟨by rfl, fun _ hSw => by go_simp⟩) hS ?_
      simp only [List.getElem_toArray, List.getElem_cons_succ, List.getElem_cons_zero, Act.put, List.setIfInBounds_toArray, List.set_cons_zero, List.set_cons_succ]
      refine wpAnyH_done (by kernel_rfl) ?_ _
      have hb11 := next hb7 (next hb8 hbx)
      have u3x : Sl w11 w11.heap.size (some ad) L.length (is L) := (Sl.nx ⟨by simp [is], fun hn => ⟨ad, rfl, hab, HAC.out⟩⟩ hb8).nx hbx
      have u3y := sl_cut (k := 1) (c := d2) u3x (by omega) v3
      rw [HRD.out] at u3y
      have HSD := Lib.hid (same14_any R R true (by simp))
      clear HSI HS0 HS1 hS hbx s8 z8 u3x
      go_wp2_with (first
        | (refine wpList_slice_fromG (by kernel_rfl) 28 _ _ rfl 3 Try.underlying28 int_size14 (some ad) L.length d2 1 .i64 _ rfl rfl rfl (by omega) v3 (by intro h; cases h) ?_; intro A9 HA9; rw [← HA9.out] at u3y)
        | (go_at_call 13; refine (HSD.out w11 _ _ _ _ _ _ _ _ u11 u3y (Nat.le_refl _) (Nat.le_refl _) hRl (by have := HLM.out.1; omega)).mono ?_; rintro e w12 ⟨rfl, hb12⟩; replace hb11 := next hb11 hb12; clear u11 u3y hb12)
        | (go_at_call 8; refine (AW.out _).mono ?_; rintro e w10 ⟨rfl, hb10⟩)
        | fail)
      go_ret
      exact ⟨rfl, next hb11 hb10⟩
  · have hq : n1 ≤ 4000 → ¬ n2 ≤ 4000 := fun h1 h2 => hbig ⟨h1, h2⟩
    by_cases h1 : n1 ≤ 4000
    · have q1 : ¬ (4000 : Int) < (n1 : Int) := by omega
      have q2 : (4000 : Int) < (n2 : Int) := by have := hq h1; omega
      go_enter Try.func7, Try.ntmps7
      go_wp2_with (first
        | (refine wpList_box_agg rfl 24 _ rfl (cutC p k mn mx) rfl ?_; rw [HW0.out])
        | (go_at_call 8; refine (AW.out _).mono ?_; rintro e w10 ⟨rfl, hb10⟩)
        | fail)
      go_ret
      exact ⟨rfl, next hb0 hb10⟩
    · have q1 : (4000 : Int) < (n1 : Int) := by omega
      go_enter Try.func7, Try.ntmps7
      go_wp2_with (first
        | (refine wpList_box_agg rfl 24 _ rfl (cutC p k mn mx) rfl ?_; rw [HW0.out])
        | (go_at_call 8; refine (AW.out _).mono ?_; rintro e w10 ⟨rfl, hb10⟩)
        | fail)
      go_ret
      exact ⟨rfl, next hb0 hb10⟩

end Go.Proofs.Ytkopdkamhkmefaa
