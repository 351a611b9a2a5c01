/- The walk of the law CutterSums, of up to 1048576 bytes. -/
import Derived.Test.YtkopdkamhkmefaaCutV
namespace Go.Proofs.Ytkopdkamhkmefaa
set_option maxRecDepth 100000
open Go Go.RowKit
set_option linter.unusedVariables false
set_option linter.unusedSimpArgs false

theorem sum_take (l : List Nat) (k : Nat) (h : k < l.length) : (l.take (k + 1)).sum = (l.take k).sum + l[k] := by
  rw [List.take_succ_eq_append_getElem h, List.sum_append]; simp
theorem sum_take_le : ∀ (l : List Nat) (k : Nat), (l.take k).sum ≤ l.sum
  | [], k => by simp
  | x :: l, 0 => by simp
  | x :: l, k + 1 => by rw [List.take_succ_cons, List.sum_cons, List.sum_cons]; have := sum_take_le l k; omega

set_option maxRecDepth 100000 in
set_option maxHeartbeats 4000000 in
theorem cutterSums_small (v0 : Value) (A1 : Option Addr) (n1 c1 : Nat) (l1 : List UInt8) (w : World) (h0 : CutIn w v0) (s1 : InBytes w A1 n1 c1 l1) (hbk : n1 ≤ 2000000) :
    Calls Try.prog 6 #[v0, .slice A1 n1 c1] w fun e w' => e = .returned (.bool true) ∧ Below w.heap.size w w' := by
  obtain ⟨p, k, mn, mx, rfl, hp, hk, _, _⟩ := h0
  obtain ⟨W0, HW0, b0, hb0, _⟩ := put_f w (cutC p k mn mx) 24
  have y1 : By W0 A1 n1 c1 l1 := s1.bys.nx hb0
  have z1 := s1.none_
  have e1 := s1.len
  clear s1
  have AW := Lib.hid awake14_any
  obtain ⟨L, hL⟩ : ∃ L, L = cutLV p k mn mx l1 := ⟨_, rfl⟩
  obtain ⟨E, hE⟩ : ∃ E, E = cutE p mn mx := ⟨_, rfl⟩
  have HL : Hid (L = cutLV p k mn mx l1) := hL
  have HE : Hid (E = cutE p mn mx) := hE
  have hLl : L.length ≤ 2000000 := by rw [hL]; have := cutLV_len p k mn mx l1; omega
  have HF : Hid ((E = 6 ∧ L.length = 0) ∨ (E = 0 ∧ L.sum = n1 ∧ (∀ (i x : Nat), L[i]? = some x → 1 ≤ x ∧ (x : Int) ≤ mx) ∧ ∀ (i x : Nat), i + 1 < L.length → L[i]? = some x → mn ≤ (x : Int))) := by
    unfold Hid
    rcases hok : cutOk p mn mx with _ | _
    · exact .inl ⟨by rw [hE]; unfold cutE; rw [hok]; rfl, by rw [hL]; unfold cutLV; rw [hok]; rfl⟩
    · obtain ⟨k0, k1, k2, k3⟩ := cutOk_of hok
      have e : L = cutL p (nb2 p - 1) k mn.toNat mx.toNat l1 := by rw [hL]; unfold cutLV; rw [if_pos hok]
      refine .inr ⟨by rw [hE]; unfold cutE; rw [hok]; rfl, by rw [e, cutL_total, e1], fun i x h => ?_, fun i x h h2 => ?_⟩
      · rw [e] at h
        have := cutL_each (by omega) l1 i x h
        omega
      · rw [e] at h h2
        have := cutL_min (by omega) l1 i x h h2
        omega
  clear hL hE e1
  go_enter Try.func6, Try.ntmps6
  go_wp2_with (first
    | (refine wpList_box_agg rfl 24 _ rfl (cutC p k mn mx) rfl ?_; rw [HW0.out])
    | fail)
  obtain ⟨S, hSd⟩ : ∃ S : World → Prop, S = fun w' => ∀ j v, (cutC p k mn mx)[j]? = some v → w'.cell? ((⟨w.heap.size, 0, none⟩ : Addr).add j) = some v := ⟨_, rfl⟩
  have HSI : Hid (∀ w', Below W0.heap.size W0 w' → S w') := by
    unfold Hid; intro w' hb; rw [hSd]
    exact fun j v hv => by rw [Addr.add_mid]; exact (b0.next hb).whole j v hv
  have HS0 : Hid (∀ w', S w' → ∀ j v, (cutC p k mn mx)[j]? = some v → w'.cell? ((⟨w.heap.size, 0, none⟩ : Addr).add j) = some v) := by unfold Hid; intro w' h; rw [hSd] at h; exact h
  clear hSd
  have hbd : Below W0.heap.size W0 W0.drew := (Below.refl _ W0).drew
  have hS := HSI.out _ hbd
  refine wp_region_held_drew (S := S) (by kernel_rfl) hS (fun _ => ?_)
  refine wpAnyH_take (i := 0) (v := .agg (cutC p k mn mx).toArray) rfl (by kernel_rfl) (by kernel_rfl) (by kernel_rfl) (fun _ _ _ h => h) (Or.inl ⟨by rfl, fun w' hSw => exec_load_at w' 24 _ rfl ⟨w.heap.size, 0, none⟩ rfl (cutC p k mn mx) _ (HS0.out w' hSw) Try.underlying24 rfl size_cut⟩) hS ?_
  simp only [List.getElem_toArray, List.getElem_cons_succ, List.getElem_cons_zero, Act.put, List.setIfInBounds_toArray, List.set_cons_zero, List.set_cons_succ]
  refine wpAnyH_take (i := 1) (v := (.slice A1 n1 c1)) rfl (by kernel_rfl) (by kernel_rfl) (by kernel_rfl) (fun _ _ _ h => h) (Or.inl ⟨by rfl, fun _ hSw => by go_simp⟩) hS ?_
  simp only [List.getElem_toArray, List.getElem_cons_succ, List.getElem_cons_zero, Act.put, List.setIfInBounds_toArray, List.set_cons_zero, List.set_cons_succ]
  refine wpAnyH_ready (rs := [2]) (by kernel_rfl) (by simp) (AllReadyH.cons rfl (fun K hK => ?_) AllReadyH.nil)
  simp only [List.getElem_toArray, List.getElem_cons_succ, List.getElem_cons_zero, Act.put, List.setIfInBounds_toArray, List.set_cons_zero, List.set_cons_succ]
  go_simp
  refine (own_any l1 _ _ A1 n1 c1 (y1.nx hbd).sl z1 (by omega) (Nat.le_refl _)).mono ?_
  rintro e w2 ⟨X1, d1, rfl, h1⟩
  have hbx := next hbd h1.below
  replace hS := HSI.out _ hbx
  refine hK.out _ _ hS (fun _ => ?_)
  clear hK K hbd
  refine wpAnyH_ready (rs := [3]) (by kernel_rfl) (by simp) (AllReadyH.cons rfl (fun K hK => ?_) AllReadyH.nil)
  simp only [List.getElem_toArray, List.getElem_cons_succ, List.getElem_cons_zero, Act.put, List.setIfInBounds_toArray, List.set_cons_zero, List.set_cons_succ]
  go_simp
  refine (clens_any p k mn mx l1 w2 X1 n1 d1 h1.bys (by omega) hp hk).mono ?_
  rintro e w3 ⟨X2, d2, rfl, own3, hb3⟩
  rw [← HL.out, ← HE.out]
  rw [← HL.out] at own3
  have u3 := Sl.own own3
  replace hbx := next hbx hb3
  replace hS := HSI.out _ hbx
  refine hK.out _ _ hS (fun _ => ?_)
  clear hK K h1 own3 hb3
  refine wpAnyH_take (i := 4) (v := (.tuple #[.slice X2 L.length d2, .int .i64 E])) rfl (by kernel_rfl) (by kernel_rfl) (by kernel_rfl) (fun _ _ _ h => h) (Or.inl ⟨by rfl, fun _ hSw => by go_simp⟩) hS ?_
  simp only [List.getElem_toArray, List.getElem_cons_succ, List.getElem_cons_zero, Act.put, List.setIfInBounds_toArray, List.set_cons_zero, List.set_cons_succ]
  refine wpAnyH_take (i := 5) (v := (.slice X2 L.length d2)) rfl (by kernel_rfl) (by kernel_rfl) (by kernel_rfl) (fun _ _ _ h => h) (Or.inl ⟨by rfl, fun _ hSw => by go_simp⟩) hS ?_
  simp only [List.getElem_toArray, List.getElem_cons_succ, List.getElem_cons_zero, Act.put, List.setIfInBounds_toArray, List.set_cons_zero, List.set_cons_succ]
  refine wpAnyH_take (i := 6) (v := (.int .i64 E)) rfl (by kernel_rfl) (by kernel_rfl) (by kernel_rfl) (fun _ _ _ h => h) (Or.inl ⟨by rfl, fun _ hSw => by go_simp⟩) hS ?_
  simp only [List.getElem_toArray, List.getElem_cons_succ, List.getElem_cons_zero, Act.put, List.setIfInBounds_toArray, List.set_cons_zero, List.set_cons_succ]
  refine wpAnyH_take (i := 7) (v := (.slice X2 L.length d2)) rfl (by kernel_rfl) (by kernel_rfl) (by kernel_rfl) (fun _ _ _ h => h) (Or.inl ⟨by rfl, fun _ hSw => by go_simp⟩) hS ?_
  simp only [List.getElem_toArray, List.getElem_cons_succ, List.getElem_cons_zero, Act.put, List.setIfInBounds_toArray, List.set_cons_zero, List.set_cons_succ]
  refine wpAnyH_take (i := 8) (v := (.int .i64 E)) rfl (by kernel_rfl) (by kernel_rfl) (by kernel_rfl) (fun _ _ _ h => h) (Or.inl ⟨by rfl, fun _ hSw => by go_simp⟩) hS ?_
  simp only [List.getElem_toArray, List.getElem_cons_succ, List.getElem_cons_zero, Act.put, List.setIfInBounds_toArray, List.set_cons_zero, List.set_cons_succ]
  refine wpAnyH_done (by kernel_rfl) ?_ _
  have b3 := b0.next hbx
  have hb3 := next hb0 hbx
  clear HSI HS0 hS hbx y1 b0
  rcases HF.out with ⟨rfl, hl0⟩ | ⟨rfl, hsum, hea, hmi⟩
  · clear HF HL HE hLl
    go_wp2_with (first
      | (go_at_call 8; refine (AW.out _).mono ?_; rintro e w10 ⟨rfl, hb10⟩)
      | fail)
    go_ret
    exact ⟨rfl, next hb3 hb10⟩
  · have HSU := Lib.hid hsum
    have HEA := Lib.hid hea
    have HMI := Lib.hid hmi
    clear HF HL HE hsum hea hmi
    go_wp2
    have c2 : w3.cell? ⟨w.heap.size, 2, none⟩ = some (.int .i64 mn) := by rw [b3.cell]; rfl
    have c3 : w3.cell? ⟨w.heap.size, 3, none⟩ = some (.int .i64 mx) := by rw [b3.cell]; rfl
    have HC2 := Lib.hid c2
    have HC3 := Lib.hid c3
    have HU := Lib.hid u3
    clear c2 c3 u3 b3
    go_loop [7, 27] (fun s i => ∃ j t : Nat, j ≤ L.length ∧ i = .int .i64 (j : Int) ∧ s = .int .i64 (t : Int) ∧ t = (L.take j).sum) (fun _ i => L.length - (intOf i).toNat)
    case atStart => exact ⟨0, 0, by omega, rfl, rfl, by simp⟩
    case round =>
      obtain ⟨j, t, hj, rfl, rfl, ht⟩ := hrel
      have htl : t ≤ 2000000 := by have h1 := sum_take_le L j; have h2 := HSU.out; omega
      by_cases hlt : j < L.length
      · obtain ⟨ad, rfl, hab, hac⟩ := HU.out.2 (by omega)
        obtain ⟨x, hx⟩ : ∃ x, x = L[j] := ⟨_, rfl⟩
        have hcx : w3.cell? (ad.add j) = some (.int .i64 (x : Int)) := by rw [hac j _ (is_at hlt), hx]
        have hg : L[j]? = some x := by rw [hx]; exact List.getElem?_eq_getElem hlt
        obtain ⟨x1, x2⟩ := HEA.out j x hg
        have hnx : t + x = (L.take (j + 1)).sum := by rw [sum_take L j hlt, ht, hx]
        have hnl : t + x ≤ 2000000 := by have h1 := sum_take_le L (j + 1); have h2 := HSU.out; omega
        have HNX := Lib.hid hnx
        have q1 : ¬ (x : Int) < 1 := by omega
        have q2 : ¬ mx < (x : Int) := by omega
        have j0 : (0 : Int) ≤ (j : Int) := by omega
        have j1 : (j : Int) < (L.length : Int) := by omega
        have c2 := HC2.out
        have c3 := HC3.out
        by_cases hlast : j + 1 < L.length
        · have x3 := HMI.out j x hlast hg
          have q3 : (j : Int) + 1 < (L.length : Int) := by omega
          have q4 : ¬ (x : Int) < mn := by omega
          clear hnx hac hx hg ht
          go_wp2
          go_round
          case rel => exact ⟨j + 1, t + x, by omega, by go_num, by go_num, HNX.out⟩
          case measure => simp [intOf]; omega
        · have q3 : ¬ (j : Int) + 1 < (L.length : Int) := by omega
          clear hnx hac hx hg ht
          go_wp2
          go_round
          case rel => exact ⟨j + 1, t + x, by omega, by go_num, by go_num, HNX.out⟩
          case measure => simp [intOf]; omega
      · have hjn : j = L.length := by omega
        have htn : t = n1 := by rw [ht, hjn, List.take_length]; exact HSU.out
        subst htn
        have j1 : ¬ (j : Int) < (L.length : Int) := by omega
        clear ht
        go_wp2_with (first
          | (go_at_call 8; refine (AW.out _).mono ?_; rintro e w10 ⟨rfl, hb10⟩)
          | fail)
        go_ret
        exact ⟨rfl, next hb3 hb10⟩

end Go.Proofs.Ytkopdkamhkmefaa
