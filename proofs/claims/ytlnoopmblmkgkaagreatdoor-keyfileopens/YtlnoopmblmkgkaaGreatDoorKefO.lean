/- Layer 11, keyfile, the document's: Open. -/
import Derived.Test.YtlnoopmblmkgkaaGreatDoorKefN
import Derived.Test.YtlnoopmblmkgkaaGreatDoorKB
import Derived.Test.YtlnoopmblmkgkaaGreatDoorKefJ
namespace Go.Proofs.YtlnoopmblmkgkaaGreatDoor
set_option maxRecDepth 100000
open Go Go.RowKit
set_option linter.unusedVariables false
set_option linter.unusedSimpArgs false

theorem no_byte {w : World} {g : Nat} {T : TypeId} {X : Option Addr} {x y : Nat} (hb : Bl w g [.slice X x y] T) {p : Addr} {z : Int} (h : w.cell? p = some (.int .u8 z)) : p.block ≠ g := by
  intro e
  unfold World.cell? at h
  rw [e, show w.heap[g]? = _ from hb] at h
  simp only [List.getElem?_toArray] at h
  match ho : p.off with
  | 0 => rw [ho] at h; simp at h
  | o + 1 => rw [ho] at h; simp at h

/-- A ring of the document stays while a variable turns that holds a list. -/
theorem Rr.one {w w' : World} {B g : Nat} {T : TypeId} {X : Option Addr} {x y : Nat} {A : Option Addr} {n c : Nat} {m : RM} (h : Rr w B A n c m) (hb : Bl w g [.slice X x y] T) (hg : w.grownBy w' (some g)) (hB : B ≤ w.heap.size) (hl : ∀ x ∈ m, 0 < x.2.length) (ho : Off g (m.length * 2) A) : Rr w' B A n c m := by
  obtain ⟨h1, h2, h3, xs, h4, h5, h6⟩ := h
  refine ⟨h1, h2, h3, xs, h4.nb hg ho, h5, fun j hj => ?_⟩
  obtain ⟨a, K, d, b, hk, e⟩ := h6 j hj
  refine ⟨a, K, d, b, ⟨hk.1, fun h0 => ?_⟩, e⟩
  obtain ⟨ad, ead, hlt, hc⟩ := hk.2 h0
  have hne : ad.block ≠ g := by
    have hpos : 0 < m[j].2.length := hl _ (List.getElem_mem hj)
    have h00 := hc 0 _ (cb_at hpos)
    have := no_byte hb h00
    rwa [add_block] at this
  refine ⟨ad, ead, hlt, fun i u hu => ?_⟩
  rw [World.cell?_of_block (w := w) (hg.block _ (by rw [add_block]; omega) (fun e => hne (by rw [add_block] at e; exact (Option.some.inj e).symm ▸ rfl)))]
  exact hc i u hu

/-- What the document's Open tells. -/
def ROpenPost (w : World) (E : Int) (M : RM) (e : Ending) (w' : World) : Prop := ∃ A n c, e = .returned (.tuple #[.agg #[.slice A n c], .int .i64 E]) ∧ Below w.heap.size w w' ∧ (E = 0 → Rr w' w'.heap.size A n c M)

set_option maxHeartbeats 8000000 in
theorem ropen_any11 (pass S X : List UInt8) (Ap : Option Addr) (np cp : Nat) (A : Option Addr) (n c : Nat) (r nu : Int) (B : Option Addr) (m d : Nat) (w : World) (hp : By w Ap np cp pass) (hf : Fil w A n c S B m d X) (hnp : np ≤ 100000000) (hn : n ≤ 140737488351232) (hm : m ≤ 140737488351232) :
    Calls Tryz.prog 18 #[.agg (fC A n c r nu B m d).toArray, .slice Ap np cp] w (ROpenPost w (opE pass S r nu X) (opM pass S r nu X)) := by
  obtain ⟨W0, HW0, b0, hb0, hsz0⟩ := put_f w (fC A n c r nu B m d) 39
  have br := Bl.newA W0 #[.slice none 0 0] 30
  have hbr : Below W0.heap.size W0 (W0.alloc (.cells #[.slice none 0 0] 30)) := (Below.refl _ W0).alloc (Nat.le_refl _) _
  obtain ⟨W1, hW1⟩ : ∃ W, W = W0.alloc (.cells #[.slice none 0 0] 30) := ⟨_, rfl⟩
  rw [← hW1] at br hbr
  have HW1 : Hid (W0.alloc (.cells #[.slice none 0 0] 30) = W1) := hW1.symm
  have bq := Bl.newA W1 #[.slice none 0 0] 30
  have hbq : Below W1.heap.size W1 (W1.alloc (.cells #[.slice none 0 0] 30)) := (Below.refl _ W1).alloc (Nat.le_refl _) _
  obtain ⟨W2, hW2⟩ : ∃ W, W = W1.alloc (.cells #[.slice none 0 0] 30) := ⟨_, rfl⟩
  rw [← hW2] at bq hbq
  have HW2 : Hid (W1.alloc (.cells #[.slice none 0 0] 30) = W2) := hW2.symm
  obtain ⟨gr, hgr⟩ : ∃ g, g = W0.heap.size := ⟨_, rfl⟩
  obtain ⟨gq, hgq⟩ : ∃ g, g = W1.heap.size := ⟨_, rfl⟩
  have hwr : w.heap.size < gr := by rw [hgr]; exact b0.lt
  have hrq : gr < gq := by rw [hgq, hgr]; exact br.lt
  rw [← hgr] at br
  rw [← hgq] at bq
  have HGR : Hid (W0.heap.size = gr) := hgr.symm
  have HGQ : Hid (W1.heap.size = gq) := hgq.symm
  have b1 := (b0.next hbr).next hbq
  have br1 : Bl W2 gr [.slice none 0 0] 30 := br.next hbq
  have hb1 := next (next hb0 hbr) hbq
  have cq1 : W2.cell? ⟨gq, 0, none⟩ = some (.slice none 0 0) := bq.cell 0
  have fq1 := bq.frozen 0
  obtain ⟨WB, hWB⟩ : ∃ W, W = W2.setCell ⟨gq, 0, none⟩ (.slice none 0 0) := ⟨_, rfl⟩
  have HWB : Hid (W2.setCell ⟨gq, 0, none⟩ (.slice none 0 0) = WB) := hWB.symm
  have b2 : Bl WB w.heap.size (fC A n c r nu B m d) 39 := by rw [hWB]; exact b1.set_other ⟨gq, 0, none⟩ _ (by show w.heap.size ≠ gq; omega)
  have br2 : Bl WB gr [.slice none 0 0] 30 := by rw [hWB]; exact br1.set_other ⟨gq, 0, none⟩ _ (by show gr ≠ gq; omega)
  replace bq : Bl WB gq [.slice none 0 0] 30 := by rw [hWB]; exact bq.set 0 _
  have hb2 : Below w.heap.size w WB := by rw [hWB]; exact hb1.setCell (by show w.heap.size ≤ gq; omega) _
  have wh2 := b2.whole
  have c32 : WB.cell? ⟨w.heap.size, 3, none⟩ = some (.slice B m d) := (f_cells b2).2.2.2
  clear hWB b1 br1 hb1
  have hk0 : kfit S.length r nu X.length = kfit n r nu m := by rw [hf.salt.len, hf.box.len]
  have HP := Lib.hid hp
  have HF := Lib.hid hf
  cases hk : kfit n r nu m with
  | false =>
    have e1 : opE pass S r nu X = 1 := opE_arg (hk0.trans hk)
    rw [e1]
    have HK := Lib.hid hk
    clear hk0 hk e1 hp hf hsz0 hW1 hW2 hgr hgq hbr hbq hb0 b0 br
    go_enter Tryz.func18, Tryz.ntmps18
    go_wp2_with (first
      | (refine wpList_box_agg rfl 39 _ rfl (fC A n c r nu B m d) rfl ?_; rw [HW0.out])
      | (rw [HW1.out, HGR.out])
      | (rw [HW2.out, HGQ.out])
      | (rw [HWB.out])
      | (refine wpList_load_mid rfl 39 _ rfl _ _ rfl (fC A n c r nu B m d) _ wh2 Tryz.underlying39 rfl size_rf ?_)
      | (go_at_call 21; refine (named_any A n c r nu B m d m WB (by omega)).mono ?_; rintro e w3 ⟨rfl, hbb3⟩; rw [HK.out]; have hb3 := next hb2 hbb3; have bq3 := bq.next hbb3; have br3 := br2.next hbb3; have cq3 : w3.cell? ⟨gq, 0, none⟩ = some (.slice none 0 0) := bq3.cell 0; have cr3 : w3.cell? ⟨gr, 0, none⟩ = some (.slice none 0 0) := br3.cell 0; have fr3 := br3.frozen 0)
      | fail)
    exact ret_row_tmp Tryz.results18 rfl (br3.set 0 (.slice none 0 0)) Tryz.underlying30 rfl (by kernel_rfl) rfl ⟨none, 0, 0, rfl, hb3.setCell (Nat.le_of_lt hwr) _, fun h => by cases h⟩
  | true =>
    obtain ⟨⟨k1, k2, k3⟩, k4, k5, k6, k7, k8⟩ := (kfit_iff _ _ _ _).1 hk
    obtain ⟨rn, rfl⟩ : ∃ x : Nat, r = x := ⟨r.toNat, by omega⟩
    obtain ⟨un, rfl⟩ : ∃ x : Nat, nu = x := ⟨nu.toNat, by omega⟩
    subst k4
    have hkS := hk0.trans hk
    have hXl : X.length = m := hf.box.len.symm
    obtain ⟨Ky, hKy⟩ : ∃ K, K = fkey pass S rn := ⟨_, rfl⟩
    obtain ⟨N, hN⟩ : ∃ N, N = nonceL 0 un := ⟨_, rfl⟩
    obtain ⟨H, hH⟩ : ∃ H, H = headL S rn un m := ⟨_, rfl⟩
    obtain ⟨T, hTd⟩ : ∃ T, T = opT pass S rn un X := ⟨_, rfl⟩
    obtain ⟨Bd, hBd⟩ : ∃ T, T = opB pass S rn un X := ⟨_, rfl⟩
    have HOP : Hid (openR Ky N H X = T ∧ openE Ky N H X = Bd) := by
      unfold Hid; rw [hTd, hBd, hKy, hN, hH]; unfold opT opB; rw [hXl, Int.toNat_natCast, Int.toNat_natCast]; exact ⟨rfl, rfl⟩
    have HKE : Hid (keyE rn 32 = 0 ∧ keyL pass S rn 32 = Ky ∧ Ky.length = 32) := by unfold Hid; have := fkey_len pass S (r := (rn : Int)) (by omega) (by omega); rw [hKy]; exact ⟨this.2, rfl, this.1⟩
    have HNE : Hid (nbE 0 un = 0 ∧ nbL 0 un = N) := by unfold Hid; rw [hN]; exact ⟨(nb_file (by omega)).2, (nb_file (by omega)).1⟩
    have HH : Hid (headL S rn un m = H) := hH.symm
    have hm2 : m ≤ 2128 := by omega
    have hr2 : rn < 4294967296 := by omega
    have hu2 : un < 9223372036854775808 := by omega
    have HM : Hid (∃ Km : Nat, m = 33 * Km + 16 ∧ Km ≤ 64) := ⟨(m - 16) / 33, by omega, by omega⟩
    have HE8 : Hid (Bd ≠ 0 → opE pass S rn un X = 8) := fun h => opE_pass hkS (by rw [← hBd]; exact h)
    have HE0 : Hid (∀ Km : Nat, Bd = 0 → m = 33 * Km + 16 → T.length = 33 * Km ∧ ((∃ s, ringOf T Km = some s ∧ opE pass S rn un X = 0 ∧ opM pass S rn un X = s) ∨ (ringOf T Km = none ∧ opE pass S rn un X = 5))) := by
      unfold Hid
      intro Km h0 hm
      have hb0 : opB pass S rn un X = 0 := by rw [← hBd]; exact h0
      have hTl : (opT pass S rn un X).length = 33 * Km := by rw [opT_len hb0, hXl]; omega
      refine ⟨by rw [hTd]; exact hTl, ?_⟩
      cases hs : ringOf T Km with
      | some s => exact .inl ⟨s, rfl, opE_some hkS hb0 hTl (by rw [← hTd]; exact hs)⟩
      | none => exact .inr ⟨rfl, opE_none hkS hb0 hTl (by rw [← hTd]; exact hs)⟩
    obtain ⟨OE, hOE⟩ : ∃ E, E = opE pass S rn un X := ⟨_, rfl⟩
    obtain ⟨OM, hOM⟩ : ∃ E, E = opM pass S rn un X := ⟨_, rfl⟩
    rw [← hOE] at HE8
    rw [← hOE, ← hOM] at HE0
    rw [← hOE, ← hOM]
    have HK := Lib.hid hk
    obtain ⟨SS, hSd⟩ : ∃ SS : World → Prop, SS = fun w' => Bl w' w.heap.size (fC A 16 c rn un B m d) 39 := ⟨_, rfl⟩
    have HSI : Hid (∀ w', Bl w' w.heap.size (fC A 16 c rn un B m d) 39 → SS w') := by unfold Hid; intro w' hb; rw [hSd]; exact hb
    have HSW : Hid (∀ w', SS w' → ∀ j v, (fC A 16 c rn un B m d)[j]? = some v → w'.cell? ((⟨w.heap.size, 0, none⟩ : Addr).add j) = some v) := by unfold Hid; intro w' h j v hv; rw [hSd] at h; rw [Addr.add_mid]; exact h.whole j v hv
    have HS3 : Hid (∀ w', SS w' → w'.cell? ⟨w.heap.size, 3, none⟩ = some (.slice B m d)) := by unfold Hid; intro w' h; rw [hSd] at h; exact (f_cells h).2.2.2
    clear hk0 hk hp hf hsz0 hW1 hW2 hgr hgq hbr hbq hb0 b0 br hkS hXl hKy hN hH hTd hBd hOE hOM hSd k1 k2 k3 k5 k6 k7 k8
    go_enter Tryz.func18, Tryz.ntmps18
    go_wp2_with (first
      | (refine wpList_box_agg rfl 39 _ rfl (fC A 16 c rn un B m d) rfl ?_; rw [HW0.out])
      | (rw [HW1.out, HGR.out])
      | (rw [HW2.out, HGQ.out])
      | (rw [HWB.out])
      | (refine wpList_load_mid rfl 39 _ rfl _ _ rfl (fC A 16 c rn un B m d) _ wh2 Tryz.underlying39 rfl size_rf ?_)
      | (go_at_call 21; refine (named_any A 16 c rn un B m d m WB (by omega)).mono ?_; rintro e w3 ⟨rfl, hbb3⟩; rw [HK.out]; have hb3 := next hb2 hbb3; have bq3 := bq.next hbb3; have br3 := br2.next hbb3; have b3 := b2.next hbb3; have c03 : w3.cell? ⟨w.heap.size, 0, none⟩ = some (.slice A 16 c) := b3.cell 0; have c13 : w3.cell? ⟨w.heap.size, 1, none⟩ = some (.int .i64 rn) := b3.cell 1)
      | (go_at_call 39; refine (rkey_any pass S rn 32 w3 w3.heap.size Ap A np cp 16 c (HP.out.nx hb3).sl HP.out.none_ hnp (HF.out.salt.nx hb3).sl HF.out.salt.none_ (by decide) (Nat.le_refl _)).mono ?_; rintro e w4 ⟨X4, n4, c4, rfl, x4⟩; rw [HKE.out.1]; rw [HKE.out.2.1] at x4; obtain rfl : n4 = 32 := x4.len.trans HKE.out.2.2; have hb4 := next hb3 x4.below; have bq4 := bq3.next x4.below; have br4 := br3.next x4.below; have b4 := b3.next x4.below; have y4 := x4.bys; have c24 : w4.cell? ⟨w.heap.size, 2, none⟩ = some (.int .i64 un) := b4.cell 2)
      | (go_at_call 40; refine (rnof_any 0 un w4).mono ?_; rintro e w5 ⟨X5, n5, c5, rfl, x5⟩; rw [HNE.out.1]; rw [HNE.out.2] at x5; have hb5 := next hb4 x5.below; have bq5 := bq4.next x5.below; have br5 := br4.next x5.below; have b5 := b4.next x5.below; have y45 := y4.nx x5.below; have y5 := x5.bys)
      | fail)
    obtain ⟨W6, hW6⟩ : ∃ W', W' = w5.drew := ⟨_, rfl⟩
    have hbd : Below w5.heap.size w5 W6 := by rw [hW6]; exact (Below.refl _ w5).drew
    have hb6 := next hb5 hbd
    have bq6 := bq5.next hbd
    have br6 := br5.next hbd
    have b6 := b5.next hbd
    have y46 := y45.nx hbd
    have y56 := y5.nx hbd
    have hS := HSI.out _ b6
    refine wp_region_held_drew (S := SS) (by kernel_rfl) (by rw [← hW6]; exact hS) (fun _ => ?_)
    rw [← hW6]
    clear hW6 hbd c32 c03 c13 c24 bq br2 bq3 br3 bq4 br4 bq5 br5 b2 b3 b4 b5 y4 y45 y5 x4 x5 hb2 hb3 hb4 hb5 wh2
    refine wpAnyH_take (i := 0) (v := (.slice X4 32 c4)) rfl (by kernel_rfl) (by kernel_rfl) (by kernel_rfl) (fun _ _ _ h => h) (Or.inl ⟨by rfl, fun _ hSw => by go_simp⟩) hS ?_
    simp only [List.getElem_toArray, List.getElem_cons_succ, List.getElem_cons_zero, Act.put, List.setIfInBounds_toArray, List.set_cons_zero, List.set_cons_succ]
    refine wpAnyH_take (i := 1) (v := (.slice X5 n5 c5)) rfl (by kernel_rfl) (by kernel_rfl) (by kernel_rfl) (fun _ _ _ h => h) (Or.inl ⟨by rfl, fun _ hSw => by go_simp⟩) hS ?_
    simp only [List.getElem_toArray, List.getElem_cons_succ, List.getElem_cons_zero, Act.put, List.setIfInBounds_toArray, List.set_cons_zero, List.set_cons_succ]
    refine wpAnyH_take (i := 2) (v := .agg (fC A 16 c rn un B m d).toArray) rfl (by kernel_rfl) (by kernel_rfl) (by kernel_rfl) (fun _ _ _ h => h) (Or.inl ⟨by rfl, fun w' hSw => exec_load_at w' 39 _ rfl ⟨w.heap.size, 0, none⟩ rfl (fC A 16 c rn un B m d) _ (HSW.out w' hSw) Tryz.underlying39 rfl size_rf⟩) hS ?_
    simp only [List.getElem_toArray, List.getElem_cons_succ, List.getElem_cons_zero, Act.put, List.setIfInBounds_toArray, List.set_cons_zero, List.set_cons_succ]
    refine wpAnyH_take (i := 3) (v := (.pointer (some ⟨w.heap.size, 3, none⟩))) rfl (by kernel_rfl) (by kernel_rfl) (by kernel_rfl) (fun _ _ _ h => h) (Or.inl ⟨by rfl, fun _ hSw => by go_simp⟩) hS ?_
    simp only [List.getElem_toArray, List.getElem_cons_succ, List.getElem_cons_zero, Act.put, List.setIfInBounds_toArray, List.set_cons_zero, List.set_cons_succ]
    refine wpAnyH_take (i := 4) (v := .slice B m d) rfl (by kernel_rfl) (by kernel_rfl) (by kernel_rfl) (fun _ _ _ h => h) (Or.inl ⟨by rfl, fun w' hSw => by have hq := HS3.out w' hSw; go_simp⟩) hS ?_
    simp only [List.getElem_toArray, List.getElem_cons_succ, List.getElem_cons_zero, Act.put, List.setIfInBounds_toArray, List.set_cons_zero, List.set_cons_succ]
    refine wpAnyH_take (i := 5) (v := (.int .i64 (m : Int))) rfl (by kernel_rfl) (by kernel_rfl) (by kernel_rfl) (fun _ _ _ h => h) (Or.inl ⟨by rfl, fun _ hSw => by go_simp⟩) hS ?_
    simp only [List.getElem_toArray, List.getElem_cons_succ, List.getElem_cons_zero, Act.put, List.setIfInBounds_toArray, List.set_cons_zero, List.set_cons_succ]
    refine wpAnyH_take (i := 7) (v := (.pointer (some ⟨w.heap.size, 3, none⟩))) rfl (by kernel_rfl) (by kernel_rfl) (by kernel_rfl) (fun _ _ _ h => h) (Or.inl ⟨by rfl, fun _ hSw => by go_simp⟩) hS ?_
    simp only [List.getElem_toArray, List.getElem_cons_succ, List.getElem_cons_zero, Act.put, List.setIfInBounds_toArray, List.set_cons_zero, List.set_cons_succ]
    refine wpAnyH_take (i := 8) (v := .slice B m d) rfl (by kernel_rfl) (by kernel_rfl) (by kernel_rfl) (fun _ _ _ h => h) (Or.inl ⟨by rfl, fun w' hSw => by have hq := HS3.out w' hSw; go_simp⟩) hS ?_
    simp only [List.getElem_toArray, List.getElem_cons_succ, List.getElem_cons_zero, Act.put, List.setIfInBounds_toArray, List.set_cons_zero, List.set_cons_succ]
    refine wpAnyH_ready (rs := [6]) (by kernel_rfl) (by simp) (AllReadyH.cons rfl (fun K hK => ?_) AllReadyH.nil)
    simp only [List.getElem_toArray, List.getElem_cons_succ, List.getElem_cons_zero, Act.put, List.setIfInBounds_toArray, List.set_cons_zero, List.set_cons_succ]
    go_simp
    refine (head_any11 S A c rn un B m d m W6 (HF.out.salt.nx hb6) hr2 hu2 (by omega)).mono ?_
    rintro e w7 ⟨X7, c7, rfl, x7⟩
    rw [HH.out] at x7
    replace b6 := b6.next x7.below
    replace bq6 := bq6.next x7.below
    replace br6 := br6.next x7.below
    replace y46 := y46.nx x7.below
    replace y56 := y56.nx x7.below
    have hb7 := next hb6 x7.below
    have y7 := x7.bys
    replace hS := HSI.out _ b6
    refine hK.out _ _ hS (fun _ => ?_)
    clear hK K x7
    refine wpAnyH_ready (rs := [9]) (by kernel_rfl) (by simp) (AllReadyH.cons rfl (fun K hK => ?_) AllReadyH.nil)
    simp only [List.getElem_toArray, List.getElem_cons_succ, List.getElem_cons_zero, Act.put, List.setIfInBounds_toArray, List.set_cons_zero, List.set_cons_succ]
    go_simp
    refine (ropen_any Ky N H X X4 X5 X7 B 32 n5 33 m c4 c5 c7 d w7 y46.sl y56.sl y7.sl (HF.out.box.nx hb7).sl y46.cap y56.cap HF.out.box.cap y46.none_ y56.none_ y7.none_ HF.out.box.none_ (by omega) (by omega)).mono ?_
    rw [HOP.out.1, HOP.out.2]
    rintro e w8 ⟨X8, n8, c8, rfl, x8⟩
    replace b6 := b6.next x8.below
    replace bq6 := bq6.next x8.below
    replace br6 := br6.next x8.below
    have hb8 := next hb7 x8.below
    have y8 := x8.bys
    replace hS := HSI.out _ b6
    refine hK.out _ _ hS (fun _ => ?_)
    clear hK K x8
    refine wpAnyH_take (i := 10) (v := (.tuple #[.slice X8 n8 c8, .int .i64 Bd])) rfl (by kernel_rfl) (by kernel_rfl) (by kernel_rfl) (fun _ _ _ h => h) (Or.inl ⟨by rfl, fun _ hSw => by go_simp⟩) hS ?_
    simp only [List.getElem_toArray, List.getElem_cons_succ, List.getElem_cons_zero, Act.put, List.setIfInBounds_toArray, List.set_cons_zero, List.set_cons_succ]
    refine wpAnyH_take (i := 11) (v := (.slice X8 n8 c8)) rfl (by kernel_rfl) (by kernel_rfl) (by kernel_rfl) (fun _ _ _ h => h) (Or.inl ⟨by rfl, fun _ hSw => by go_simp⟩) hS ?_
    simp only [List.getElem_toArray, List.getElem_cons_succ, List.getElem_cons_zero, Act.put, List.setIfInBounds_toArray, List.set_cons_zero, List.set_cons_succ]
    refine wpAnyH_take (i := 12) (v := (.int .i64 Bd)) rfl (by kernel_rfl) (by kernel_rfl) (by kernel_rfl) (fun _ _ _ h => h) (Or.inl ⟨by rfl, fun _ hSw => by go_simp⟩) hS ?_
    simp only [List.getElem_toArray, List.getElem_cons_succ, List.getElem_cons_zero, Act.put, List.setIfInBounds_toArray, List.set_cons_zero, List.set_cons_succ]
    refine wpAnyH_take (i := 13) (v := (.slice X8 n8 c8)) rfl (by kernel_rfl) (by kernel_rfl) (by kernel_rfl) (fun _ _ _ h => h) (Or.inl ⟨by rfl, fun _ hSw => by go_simp⟩) hS ?_
    simp only [List.getElem_toArray, List.getElem_cons_succ, List.getElem_cons_zero, Act.put, List.setIfInBounds_toArray, List.set_cons_zero, List.set_cons_succ]
    refine wpAnyH_take (i := 14) (v := (.int .i64 Bd)) rfl (by kernel_rfl) (by kernel_rfl) (by kernel_rfl) (fun _ _ _ h => h) (Or.inl ⟨by rfl, fun _ hSw => by go_simp⟩) hS ?_
    simp only [List.getElem_toArray, List.getElem_cons_succ, List.getElem_cons_zero, Act.put, List.setIfInBounds_toArray, List.set_cons_zero, List.set_cons_succ]
    refine wpAnyH_done (by kernel_rfl) ?_ _
    have cq8 : w8.cell? ⟨gq, 0, none⟩ = some (.slice none 0 0) := bq6.cell 0
    have cr8 : w8.cell? ⟨gr, 0, none⟩ = some (.slice none 0 0) := br6.cell 0
    have fr8 := br6.frozen 0
    clear hS HSI HSW HS3 y46 y56 y7 hb6 hb7 b6
    by_cases hB0 : Bd = 0
    · obtain ⟨Km, hKm, hKm64⟩ := HM.out
      obtain ⟨hTl, hsome⟩ := HE0.out Km hB0 hKm
      have HTL : Hid (T.length = 33 * Km) := hTl
      have HOUT := Lib.hid hsome
      have HN8 : Hid (n8 = 33 * Km) := by unfold Hid; rw [y8.len, hTl]
      have hn8 : n8 ≤ 2112 := by have := HN8.out; omega
      subst hB0
      clear HE8 HE0 HOP HM hTl hsome hKm cr8 fr8
      go_wp2
      go_loopw [13, 14] (fun i j wr => ∃ (k : Nat) (s : RM), k ≤ Km ∧ i = .int .i64 (lastE s : Nat) ∧ j = .int .i64 (33 * k : Nat) ∧ Hid (ringOf T k = some s) ∧ (∃ A' n' c', Bl wr gq [.slice A' n' c'] 30 ∧ Rr wr w8.heap.size A' n' c' s ∧ Off gq (s.length * 2) A' ∧ Off gr (s.length * 2) A') ∧ Bl wr gr [.slice none 0 0] 30 ∧ Below w.heap.size w wr ∧ w8.heap.size ≤ wr.heap.size ∧ Sl wr w8.heap.size X8 n8 (cb T)) (fun _ j _ => n8 - (Go.RowKit.intOf j).toNat)
      case atStart => exact ⟨0, [], by omega, rfl, rfl, rfl, ⟨none, 0, 0, bq6, rr_nil _ _, fun h => absurd h (by simp), fun h => absurd h (by simp)⟩, br6, hb8, Nat.le_refl _, y8.sl⟩
      case round =>
        obtain ⟨k, s, hk, rfl, rfl, HSK, ⟨A', n', c', bq, rq, o1, o2⟩, br, hb, hz, sw⟩ := hrel
        have hTl := HTL.out
        have hn8e := HN8.out
        obtain ⟨hris, hslen⟩ := ringOf_rising (by omega) HSK.out
        have cqr : wr.cell? ⟨gq, 0, none⟩ = some (.slice A' n' c') := bq.cell 0
        have crr : wr.cell? ⟨gr, 0, none⟩ = some (.slice none 0 0) := br.cell 0
        have frr := br.frozen 0
        have fqr := bq.frozen 0
        have hgg : gr ≠ gq := by omega
        by_cases hlt : k < Km
        · have hlt2 : ((33 * k : Nat) : Int) < (n8 : Int) := by omega
          have hlast := rising_last hris
          obtain ⟨ad, hX, hadB, hc0⟩ := sw.byte (j := 33 * k) (by omega)
          have hb0 : T[33 * k]'(by omega) = T.getD (33 * k) 0 := by rw [List.getD_eq_getElem?_getD, List.getElem?_eq_getElem (by omega)]; rfl
          rw [hb0] at hc0
          obtain ⟨ep, hep⟩ : ∃ ep, ep = (T.getD (33 * k) 0).toNat := ⟨_, rfl⟩
          obtain ⟨l, hl⟩ : ∃ l, l = (T.drop (33 * k + 1)).take 32 := ⟨_, rfl⟩
          have hent : entAt T k = (ep, l) := by unfold entAt; rw [← hep, ← hl]
          have hl32 : l.length = 32 := by rw [hl]; simp; omega
          have hep256 : ep < 256 := by rw [hep]; exact (T.getD (33 * k) 0).toNat_lt
          rw [← hep] at hc0
          obtain ⟨le, hle⟩ : ∃ le, le = lastE s := ⟨_, rfl⟩
          rw [← hle] at hlast ⊢
          subst hX
          have HSW := Lib.hid sw
          by_cases hok : le < ep ∧ ep ≤ 64
          · obtain ⟨h1, h2⟩ := hok
            have h1' : ¬ (ep : Int) ≤ (le : Int) := by omega
            have h2' : ¬ (64 : Int) < (ep : Int) := by omega
            have g1 : lastE s < (entAt T k).1 := by rw [hent, ← hle]; exact h1
            have g2 : (entAt T k).1 ≤ 64 := by rw [hent]; exact h2
            have h3 := ringOf_yes HSK.out g1 g2
            have h4 := put_rising hris g1 g2 (by rw [hent]; exact hl32)
            rw [hent] at h3 h4
            have H1 := Lib.hid h3
            have H2 := Lib.hid h4.1
            have H3 := Lib.hid h4.2.1
            have H4 := Lib.hid h4.2.2
            have HLE : Hid (lastE (s ++ [(ep, l)]) = ep) := by unfold Hid; simp [lastE]
            have HOK := Lib.hid hris.ok
            have hs900 : s.length ≤ 900 := by omega
            have hneq : ad.block ≠ gq := by have := no_byte bq hc0; rwa [add_block] at this
            have HNQ : Hid (Off gq n8 (some ad)) := by unfold Hid; intro _ a e; injection e with e; rw [← e]; exact hneq
            have hcap : n8 ≤ c8 := y8.cap
            obtain ⟨kk, hkk⟩ : ∃ kk, kk = 33 * k := ⟨_, rfl⟩
            have hkb : kk + 33 ≤ n8 := by omega
            have sp := sl_mid (l := kk + 1) (h := kk + 33) sw (by omega) (by omega) hcap
            obtain ⟨P1, hP1⟩ : ∃ P, P = if c8 = kk + 1 then some ad else (some ad).map (·.add (kk + 1)) := ⟨_, rfl⟩
            rw [← hP1, show kk + 33 - (kk + 1) = 32 by omega, show ((cb T).drop (kk + 1)).take 32 = cb l by rw [hl, hkk]; simp [cb]] at sp
            have HP1 := Lib.hid hP1
            have HSP := Lib.hid sp
            rw [← hkk] at hlt2 hc0 ⊢
            have HKK := Lib.hid hkk
            have HA8 := Lib.hid y8.none_
            clear g1 g2 h1 h2 h3 h4 hris hslen hlast hb0 hep hl hent hl32 hle sw sp hP1 hkk hneq hTl hn8e crr frr fqr cqr
            go_wp2_with fail
            obtain ⟨S, hSd⟩ : ∃ S : World → Prop, S = fun w' => ∃ v, Bl w' gq [v] 30 := ⟨_, rfl⟩
            have HSI : Hid (∀ w' v, Bl w' gq [v] 30 → S w') := by unfold Hid; intro w' v h; rw [hSd]; exact ⟨v, h⟩
            clear hSd
            obtain ⟨W1, hW1⟩ : ∃ W', W' = wr.drew := ⟨_, rfl⟩
            have hbd : Below wr.heap.size wr W1 := by rw [hW1]; exact (Below.refl _ wr).drew
            have bq1 := bq.next hbd
            have br1 := br.next hbd
            have rq1 := rq.next hz hbd
            have hz1 := Nat.le_trans hz hbd.size
            have hb1 := next hb hbd
            have hbz := hbd.mono hz
            have cq1 : W1.cell? ⟨gq, 0, none⟩ = some (.slice A' n' c') := bq1.cell 0
            have hS := HSI.out _ _ bq1
            refine wp_region_held_drew (S := S) (by kernel_rfl) (by rw [← hW1]; exact hS) (fun _ => ?_)
            rw [← hW1]
            clear hW1
            refine wpAnyH_take (i := 1) (v := (.int .i64 ep)) rfl (by kernel_rfl) (by kernel_rfl) (by kernel_rfl) (fun _ _ _ h => h) (Or.inl ⟨by rfl, fun _ hSw => by go_simp⟩) hS ?_
            simp only [List.getElem_toArray, List.getElem_cons_succ, List.getElem_cons_zero, Act.put, List.setIfInBounds_toArray, List.set_cons_zero, List.set_cons_succ]
            refine wpAnyH_take (i := 2) (v := (.slice (some ad) n8 c8)) rfl (by kernel_rfl) (by kernel_rfl) (by kernel_rfl) (fun _ _ _ h => h) (Or.inl ⟨by rfl, fun _ hSw => by go_simp⟩) hS ?_
            simp only [List.getElem_toArray, List.getElem_cons_succ, List.getElem_cons_zero, Act.put, List.setIfInBounds_toArray, List.set_cons_zero, List.set_cons_succ]
            refine wpAnyH_take (i := 3) (v := (.int .i64 kk)) rfl (by kernel_rfl) (by kernel_rfl) (by kernel_rfl) (fun _ _ _ h => h) (Or.inl ⟨by rfl, fun _ hSw => by go_simp⟩) hS ?_
            simp only [List.getElem_toArray, List.getElem_cons_succ, List.getElem_cons_zero, Act.put, List.setIfInBounds_toArray, List.set_cons_zero, List.set_cons_succ]
            refine wpAnyH_take (i := 4) (v := (.int .i64 ((kk : Int) + 1))) rfl (by kernel_rfl) (by kernel_rfl) (by kernel_rfl) (fun _ _ _ h => h) (Or.inl ⟨by rfl, fun _ hSw => by go_simp; exact IntWalk.i64_in _ (by omega)⟩) hS ?_
            simp only [List.getElem_toArray, List.getElem_cons_succ, List.getElem_cons_zero, Act.put, List.setIfInBounds_toArray, List.set_cons_zero, List.set_cons_succ]
            refine wpAnyH_take (i := 5) (v := (.int .i64 kk)) rfl (by kernel_rfl) (by kernel_rfl) (by kernel_rfl) (fun _ _ _ h => h) (Or.inl ⟨by rfl, fun _ hSw => by go_simp⟩) hS ?_
            simp only [List.getElem_toArray, List.getElem_cons_succ, List.getElem_cons_zero, Act.put, List.setIfInBounds_toArray, List.set_cons_zero, List.set_cons_succ]
            refine wpAnyH_take (i := 6) (v := (.int .i64 ((kk : Int) + 33))) rfl (by kernel_rfl) (by kernel_rfl) (by kernel_rfl) (fun _ _ _ h => h) (Or.inl ⟨by rfl, fun _ hSw => by go_simp; exact IntWalk.i64_in _ (by omega)⟩) hS ?_
            simp only [List.getElem_toArray, List.getElem_cons_succ, List.getElem_cons_zero, Act.put, List.setIfInBounds_toArray, List.set_cons_zero, List.set_cons_succ]
            refine wpAnyH_take (i := 7) (v := .slice P1 (kk + 33 - (kk + 1)) (c8 - (kk + 1))) rfl (by kernel_rfl) (by kernel_rfl) (by kernel_rfl) (fun _ _ _ h => h) (Or.inl ⟨by rfl, fun w9 _ => exec_lh w9 22 5 _ _ _ rfl Tryz.underlying22 u8_size (some ad) n8 c8 (kk + 1) (kk + 33) .i64 .i64 ((kk : Int) + 1) ((kk : Int) + 33) rfl rfl rfl (by omega) (by omega) (by omega) (by omega) HA8.out P1 HP1.out⟩) hS ?_
            simp only [List.getElem_toArray, List.getElem_cons_succ, List.getElem_cons_zero, Act.put, List.setIfInBounds_toArray, List.set_cons_zero, List.set_cons_succ]
            refine wpAnyH_ready (rs := [0]) (by kernel_rfl) (by simp) (AllReadyH.cons rfl (fun K hK => ?_) AllReadyH.nil)
            simp only [List.getElem_toArray, List.getElem_cons_succ, List.getElem_cons_zero, Act.put, List.setIfInBounds_toArray, List.set_cons_zero, List.set_cons_succ]
            go_simp
            refine hK.out _ _ hS (fun _ => ?_)
            clear hK K
            refine wpAnyH_ready (rs := [8]) (by kernel_rfl) (by simp) (AllReadyH.cons rfl (fun K hK => ?_) AllReadyH.nil)
            simp only [List.getElem_toArray, List.getElem_cons_succ, List.getElem_cons_zero, Act.put, List.setIfInBounds_toArray, List.set_cons_zero, List.set_cons_succ]
            go_simp
            refine (rput_any s HOK.out (by omega) ep l W1 w8.heap.size A' n' c' rq1 hz1 P1 32 (c8 - (kk + 1)) (HSP.out.below hbz) (by omega)).mono ?_
            rw [H2.out, H3.out]
            rintro e w2 ⟨A2, n2, c2, rfl, rr2, off2, hb2⟩
            have o1' := off2 gq bq1.lt o1
            have o2' := off2 gr br1.lt o2
            have bq2 := bq1.next hb2
            have br2 := br1.next hb2
            have hz2 := Nat.le_trans hz1 hb2.size
            have hbw2 := next hb1 hb2
            have sw2 := (HSW.out.below hbz).below (hb2.mono hz1)
            replace hS := HSI.out _ _ bq2
            refine hK.out _ _ hS (fun _ => ?_)
            clear hK K
            refine wpAnyH_take (i := 9) (v := (.tuple #[.agg #[.slice A2 n2 c2], .int .i64 0])) rfl (by kernel_rfl) (by kernel_rfl) (by kernel_rfl) (fun _ _ _ h => h) (Or.inl ⟨by rfl, fun _ hSw => by go_simp⟩) hS ?_
            simp only [List.getElem_toArray, List.getElem_cons_succ, List.getElem_cons_zero, Act.put, List.setIfInBounds_toArray, List.set_cons_zero, List.set_cons_succ]
            refine wpAnyH_take (i := 10) (v := (.agg #[.slice A2 n2 c2])) rfl (by kernel_rfl) (by kernel_rfl) (by kernel_rfl) (fun _ _ _ h => h) (Or.inl ⟨by rfl, fun _ hSw => by go_simp⟩) hS ?_
            simp only [List.getElem_toArray, List.getElem_cons_succ, List.getElem_cons_zero, Act.put, List.setIfInBounds_toArray, List.set_cons_zero, List.set_cons_succ]
            refine wpAnyH_take (i := 11) (v := (.int .i64 0)) rfl (by kernel_rfl) (by kernel_rfl) (by kernel_rfl) (fun _ _ _ h => h) (Or.inl ⟨by rfl, fun _ hSw => by go_simp⟩) hS ?_
            simp only [List.getElem_toArray, List.getElem_cons_succ, List.getElem_cons_zero, Act.put, List.setIfInBounds_toArray, List.set_cons_zero, List.set_cons_succ]
            refine wpAnyH_ready (rs := [12]) (by kernel_rfl) (by simp) (AllReadyH.cons rfl (fun K hK => ?_) AllReadyH.nil)
            simp only [List.getElem_toArray, List.getElem_cons_succ, List.getElem_cons_zero, Act.put, List.setIfInBounds_toArray, List.set_cons_zero, List.set_cons_succ]
            rw [if_pos (by rfl)]
            refine wp_store_mid 30 _ _ rfl _ _ #[.slice A2 n2 c2] rfl rfl (bq2.there_ (by simp)) (by kernel_rfl) (all_oneCell_toArray (by intro v hv; rw [List.mem_singleton.1 hv]; rfl)) ?_
            have hgb : w2.grownBy (w2.setCells gq 0 [.slice A2 n2 c2]) (some gq) := but_setCells (but_refl w2 _) 0 _
            have hok4 := H4.out.ok
            have bqf : Bl (w2.setCells gq 0 [.slice A2 n2 c2]) gq [.slice A2 n2 c2] 30 := bq2.over (vs := [.slice A2 n2 c2]) rfl
            have rrf := rr2.one bq2 hgb hz2 (fun x hx => by have := (hok4.each x hx).2.2; omega) o1'
            have brf := br2.grown hgb (fun e => hgg (Option.some.inj e).symm)
            have hbf := below_setCells hbw2 (by omega : w.heap.size ≤ gq) 0 [.slice A2 n2 c2]
            have hzf := Nat.le_trans hz2 hgb.size
            have swf := sl_off sw2 hgb hz2 HNQ.out
            obtain ⟨wf, hwf⟩ : ∃ W, W = w2.setCells gq 0 [.slice A2 n2 c2] := ⟨_, rfl⟩
            rw [← hwf] at bqf rrf brf hbf hzf swf
            rw [← hwf]
            replace hS := HSI.out _ _ bqf
            refine hK.out _ _ hS (fun _ => ?_)
            clear hK K hwf hgb hok4
            refine wpAnyH_done (by kernel_rfl) ?_ _
            have HRR := Lib.hid rrf
            have HBQ := Lib.hid bqf
            have HBR := Lib.hid brf
            have HO1 := Lib.hid o1'
            have HO2 := Lib.hid o2'
            have HSF := Lib.hid swf
            clear hS HSI sw2 swf brf bqf rrf o1' o2' bq2 br2 bq1 br1 rq1 cq1 bq br rq rr2 off2 o1 o2 hb1 hbz hbd
            go_wp2
            go_roundw
            case rel => exact ⟨k + 1, s ++ [(ep, l)], by omega, by rw [HLE.out], by have := HKK.out; subst this; go_num, H1.out, ⟨A2, n2, c2, HBQ.out, HRR.out, HO1.out, HO2.out⟩, HBR.out, hbf, hzf, HSF.out⟩
            case measure => have := HKK.out; simp [Go.RowKit.intOf]; omega
          · have hno : ringOf T Km = none := ringOf_stop (ringOf_no HSK.out (by rw [hent, ← hle]; exact hok)) Km (by omega)
            have HE5 : Hid (OE = 5) := by
              unfold Hid
              rcases HOUT.out with ⟨s', h, _⟩ | ⟨_, h⟩
              · rw [hno] at h; cases h
              · exact h
            clear hno HOUT HTL HN8 HSK hTl hn8e hris hslen hlast hb0 hep hl hent hl32 hle sw bq rq o1 o2 HSW cqr fqr
            by_cases h1 : ep ≤ le
            · have h1' : (ep : Int) ≤ (le : Int) := by omega
              clear hok h1
              go_wp2
              exact ret_row_tmp Tryz.results18 rfl (br.set 0 (.slice none 0 0)) Tryz.underlying30 rfl (by kernel_rfl) rfl ⟨none, 0, 0, by rw [HE5.out]; rfl, hb.setCell (Nat.le_of_lt hwr) _, fun h => by rw [HE5.out] at h; cases h⟩
            · have h1' : ¬ (ep : Int) ≤ (le : Int) := by omega
              have h2' : (64 : Int) < (ep : Int) := by omega
              clear hok h1
              go_wp2
              exact ret_row_tmp Tryz.results18 rfl (br.set 0 (.slice none 0 0)) Tryz.underlying30 rfl (by kernel_rfl) rfl ⟨none, 0, 0, by rw [HE5.out]; rfl, hb.setCell (Nat.le_of_lt hwr) _, fun h => by rw [HE5.out] at h; cases h⟩
        · obtain rfl : k = Km := by omega
          have hlt2 : ¬ ((33 * k : Nat) : Int) < (n8 : Int) := by omega
          have HE0' : Hid (OE = 0 ∧ OM = s) := by
            unfold Hid
            rcases HOUT.out with ⟨s', h, h0, h1⟩ | ⟨h, _⟩
            · rw [HSK.out] at h; injection h with h; exact ⟨h0, by rw [h1, h]⟩
            · rw [HSK.out] at h; cases h
          have hgb : wr.grownBy (wr.setCell ⟨gr, 0, none⟩ (.slice A' n' c')) (some gr) := but_setCell (but_refl _ _) 0 _
          have hrok := hris.ok
          have rf : Rr (wr.setCell ⟨gr, 0, none⟩ (.slice A' n' c')) (wr.setCell ⟨gr, 0, none⟩ (.slice A' n' c')).heap.size A' n' c' s := (rq.one br hgb hz (fun x hx => by have := (hrok.each x hx).2.2; omega) o2).lift (Nat.le_trans hz hgb.size)
          have HRF := Lib.hid rf
          clear HOUT HTL HN8 HSK hTl hn8e hris hslen sw rq o1 o2 rf hgb hrok
          go_wp2
          exact ret_row_tmp Tryz.results18 rfl (br.set 0 (.slice A' n' c')) Tryz.underlying30 rfl (by kernel_rfl) rfl ⟨A', n', c', by rw [HE0'.out.1]; rfl, hb.setCell (Nat.le_of_lt hwr) _, fun _ => by rw [HE0'.out.2]; exact HRF.out⟩
    · have hBb : (Bd != 0) = true := by simp [bne, hB0]
      have HE := Lib.hid (HE8.out hB0)
      clear HE8 HE0 HOP HM
      go_wp2
      exact ret_row_tmp Tryz.results18 rfl (br6.set 0 (.slice none 0 0)) Tryz.underlying30 rfl (by kernel_rfl) rfl ⟨none, 0, 0, by rw [HE.out]; rfl, hb8.setCell (Nat.le_of_lt hwr) _, fun h => by rw [HE.out] at h; cases h⟩

end Go.Proofs.YtlnoopmblmkgkaaGreatDoor
