/- The tags of package mac. -/
import Derived.Test.YtfmbilnbbpbpeaaDoorMacD
namespace Go.Proofs.YtfmbilnbbpbpeaaDoor
open Go.RowKit
set_option linter.unusedVariables false
set_option linter.unusedSimpArgs false

set_option maxRecDepth 100000 in
set_option maxHeartbeats 800000 in
theorem ktag_any (g : Nat) (key : List UInt8) (ls : List (List UInt8)) (w : World) (B : Nat) (A : Option Addr) (n c : Nat) (hk : Ky w g key) (hp : Parts w B A n ls) (hB : B ≤ w.heap.size) (hn : n ≤ 1000000000) (hT : Tabs w) (hm : ls.flatten.length ≤ 10000000) :
    Calls Tryd.prog 20 #[.pointer (some ⟨g, 0, none⟩), .slice A n c] w fun e w' => e = .returned (.agg (cb (hmac key ls.flatten)).toArray) ∧ Below w.heap.size w w' := by
  have hpl := hp.len
  subst hpl
  have HT := Lib.hid hT
  clear hT
  obtain ⟨I, hI⟩ : ∃ I, I = kx 54 (kblk key) := ⟨_, rfl⟩
  obtain ⟨O, hO⟩ : ∃ O, O = kx 92 (kblk key) := ⟨_, rfl⟩
  have hIl : I.length = 64 := by rw [hI, kx_len, kblk_len]
  have hOl : O.length = 64 := by rw [hO, kx_len, kblk_len]
  obtain ⟨S, hS⟩ : ∃ S, S = sha (I ++ ls.flatten) := ⟨_, rfl⟩
  obtain ⟨R, hR⟩ : ∃ R, R = sha (O ++ S) := ⟨_, rfl⟩
  have HR : Hid (hmac key ls.flatten = R) := by unfold Hid hmac; rw [hR, hS, hI, hO]
  have HSL : Hid (S.length = 32) := by unfold Hid; rw [hS, sha_len]
  have HRL : Hid (R.length = 32) := by unfold Hid; rw [hR, sha_len]
  have HS := Lib.hid hS
  have HRR := Lib.hid hR
  have HIL := Lib.hid hIl
  have HOL := Lib.hid hOl
  rw [HR.out]
  have hkl := hk.lt
  have hb0 : Below w.heap.size w (w.alloc (.cells (zeros .u8 32).toArray 49)) := (Below.refl _ w).alloc (Nat.le_refl _) _
  obtain ⟨C1, C2, hC1, hC2, r1, r2⟩ := (hk.next hb0).ranges
  rw [← hI] at hC1
  rw [← hO] at hC2
  clear hI hO hS hR hIl hOl
  have b0 := Bl.new w (zeros .u8 32) 49
  obtain ⟨W0, hW0⟩ : ∃ W, W = w.alloc (.cells (zeros .u8 32).toArray 49) := ⟨_, rfl⟩
  rw [← hW0] at b0 r1 r2 hb0
  have HSZ : Hid (W0.heap.size = w.heap.size + 1) := by unfold Hid; rw [hW0]; simp
  have HW0 := Lib.hid hW0
  clear hW0
  go_enter Tryd.func20, Tryd.ntmps20
  go_wp2_with (refine wpList_alloc_zero rfl 49 rfl (zeros .u8 32) zero_sum ?_; rw [← HW0.out])
  refine wp_region_any (by kernel_rfl) ?_
  change wpAny _ _ _ _ _ _ _ (World.drew _)
  refine wpAny_take (i := 0) (v := (.pointer (some ⟨g, 0, none⟩))) rfl (by kernel_rfl) (by kernel_rfl) (by kernel_rfl) (fun _ _ _ h => h) (Or.inl ⟨by rfl, fun _ => by go_simp⟩) ?_
  simp only [List.getElem_toArray, List.getElem_cons_succ, List.getElem_cons_zero, Act.put, List.setIfInBounds_toArray, List.set_cons_zero, List.set_cons_succ]
  refine wpAny_take (i := 1) (v := (.pointer (some ⟨g, 0, none⟩))) rfl (by kernel_rfl) (by kernel_rfl) (by kernel_rfl) (fun _ _ _ h => h) (Or.inl ⟨by rfl, fun _ => by go_simp⟩) ?_
  simp only [List.getElem_toArray, List.getElem_cons_succ, List.getElem_cons_zero, Act.put, List.setIfInBounds_toArray, List.set_cons_zero, List.set_cons_succ]
  refine wpAny_take (i := 2) (v := (.pointer (some ⟨g, 0, none⟩))) rfl (by kernel_rfl) (by kernel_rfl) (by kernel_rfl) (fun _ _ _ h => h) (Or.inl ⟨by rfl, fun _ => by go_simp⟩) ?_
  simp only [List.getElem_toArray, List.getElem_cons_succ, List.getElem_cons_zero, Act.put, List.setIfInBounds_toArray, List.set_cons_zero, List.set_cons_succ]
  refine wpAny_take (i := 4) (v := (.pointer (some ⟨g, 0, none⟩))) rfl (by kernel_rfl) (by kernel_rfl) (by kernel_rfl) (fun _ _ _ h => h) (Or.inl ⟨by rfl, fun _ => by go_simp⟩) ?_
  simp only [List.getElem_toArray, List.getElem_cons_succ, List.getElem_cons_zero, Act.put, List.setIfInBounds_toArray, List.set_cons_zero, List.set_cons_succ]
  refine wpAny_take (i := 5) (v := (.pointer (some ⟨g, 0, none⟩))) rfl (by kernel_rfl) (by kernel_rfl) (by kernel_rfl) (fun _ _ _ h => h) (Or.inl ⟨by rfl, fun _ => by go_simp⟩) ?_
  simp only [List.getElem_toArray, List.getElem_cons_succ, List.getElem_cons_zero, Act.put, List.setIfInBounds_toArray, List.set_cons_zero, List.set_cons_succ]
  refine wpAny_take (i := 6) (v := (.pointer (some ⟨g, 73, none⟩))) rfl (by kernel_rfl) (by kernel_rfl) (by kernel_rfl) (fun _ _ _ h => h) (Or.inl ⟨by rfl, fun _ => by go_simp⟩) ?_
  simp only [List.getElem_toArray, List.getElem_cons_succ, List.getElem_cons_zero, Act.put, List.setIfInBounds_toArray, List.set_cons_zero, List.set_cons_succ]
  refine wpAny_ready (rs := [3]) (by kernel_rfl) (by simp) (AllReady.cons rfl (fun K hK => ?_) AllReady.nil)
  simp only [List.getElem_toArray, List.getElem_cons_succ, List.getElem_cons_zero, Act.put, List.setIfInBounds_toArray, List.set_cons_zero, List.set_cons_succ]
  go_simp
  have r1' : W0.drew.rangeAt g 0 C1 := r1
  have r2' : W0.drew.rangeAt g 73 C2 := r2
  refine (copyAt_any g 0 I C1 _ hC1 r1').mono ?_
  rintro e w1 ⟨gi, rfl, hgi, hsi, hb1⟩
  refine hK _ _ ?_
  clear hK K
  have hgi' : w.heap.size + 1 ≤ gi := by have h1 := HSZ.out; have h2 : W0.drew.heap.size = W0.heap.size := rfl; omega
  have r2w : w1.rangeAt g 73 C2 := fun j v hv => by
    rw [World.cell?_of_block (hb1.block g (by have h1 := HSZ.out; have h2 : W0.drew.heap.size = W0.heap.size := rfl; omega))]
    exact r2' j v hv
  refine wpAny_ready (rs := [7]) (by kernel_rfl) (by simp) (AllReady.cons rfl (fun K hK => ?_) AllReady.nil)
  simp only [List.getElem_toArray, List.getElem_cons_succ, List.getElem_cons_zero, Act.put, List.setIfInBounds_toArray, List.set_cons_zero, List.set_cons_succ]
  go_simp
  refine (copyAt_any g 73 O C2 _ hC2 r2w).mono ?_
  rintro e w2 ⟨go, rfl, hgo, hso, hb2⟩
  refine hK _ _ ?_
  clear hK K
  have hlt := hsi.lt
  have hsi2 := hsi.next hb2
  have b02 := (b0.drew.next hb1).next hb2
  have hbw1 : Below w.heap.size w w1 := hb0.drew.trans (hb1.mono hb0.size)
  have hbw2 := next hbw1 hb2
  have hT2 := HT.out.next hbw2
  have h2g : 2 ≤ gi := by have := HT.out.size; omega
  clear r1 r2 r1' r2' r2w hsi hb1 hb2 b0 hb0 hbw1 hC1 hC2 hgi hk
  refine wpAny_take (i := 8) (v := (.pointer (some ⟨gi, 0, none⟩))) rfl (by kernel_rfl) (by kernel_rfl) (by kernel_rfl) (fun _ _ _ h => h) (Or.inl ⟨by rfl, fun _ => by go_simp⟩) ?_
  simp only [List.getElem_toArray, List.getElem_cons_succ, List.getElem_cons_zero, Act.put, List.setIfInBounds_toArray, List.set_cons_zero, List.set_cons_succ]
  refine wpAny_take (i := 9) (v := (.pointer (some ⟨go, 0, none⟩))) rfl (by kernel_rfl) (by kernel_rfl) (by kernel_rfl) (fun _ _ _ h => h) (Or.inl ⟨by rfl, fun _ => by go_simp⟩) ?_
  simp only [List.getElem_toArray, List.getElem_cons_succ, List.getElem_cons_zero, Act.put, List.setIfInBounds_toArray, List.set_cons_zero, List.set_cons_succ]
  refine wpAny_done (by kernel_rfl) ?_ _
  go_wp2
  go_loopw [24] (fun i wr => ∃ k : Nat, k ≤ ls.length ∧ i = .int .i64 k ∧ St wr gi (I ++ (ls.take k).flatten) ∧ St wr go O ∧ Bl wr w.heap.size (zeros .u8 32) 49 ∧ Below w.heap.size w wr ∧ Tabs wr) (fun i _ => ls.length - (intOf i).toNat)
  case atStart => exact ⟨0, by omega, rfl, by simpa using hsi2, hso, b02, hbw2, hT2⟩
  case round =>
    clear hsi2 hso b02 hbw2 hT2
    obtain ⟨k, hk, rfl, hsi, hso, b0, hb, hT1⟩ := hrel
    by_cases hlt2 : k < ls.length
    · have hp2 := hp.below (hb.mono hB)
      obtain ⟨ad, A', c', rfl, hcell, hsl, hcc, hnn⟩ := hp2.at_ hlt2
      have hfl := flat_take ls k hlt2
      have hle := flat_le ls (k + 1)
      rw [hfl, List.length_append] at hle
      have hbs := hb.size
      have HF := Lib.hid hfl
      clear hp2 hfl
      go_wp2_with fail
      refine (add_any gi (I ++ (ls.take k).flatten) ls[k] _ _ A' _ c' hsi hsl (by omega) (hsl.off (by omega)) hcc hnn hT1 h2g (by rw [List.length_append, HIL.out]; omega)).mono ?_
      rintro e w3 ⟨rfl, hst2, hg2, hT3⟩
      have b03 := b0.grown hg2 (by simp; omega)
      have hso3 := hso.but hg2 (by omega)
      have hb3 := below_but hb hg2 hbs (by omega)
      rw [List.append_assoc, ← HF.out] at hst2
      clear hsi hsl hT1 b0 hb hg2 hso
      go_wp2
      go_roundw
      case rel => exact ⟨k + 1, by omega, by go_num, hst2, hso3, b03, hb3, hT3⟩
      case measure => simp [intOf]; omega
    · have HK : Hid (k = ls.length) := (by omega : k = ls.length)
      rw [HK.out, List.take_length] at hsi
      go_wp2_with fail
      refine (sum_any gi (I ++ ls.flatten) _ hsi hT1 (by rw [List.length_append, HIL.out]; omega)).mono ?_
      rintro e w3 ⟨rfl, hb3⟩
      rw [← HS.out]
      have b03 := b0.next hb3
      have hso3 := hso.next hb3
      have hbw3 := hb.trans (hb3.mono hb.size)
      have hgo3 := hso3.lt
      have hn := (Bl.new w3 (zeros .u8 32) 49)
      obtain ⟨W4, hW4⟩ : ∃ W, W = (w3.alloc (.cells (zeros .u8 32).toArray 49)).setCells w3.heap.size 0 (cb S) := ⟨_, rfl⟩
      have b24 : Bl W4 w3.heap.size (cb S) 49 := by rw [hW4]; exact hn.over (by rw [cb_len, HSL.out, zeros_len])
      have hb4 : Below w3.heap.size w3 W4 := by rw [hW4]; exact below_setCells ((Below.refl _ w3).alloc (Nat.le_refl _) _) (Nat.le_refl _) _ _
      have b04 := b03.next hb4
      have hso4 := hso3.next hb4
      have hbw4 := next hbw3 hb4
      have hT4 := HT.out.next hbw4
      have hs4 : Sl W4 (w3.heap.size + 1) (some ⟨w3.heap.size, 0, none⟩) 32 (cb S) := b24.sl (o := 0) (n := 32) (by rw [List.drop_zero, List.take_of_length_le (by rw [cb_len, HSL.out]; omega)]) (by rw [cb_len, HSL.out]; omega)
      have hoff : Off go 32 (some ⟨w3.heap.size, 0, none⟩) := by intro _ ad e1; injection e1 with e1; rw [← e1]; simp; omega
      have hsz4 : w3.heap.size + 1 ≤ W4.heap.size := by have := b24.lt; omega
      have hsz3 : w.heap.size ≤ W4.heap.size := hbw4.size
      have HW4 := Lib.hid hW4
      clear hW4 hn b03 hbw3 hb4 b24 hso hso3 hsi hb3 hT1 b0 hb
      go_wp2_with (first
        | (refine wpList_alloc_zero rfl 49 rfl (zeros .u8 32) zero_sum ?_)
        | (refine wpList_store_mid rfl 49 _ _ rfl _ _ (cb S).toArray rfl rfl (Bl.there_ (Bl.new _ (zeros .u8 32) 49) (by simp [zeros, cb_len, HSL.out])) (by rw [size_sum, List.size_toArray, cb_len, HSL.out]) (all_oneCell_toArray (cb_one _)) ?_; change wpList _ _ _ _ _ (World.setCells (w3.alloc (.cells (zeros .u8 32).toArray 49)) w3.heap.size 0 (cb S)); rw [← HW4.out]))
      refine (add_any go O S _ _ _ _ 32 hso4 hs4 hsz4 hoff (by omega) (by simp) hT4 (by omega) (by rw [HOL.out, HSL.out]; omega)).mono ?_
      rintro e w5 ⟨rfl, hst5, hg5, hT5⟩
      have b05 := b04.grown hg5 (by simp; omega)
      have hb5 := below_but hbw4 hg5 hsz3 (by omega)
      clear hso4 hs4 hoff hT4 hg5 b04 hbw4
      go_wp2_with fail
      refine (sum_any go (O ++ S) _ hst5 hT5 (by rw [List.length_append, HOL.out, HSL.out]; omega)).mono ?_
      rintro e w6 ⟨rfl, hb6⟩
      rw [← HRR.out]
      have b06 := b05.next hb6
      have hbw6 := next hb5 hb6
      clear b05 hb5 hb6 hst5 hT5
      go_wp2_with (refine wpList_store_mid rfl 49 _ _ rfl _ _ (cb R).toArray rfl rfl (b06.there_ (by simp [zeros, cb_len, HRL.out])) (by rw [size_sum, List.size_toArray, cb_len, HRL.out]) (all_oneCell_toArray (cb_one _)) ?_)
      have hc := b06.over (vs := cb R) (by rw [cb_len, HRL.out, zeros_len])
      exact ret_row Tryd.results20 rfl hc Tryd.underlying49 rfl (by rw [size_sum, cb_len, HRL.out]) rfl ⟨rfl, below_setCells hbw6 (Nat.le_refl _) _ _⟩

end Go.Proofs.YtfmbilnbbpbpeaaDoor

