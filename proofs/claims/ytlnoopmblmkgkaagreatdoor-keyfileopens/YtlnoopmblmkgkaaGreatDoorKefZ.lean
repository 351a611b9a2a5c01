/- Layer 11, keyfile: the law's own alike: rings with the same masters. -/
import Derived.Test.YtlnoopmblmkgkaaGreatDoorKefY
import Derived.Test.YtlnoopmblmkgkaaGreatDoorTabL
namespace Go.Proofs.YtlnoopmblmkgkaaGreatDoor
set_option maxRecDepth 100000
open Go Go.RowKit
set_option linter.unusedVariables false
set_option linter.unusedSimpArgs false

theorem same_rkeyR {m m' : RM} (h : SameR m m') (p : List UInt8) (e : Int) : rkeyR m' p e = rkeyR m p e := by unfold rkeyR; rw [h e]
theorem same_rkeyE {m m' : RM} (h : SameR m m') (p : List UInt8) (e : Int) : rkeyE m' p e = rkeyE m p e := by unfold rkeyE; rw [h e]
theorem same_repochs {m m' : RM} (h : SameR m m') : repochs m = repochs m' := by unfold repochs; congr 1; funext e; rw [h e]

set_option maxHeartbeats 4000000 in
theorem alike_any (g B : Nat) (m m' : RM) (hs : SameR m m') (A : Option Addr) (n c : Nat) (w : World) (hT : Tabs3 w) (hr : Rg w w.heap.size g m) (hq : Rr w B A n c m') (ok' : RingOk m') (hB : B ≤ w.heap.size) (hm : m.length ≤ 1000) (hm' : m'.length ≤ 1000) :
    Calls Tryz.prog 16 #[.pointer (some ⟨g, 0, none⟩), .agg #[.slice A n c]] w fun e w' => e = .returned (.bool true) ∧ Below w.heap.size w w' := by
  have ok := hr.2.1
  have hb0 : Below w.heap.size w (w.alloc (.cells #[.slice A n c] 30)) := (Below.refl _ w).alloc (Nat.le_refl _) _
  have b0 := Bl.newA w #[.slice A n c] 30
  obtain ⟨W0, hW0⟩ : ∃ W, W = w.alloc (.cells #[.slice A n c] 30) := ⟨_, rfl⟩
  rw [← hW0] at hb0 b0
  have HW0 : Hid (w.alloc (.cells #[.slice A n c] 30) = W0) := hW0.symm
  have b0' : Bl W0 w.heap.size [.slice A n c] 30 := b0
  have r0 := (hr.next hb0).up hb0.size
  have q0 := hq.next hB hb0
  have hnm : n = m'.length := hq.1
  have HN : Hid ((repochs m).length = n) := by unfold Hid; rw [same_repochs hs, repochs_count ok', hnm]
  have HNM : Hid (n = m'.length) := hnm
  have HLA : Hid (∀ L L', IsLast m L → IsLast m' L' → L = L') := by unfold Hid; intro L L' h h'; exact same_last ok ok' hs h h'
  have HKR : Hid (∀ p e, rkeyR m' p e = rkeyR m p e) := by unfold Hid; exact same_rkeyR hs
  have HKE : Hid (∀ p e, rkeyE m' p e = rkeyE m p e) := by unfold Hid; exact same_rkeyE hs
  have HT := Lib.hid (hT.next hb0).dig
  have HB : Hid (B ≤ W0.heap.size) := Nat.le_trans hB hb0.size
  clear hW0 b0 hr hq hnm hs hT hB
  go_enter Tryz.func16, Tryz.ntmps16
  go_wp2_with (first | (rw [HW0.out]) | fail)
  obtain ⟨S, hSd⟩ : ∃ S : World → Prop, S = fun w' => w'.cell? ⟨w.heap.size, 0, none⟩ = some (.slice A n c) := ⟨_, rfl⟩
  have HS0 : Hid (∀ w', S w' → w'.cell? ⟨w.heap.size, 0, none⟩ = some (.slice A n c)) := by unfold Hid; intro w' h; rw [hSd] at h; exact h
  have HSI : Hid (∀ w', Below W0.heap.size W0 w' → S w') := by unfold Hid; intro w' hb; rw [hSd]; exact (b0'.next hb).cell 0
  obtain ⟨W1, hW1⟩ : ∃ W', W' = W0.drew := ⟨_, rfl⟩
  have hb1 : Below W0.heap.size W0 W1 := by rw [hW1]; exact (Below.refl _ W0).drew
  have hS := HSI.out _ hb1
  clear hSd
  refine wp_region_held_drew (S := S) (by kernel_rfl) (by rw [← hW1]; exact hS) (fun _ => ?_)
  rw [← hW1]
  clear hW1
  refine wpAnyH_take (i := 0) (v := (.pointer (some ⟨g, 0, none⟩))) rfl (by kernel_rfl) (by kernel_rfl) (by kernel_rfl) (fun _ _ _ h => h) (Or.inl ⟨by rfl, fun _ hSw => by go_simp⟩) hS ?_
  simp only [List.getElem_toArray, List.getElem_cons_succ, List.getElem_cons_zero, Act.put, List.setIfInBounds_toArray, List.set_cons_zero, List.set_cons_succ]
  refine wpAnyH_take (i := 1) (v := (.bool false)) rfl (by kernel_rfl) (by kernel_rfl) (by kernel_rfl) (fun _ _ _ h => h) (Or.inl ⟨by rfl, fun _ hSw => by go_simp⟩) hS ?_
  simp only [List.getElem_toArray, List.getElem_cons_succ, List.getElem_cons_zero, Act.put, List.setIfInBounds_toArray, List.set_cons_zero, List.set_cons_succ]
  refine wpAnyH_take (i := 2) (v := (.bool false)) rfl (by kernel_rfl) (by kernel_rfl) (by kernel_rfl) (fun _ _ _ h => h) (Or.inl ⟨by rfl, fun _ hSw => by go_simp⟩) hS ?_
  simp only [List.getElem_toArray, List.getElem_cons_succ, List.getElem_cons_zero, Act.put, List.setIfInBounds_toArray, List.set_cons_zero, List.set_cons_succ]
  refine wpAnyH_take (i := 3) (v := (.pointer (some ⟨g, 0, none⟩))) rfl (by kernel_rfl) (by kernel_rfl) (by kernel_rfl) (fun _ _ _ h => h) (Or.inl ⟨by rfl, fun _ hSw => by go_simp⟩) hS ?_
  simp only [List.getElem_toArray, List.getElem_cons_succ, List.getElem_cons_zero, Act.put, List.setIfInBounds_toArray, List.set_cons_zero, List.set_cons_succ]
  refine wpAnyH_take (i := 5) (v := (.agg #[.slice A n c])) rfl (by kernel_rfl) (by kernel_rfl) (by kernel_rfl) (fun _ _ _ h => h) (Or.inl ⟨by rfl, fun w' hSw => by have hq := HS0.out w' hSw; go_simp⟩) hS ?_
  simp only [List.getElem_toArray, List.getElem_cons_succ, List.getElem_cons_zero, Act.put, List.setIfInBounds_toArray, List.set_cons_zero, List.set_cons_succ]
  refine wpAnyH_ready (rs := [4]) (by kernel_rfl) (by simp) (AllReadyH.cons rfl (fun K hK => ?_) AllReadyH.nil)
  simp only [List.getElem_toArray, List.getElem_cons_succ, List.getElem_cons_zero, Act.put, List.setIfInBounds_toArray, List.set_cons_zero, List.set_cons_succ]
  go_simp
  refine (llast_any g W1.heap.size m W1 ((r0.next hb1).up hb1.size)).mono ?_
  rintro r w2 ⟨L, rfl, hL, hb2⟩
  replace hb2 := next hb1 hb2
  replace hS := HSI.out _ hb2
  refine hK.out _ _ hS (fun _ => ?_)
  clear hK K hb1
  refine wpAnyH_ready (rs := [6]) (by kernel_rfl) (by simp) (AllReadyH.cons rfl (fun K hK => ?_) AllReadyH.nil)
  simp only [List.getElem_toArray, List.getElem_cons_succ, List.getElem_cons_zero, Act.put, List.setIfInBounds_toArray, List.set_cons_zero, List.set_cons_succ]
  go_simp
  refine (rlast_any m' ok' hm' w2 B A n c (q0.next HB.out hb2) (Nat.le_trans HB.out hb2.size)).mono ?_
  rintro r w3 ⟨L', rfl, hL', hb3⟩
  obtain rfl := HLA.out _ _ hL hL'
  replace hb3 := next hb2 hb3
  replace hS := HSI.out _ hb3
  refine hK.out _ _ hS (fun _ => ?_)
  clear hK K hb2 hL hL'
  refine wpAnyH_take (i := 7) (v := (.bool false)) rfl (by kernel_rfl) (by kernel_rfl) (by kernel_rfl) (fun _ _ _ h => h) (Or.inl ⟨by rfl, fun _ hSw => by go_simp⟩) hS ?_
  simp only [List.getElem_toArray, List.getElem_cons_succ, List.getElem_cons_zero, Act.put, List.setIfInBounds_toArray, List.set_cons_zero, List.set_cons_succ]
  refine wpAnyH_take (i := 8) (v := (.bool false)) rfl (by kernel_rfl) (by kernel_rfl) (by kernel_rfl) (fun _ _ _ h => h) (Or.inl ⟨by rfl, fun _ hSw => by go_simp⟩) hS ?_
  simp only [List.getElem_toArray, List.getElem_cons_succ, List.getElem_cons_zero, Act.put, List.setIfInBounds_toArray, List.set_cons_zero, List.set_cons_succ]
  refine wpAnyH_take (i := 9) (v := (.bool false)) rfl (by kernel_rfl) (by kernel_rfl) (by kernel_rfl) (fun _ _ _ h => h) (Or.inl ⟨by rfl, fun _ hSw => by go_simp⟩) hS ?_
  simp only [List.getElem_toArray, List.getElem_cons_succ, List.getElem_cons_zero, Act.put, List.setIfInBounds_toArray, List.set_cons_zero, List.set_cons_succ]
  refine wpAnyH_take (i := 10) (v := (.pointer (some ⟨g, 0, none⟩))) rfl (by kernel_rfl) (by kernel_rfl) (by kernel_rfl) (fun _ _ _ h => h) (Or.inl ⟨by rfl, fun _ hSw => by go_simp⟩) hS ?_
  simp only [List.getElem_toArray, List.getElem_cons_succ, List.getElem_cons_zero, Act.put, List.setIfInBounds_toArray, List.set_cons_zero, List.set_cons_succ]
  refine wpAnyH_take (i := 13) (v := (.pointer (some ⟨w.heap.size, 0, none⟩))) rfl (by kernel_rfl) (by kernel_rfl) (by kernel_rfl) (fun _ _ _ h => h) (Or.inl ⟨by rfl, fun _ hSw => by go_simp⟩) hS ?_
  simp only [List.getElem_toArray, List.getElem_cons_succ, List.getElem_cons_zero, Act.put, List.setIfInBounds_toArray, List.set_cons_zero, List.set_cons_succ]
  refine wpAnyH_take (i := 14) (v := (.slice A n c)) rfl (by kernel_rfl) (by kernel_rfl) (by kernel_rfl) (fun _ _ _ h => h) (Or.inl ⟨by rfl, fun w' hSw => by have hq := HS0.out w' hSw; go_simp⟩) hS ?_
  simp only [List.getElem_toArray, List.getElem_cons_succ, List.getElem_cons_zero, Act.put, List.setIfInBounds_toArray, List.set_cons_zero, List.set_cons_succ]
  refine wpAnyH_take (i := 15) (v := (.int .i64 n)) rfl (by kernel_rfl) (by kernel_rfl) (by kernel_rfl) (fun _ _ _ h => h) (Or.inl ⟨by rfl, fun _ hSw => by go_simp⟩) hS ?_
  simp only [List.getElem_toArray, List.getElem_cons_succ, List.getElem_cons_zero, Act.put, List.setIfInBounds_toArray, List.set_cons_zero, List.set_cons_succ]
  refine wpAnyH_ready (rs := [11]) (by kernel_rfl) (by simp) (AllReadyH.cons rfl (fun K hK => ?_) AllReadyH.nil)
  simp only [List.getElem_toArray, List.getElem_cons_succ, List.getElem_cons_zero, Act.put, List.setIfInBounds_toArray, List.set_cons_zero, List.set_cons_succ]
  go_simp
  refine (lepochs_any g w3.heap.size m hm w3 ((r0.next hb3).up hb3.size)).mono ?_
  rintro r w4 ⟨va, rfl, owna, hb4⟩
  rw [HN.out] at owna
  obtain ⟨Aa, ca, rfl⟩ := own_form owna
  replace hb4 := next hb3 hb4
  replace hS := HSI.out _ hb4
  refine hK.out _ _ hS (fun _ => ?_)
  clear hK K hb3 owna
  refine wpAnyH_take (i := 12) (v := (.int .i64 n)) rfl (by kernel_rfl) (by kernel_rfl) (by kernel_rfl) (fun _ _ _ h => h) (Or.inl ⟨by rfl, fun _ hSw => by go_simp⟩) hS ?_
  simp only [List.getElem_toArray, List.getElem_cons_succ, List.getElem_cons_zero, Act.put, List.setIfInBounds_toArray, List.set_cons_zero, List.set_cons_succ]
  refine wpAnyH_take (i := 16) (v := (.bool false)) rfl (by kernel_rfl) (by kernel_rfl) (by kernel_rfl) (fun _ _ _ h => h) (Or.inl ⟨by rfl, fun _ hSw => by go_simp⟩) hS ?_
  simp only [List.getElem_toArray, List.getElem_cons_succ, List.getElem_cons_zero, Act.put, List.setIfInBounds_toArray, List.set_cons_zero, List.set_cons_succ]
  refine wpAnyH_take (i := 17) (v := (.bool false)) rfl (by kernel_rfl) (by kernel_rfl) (by kernel_rfl) (fun _ _ _ h => h) (Or.inl ⟨by rfl, fun _ hSw => by go_simp⟩) hS ?_
  simp only [List.getElem_toArray, List.getElem_cons_succ, List.getElem_cons_zero, Act.put, List.setIfInBounds_toArray, List.set_cons_zero, List.set_cons_succ]
  refine wpAnyH_done (by kernel_rfl) ?_ _
  clear hS HS0 HSI
  have r4 := (r0.next hb4).up hb4.size
  have q4 := q0.next HB.out hb4
  have b4 := b0'.next hb4
  have c4 : w4.cell? ⟨w.heap.size, 0, none⟩ = some (.slice A n c) := b4.cell 0
  have hbw := next hb0 hb4
  have HT4 := Lib.hid (HT.out.next hb4)
  have HB4 : Hid (B ≤ w4.heap.size) := Nat.le_trans HB.out hb4.size
  have hnb : n ≤ 1000 := by rw [HNM.out]; exact hm'
  clear r0 q0 b0' hb0 hb4 HT HB HN HLA
  go_wp2
  go_loopw [32] (fun i wr => ∃ (j : Nat), j ≤ n ∧ i = .int .i64 j ∧ Below w4.heap.size w4 wr) (fun i _ => n - (Go.RowKit.intOf i).toNat)
  case atStart => exact ⟨0, by omega, rfl, Below.refl _ _⟩
  case round =>
    obtain ⟨j, hj, rfl, hbj⟩ := hrel
    by_cases hlt : (j : Int) < (n : Int)
    · have HJ : Hid (j + 1 ≤ n) := (by omega : j + 1 ≤ n)
      have qj := q4.next HB4.out hbj
      obtain ⟨hn1, hnc, hA, xs, hsx, hone, hx⟩ := qj
      obtain ⟨x1, K9, kd, x2, hK9, hkd⟩ := hx j (by omega)
      obtain ⟨ad, rfl, hadB, hcl⟩ := hsx.2 (by omega)
      obtain ⟨e, he⟩ : ∃ e : Int, e = (m'[j].1 : Int) := ⟨_, rfl⟩
      rw [← he] at x1
      have q0 : wr.cell? (ad.add (j * 2)) = some (.int .i64 e) := hcl _ _ x1
      have q1 : wr.cell? ((ad.add (j * 2)).add 1) = some (.slice K9 32 kd) := by rw [add_add]; exact hcl _ _ x2
      have hone9 := masC_one e K9 32 kd
      have hcc := masC_at q0 q1
      obtain ⟨b5, hb5, hs5⟩ := put_new wr masZ (masC e K9 32 kd) 63 rfl
      have ht5 : (wr.alloc (.cells masZ.toArray 63)).there wr.heap.size 0 (masC e K9 32 kd).toArray.size := (Bl.new wr masZ 63).there_ (by simp [masC, masZ])
      obtain ⟨W5, hW5⟩ : ∃ W, W = (wr.alloc (.cells masZ.toArray 63)).setCells wr.heap.size 0 (masC e K9 32 kd) := ⟨_, rfl⟩
      rw [← hW5] at b5 hb5
      have HW5 := Lib.hid hW5
      obtain ⟨gd, hgd⟩ : ∃ gd, gd = wr.heap.size := ⟨_, rfl⟩
      rw [← hgd] at b5
      have HGD := Lib.hid hgd.symm
      have HONE := Lib.hid hone9
      have HCC := Lib.hid hcc
      have hb45 := next hbj hb5
      have d0 : W5.cell? ⟨gd, 0, none⟩ = some (.int .i64 e) := b5.cell 0
      clear hn1 hA hsx hone hx x1 x2 hcl hK9 hkd q0 q1 hone9 hcc hW5 hgd he hb5 hs5
      go_wp2_with (first
        | (refine wpList_load_at rfl 63 _ rfl (ad.add (j * 2)) rfl (masC e K9 32 kd) _ HCC.out Tryz.underlying63 rfl size_mast ?_)
        | (refine wpList_alloc_zero rfl 63 rfl masZ zero_mast ?_)
        | (refine wpList_store_mid rfl 63 _ _ rfl _ _ (masC e K9 32 kd).toArray rfl rfl ht5 size_mast (all_oneCell_toArray HONE.out) ?_; rw [← HW5.out, HGD.out])
        | fail)
      obtain ⟨P, hP⟩ : ∃ P : List UInt8, P = [115, 101, 97, 108] := ⟨_, rfl⟩
      obtain ⟨R, hR⟩ : ∃ R, R = rkeyR m P e := ⟨_, rfl⟩
      obtain ⟨E, hE⟩ : ∃ R, R = rkeyE m P e := ⟨_, rfl⟩
      have HR : Hid (rkeyR m P e = R) := hR.symm
      have HE : Hid (rkeyE m P e = E) := hE.symm
      have HP : Hid ([115, 101, 97, 108] = P) := hP.symm
      have hpl : P.length ≤ 9223372036854775807 := by rw [hP]; decide
      clear hR hE
      have hk6 := lrkey_any g W5.heap.size m P e W5 ((r4.next hb45).up hb45.size) (HT4.out.next hb45)
      rw [hP] at hk6
      refine hk6.mono ?_
      rw [HP.out, HE.out, HR.out]
      rintro r w6 ⟨A6, n6, c6, rfl, x6⟩
      have hb46 := next hb45 x6.below
      have b6 := b5.next x6.below
      have d06 : w6.cell? ⟨gd, 0, none⟩ = some (.int .i64 e) := b6.cell 0
      have c6q : w6.cell? ⟨w.heap.size, 0, none⟩ = some (.slice (some ad) n c) := (b4.next hb46).cell 0
      clear hk6 d0
      go_wp2_with fail
      have hk7 := rrkey_any m' ok' hm' P hpl e w6 B (some ad) n c (q4.next HB4.out hb46) (Nat.le_trans HB4.out hb46.size)
      rw [HKR.out, HKE.out, HE.out, HR.out, hP] at hk7
      refine hk7.mono ?_
      rintro r w7 ⟨A7, n7, c7, rfl, x7⟩
      have hb47 := next hb46 x7.below
      have u1 := u8_str (x6.sl.nx x7.below) c6
      have u2 := u8_str x7.sl c7
      clear hk7 x6 x7 b5 b6 d06 c6q hb45 hb46 hbj hP
      go_wp2
      go_roundw
      case rel => exact ⟨j + 1, HJ.out, by go_num, hb47⟩
      case measure => have := HJ.out; simp [Go.RowKit.intOf]; omega
    · go_wp2
      go_ret
      exact ⟨rfl, next hbw hbj⟩

end Go.Proofs.YtlnoopmblmkgkaaGreatDoor
