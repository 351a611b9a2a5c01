/- The walk of the law KeyfileForm. -/
import Derived.Test.YtlnoopmblmkgkaaGreatDoorKefV
import Derived.Test.YtlnoopmblmkgkaaGreatDoorKefW
import Derived.Test.YtlnoopmblmkgkaaGreatDoorKefE
import Derived.Test.YtlnoopmblmkgkaaGreatDoorKefC
import Derived.Test.YtlnoopmblmkgkaaGreatDoorLabW
import Derived.OrdersHeld
namespace Go.Proofs.YtlnoopmblmkgkaaGreatDoor
set_option maxRecDepth 100000
open Go Go.RowKit
set_option linter.unusedVariables false
set_option linter.unusedSimpArgs false

/-- What is put is got as it was. -/
theorem got_put {S X : List UInt8} {r nu : Int} (hk : kfit S.length r nu X.length = true) : gtE (putL S r nu X) = 0 ∧ gtF (putL S r nu X) = ⟨S, r, nu, X⟩ := by
  obtain ⟨a1, a2, a3, a4, a5, a6, a7⟩ := put_read hk []
  rw [List.append_nil] at a1 a2 a3 a4 a5 a6
  rw [List.append_nil] at a6
  have h : gtE (putL S r nu X) = 0 := by
    unfold gtE
    rw [if_pos a1, if_neg]
    unfold szN at a2
    rw [if_pos a1] at a2
    omega
  refine ⟨h, ?_⟩
  unfold gtF
  rw [if_pos h, a3, a4, a5, a6]

set_option maxHeartbeats 4000000 in
theorem kform_no (A : Option Addr) (n c : Nat) (S : List UInt8) (r nu : Int) (B : Option Addr) (m d : Nat) (X : List UInt8) (A1 : Option Addr) (n1 c1 : Nat) (l1 : List UInt8) (w : World) (hT : Tabs3 w) (iS : InBytes w A n c S) (iX : InBytes w B m d X) (s1 : InBytes w A1 n1 c1 l1) (hk : kfit S.length r nu X.length = false) :
    Calls Tryz.prog 8 #[.agg (fC A n c r nu B m d).toArray, .slice A1 n1 c1] w fun e w' => e = .returned (.bool true) ∧ Below w.heap.size w w' := by
  obtain ⟨i0, hi, hz0, hz1, hz2⟩ := info_parts u8_info
  have y1 := s1.bys
  have hn1 : n1 ≤ 140737488351232 := Nat.le_trans s1.cap s1.room
  have hl1 : l1.length ≤ 140737488351232 := by rw [← y1.len]; exact hn1
  have hn : n ≤ 140737488351232 := Nat.le_trans iS.cap iS.room
  have hm : m ≤ 140737488351232 := Nat.le_trans iX.cap iX.room
  have f0 : Fil w A n c S B m d X := ⟨iS.bys, iX.bys⟩
  have eS := iS.bys.len
  have eX := iX.bys.len
  obtain ⟨W0, HW0, b0, hb0, hsz0⟩ := put_f w (fC A n c r nu B m d) 35
  have wh0 := b0.whole
  have f0' := f0.nx hb0
  have HT := Lib.hid hT
  clear hsz0 s1 iS iX hT
  obtain ⟨P, hP⟩ : ∃ P, P = putL S r nu X := ⟨_, rfl⟩
  have HP0 : Hid (putL S r nu X = P) := hP.symm
  have hP0 : P = [] := by rw [hP]; unfold putL; rw [hk, if_neg (by decide)]
  subst hP0
  clear hP hk eS eX
  go_enter Tryz.func8, Tryz.ntmps8
  go_wp2_with (first
    | (refine wpList_box_agg rfl 35 _ rfl (fC A n c r nu B m d) rfl ?_; rw [HW0.out])
    | (refine wpList_load_mid rfl 35 _ rfl _ _ rfl (fC A n c r nu B m d) _ wh0 Tryz.underlying35 rfl size_kf ?_)
    | (go_at_call 22; refine (put_any11 S X A n c r nu B m d W0 f0' hn hm).mono ?_; rw [HP0.out]; rintro e wz ⟨X2, c2, rfl, x2⟩; have hbz := next hb0 x2.below; clear x2)
    | fail)
  clear wh0 b0 f0 f0' hb0
  refine (own_any l1 wz wz.heap.size A1 n1 c1 (y1.nx hbz).sl y1.none_ (by omega) (Nat.le_refl _)).mono ?_
  rintro e wa ⟨Xa, ca, rfl, xa⟩
  have ya := xa.bys
  have hba := next hbz xa.below
  clear xa
  have mkB : True := trivial
  by_cases hE1 : gtE l1 = 0
  · obtain ⟨hp1, hk1, hs1, hx1⟩ := read_put hE1
    obtain ⟨F, hF⟩ : ∃ F, F = gtF l1 := ⟨_, rfl⟩
    have hFv : F = ⟨gSalt l1, gR l1, gNu l1, gBox l1⟩ := by rw [hF]; unfold gtF; rw [if_pos hE1]
    have HP : Hid (putL F.S F.r F.nu F.X = l1) := by unfold Hid; rw [hFv]; exact hp1
    have hFS : F.S.length = 16 := by rw [hFv]; exact hs1
    have hFX : F.X.length ≤ l1.length := by rw [hFv]; show (gBox l1).length ≤ _; unfold gBox; rw [List.length_drop]; omega
    have HFF : Hid (gtF l1 = F) := hF.symm
    have HEE : Hid (gtE l1 = 0) := hE1
    clear hp1 hk1 hs1 hx1 hF hFv hE1
    go_wp2_with
      (first
      | (have := mkB; go_at_call 26; refine (get_any l1 wa Xa n1 ca ya.sl ya.cap ya.none_ (by omega)).mono ?_; rw [HEE.out, HFF.out]; rintro e wb ⟨A4, n4, c4, B4, m4, d4, rfl, f4, hbb⟩; obtain ⟨b5, hb5, hz5⟩ := put_new wb nilF (fC A4 n4 c4 F.r F.nu B4 m4 d4) 35 rfl; obtain ⟨W5, hW5⟩ : ∃ W, W = (wb.alloc (.cells nilF.toArray 35)).setCells wb.heap.size 0 (fC A4 n4 c4 F.r F.nu B4 m4 d4) := ⟨_, rfl⟩; rw [← hW5] at b5 hb5 hz5; have HW5 := Lib.hid hW5; have f5 := f4.nx hb5; have hbc := next (next hba hbb) hb5; have wh5 := b5.whole; clear hW5 mkB; have mkC : True := trivial)
      | (have := mkC; refine wpList_alloc_zero rfl 35 rfl nilF zero_kf ?_)
      | (have := mkC; refine wpList_store_mid rfl 35 _ _ rfl _ _ (fC A4 n4 c4 F.r F.nu B4 m4 d4).toArray rfl rfl (Bl.there_ (Bl.new wb nilF 35) (by simp [nilF, fC])) size_kf (all_oneCell_toArray (fC_one _ _ _ _ _ _ _ _)) ?_; change wpList _ _ _ _ _ (World.setCells (wb.alloc (.cells nilF.toArray 35)) wb.heap.size 0 (fC A4 n4 c4 F.r F.nu B4 m4 d4)); rw [← HW5.out]; clear mkC; have mkD : True := trivial)
      | fail)
    have hn4 : n4 ≤ 140737488351232 := by have := f5.salt.len; omega
    have hm4 : m4 ≤ 140737488351232 := by have := f5.box.len; omega
    clear hFS hFX
    obtain ⟨SS, hSd⟩ : ∃ SS : World → Prop, SS = fun w' => Bl w' wb.heap.size (fC A4 n4 c4 F.r F.nu B4 m4 d4) 35 ∧ (convert 22 9 (.slice A1 n1 c1)).run Tryz.prog w' = .ok (.string ⟨l1.toArray⟩) w' := ⟨_, rfl⟩
    have HSI : Hid (∀ w', Bl w' wb.heap.size (fC A4 n4 c4 F.r F.nu B4 m4 d4) 35 → Below w.heap.size w w' → SS w') := by unfold Hid; intro w' hb hb'; rw [hSd]; exact ⟨hb, u8_str (y1.nx hb').sl c1⟩
    have HSW : Hid (∀ w', SS w' → ∀ j v, (fC A4 n4 c4 F.r F.nu B4 m4 d4)[j]? = some v → w'.cell? ((⟨wb.heap.size, 0, none⟩ : Addr).add j) = some v) := by unfold Hid; intro w' h j v hv; rw [hSd] at h; rw [Addr.add_mid]; exact h.1.whole j v hv
    have HSC : Hid (∀ w', SS w' → (convert 22 9 (.slice A1 n1 c1)).run Tryz.prog w' = .ok (.string ⟨l1.toArray⟩) w') := by unfold Hid; intro w' h; rw [hSd] at h; exact h.2
    clear hSd wh5 mkD
    obtain ⟨W6, hW6⟩ : ∃ W', W' = W5.drew := ⟨_, rfl⟩
    have hbd : Below W5.heap.size W5 W6 := by rw [hW6]; exact (Below.refl _ W5).drew
    replace b5 := b5.next hbd
    replace hbc := next hbc hbd
    replace f5 := f5.nx hbd
    have hS := HSI.out _ b5 hbc
    refine wp_region_held_drew (S := SS) (by kernel_rfl) (by rw [← hW6]; exact hS) (fun _ => ?_)
    rw [← hW6]
    clear hW6 hbd
    refine wpAnyH_take (i := 0) (v := .agg (fC A4 n4 c4 F.r F.nu B4 m4 d4).toArray) rfl (by kernel_rfl) (by kernel_rfl) (by kernel_rfl) (fun _ _ _ h => h) (Or.inl ⟨by rfl, fun w' hSw => exec_load_at w' 35 _ rfl ⟨wb.heap.size, 0, none⟩ rfl (fC A4 n4 c4 F.r F.nu B4 m4 d4) _ (HSW.out w' hSw) Tryz.underlying35 rfl size_kf⟩) hS ?_
    simp only [List.getElem_toArray, List.getElem_cons_succ, List.getElem_cons_zero, Act.put, List.setIfInBounds_toArray, List.set_cons_zero, List.set_cons_succ]
    refine wpAnyH_take (i := 3) (v := (.slice A1 n1 c1)) rfl (by kernel_rfl) (by kernel_rfl) (by kernel_rfl) (fun _ _ _ h => h) (Or.inl ⟨by rfl, fun _ hSw => by go_simp⟩) hS ?_
    simp only [List.getElem_toArray, List.getElem_cons_succ, List.getElem_cons_zero, Act.put, List.setIfInBounds_toArray, List.set_cons_zero, List.set_cons_succ]
    refine wpAnyH_take (i := 4) (v := .string ⟨l1.toArray⟩) rfl (by kernel_rfl) (by kernel_rfl) (by kernel_rfl) (fun _ _ _ h => h) (Or.inl ⟨by rfl, fun w' hw' => exec_convert w' _ _ _ rfl _ _ rfl (HSC.out w' hw')⟩) hS ?_
    simp only [List.getElem_toArray, List.getElem_cons_succ, List.getElem_cons_zero, Act.put, List.setIfInBounds_toArray, List.set_cons_zero, List.set_cons_succ]
    refine wpAnyH_ready (rs := [1]) (by kernel_rfl) (by simp) (AllReadyH.cons rfl (fun K hK => ?_) AllReadyH.nil)
    simp only [List.getElem_toArray, List.getElem_cons_succ, List.getElem_cons_zero, Act.put, List.setIfInBounds_toArray, List.set_cons_zero, List.set_cons_succ]
    go_simp
    refine (put_any11 F.S F.X A4 n4 c4 F.r F.nu B4 m4 d4 W6 f5 hn4 hm4).mono ?_
    rw [HP.out]
    rintro e w7 ⟨X7, c7, rfl, x7⟩
    replace b5 := b5.next x7.below
    replace hbc := next hbc x7.below
    have y7 := x7.bys
    replace hS := HSI.out _ b5 hbc
    refine hK.out _ _ hS (fun _ => ?_)
    clear hK K x7
    obtain ⟨S2, hS2d⟩ : ∃ S2 : World → Prop, S2 = fun w' => SS w' ∧ (convert 22 9 (.slice X7 l1.length c7)).run Tryz.prog w' = .ok (.string ⟨l1.toArray⟩) w' := ⟨_, rfl⟩
    have HS2a : Hid (∀ w', S2 w' → SS w') := by unfold Hid; intro w' h; rw [hS2d] at h; exact h.1
    have HS2b : Hid (∀ w', S2 w' → (convert 22 9 (.slice X7 l1.length c7)).run Tryz.prog w' = .ok (.string ⟨l1.toArray⟩) w') := by unfold Hid; intro w' h; rw [hS2d] at h; exact h.2
    have HS2I : Hid (∀ w', Below w7.heap.size w7 w' → S2 w') := by unfold Hid; intro w' hb; rw [hS2d]; exact ⟨HSI.out _ (b5.next hb) (next hbc hb), u8_str (y7.nx hb).sl c7⟩
    clear hS2d hS
    have hS : S2 w7 := HS2I.out _ (Below.refl _ _)
    refine wpAnyH_mono (S' := S2) (fun w' h => HS2a.out w' h) _ _ _ _ ?_
    refine wpAnyH_take (i := 2) (v := .string ⟨l1.toArray⟩) rfl (by kernel_rfl) (by kernel_rfl) (by kernel_rfl) (fun _ _ _ h => h) (Or.inl ⟨by rfl, fun w' hw' => exec_convert w' _ _ _ rfl _ _ rfl (HS2b.out w' hw')⟩) hS ?_
    simp only [List.getElem_toArray, List.getElem_cons_succ, List.getElem_cons_zero, Act.put, List.setIfInBounds_toArray, List.set_cons_zero, List.set_cons_succ]
    refine wpAnyH_take (i := 5) (v := (.bool true)) rfl (by kernel_rfl) (by kernel_rfl) (by kernel_rfl) (fun _ _ _ h => h) (Or.inl ⟨by rfl, fun _ hSw => by go_simp⟩) hS ?_
    simp only [List.getElem_toArray, List.getElem_cons_succ, List.getElem_cons_zero, Act.put, List.setIfInBounds_toArray, List.set_cons_zero, List.set_cons_succ]
    refine wpAnyH_take (i := 6) (v := (.bool true)) rfl (by kernel_rfl) (by kernel_rfl) (by kernel_rfl) (fun _ _ _ h => h) (Or.inl ⟨by rfl, fun _ hSw => by go_simp⟩) hS ?_
    simp only [List.getElem_toArray, List.getElem_cons_succ, List.getElem_cons_zero, Act.put, List.setIfInBounds_toArray, List.set_cons_zero, List.set_cons_succ]
    refine wpAnyH_ready (rs := [7]) (by kernel_rfl) (by simp) (AllReadyH.cons rfl (fun K hK => ?_) AllReadyH.nil)
    simp only [List.getElem_toArray, List.getElem_cons_succ, List.getElem_cons_zero, Act.put, List.setIfInBounds_toArray, List.set_cons_zero, List.set_cons_succ]
    go_simp
    refine (awake11_any w7 (HT.out.next hbc)).mono ?_
    rintro e w8 ⟨rfl, hb8⟩
    replace hS := HS2I.out _ hb8
    refine hK.out _ _ hS (fun _ => ?_)
    clear hK K
    replace hbc := next hbc hb8
    refine wpAnyH_take (i := 8) (v := (.bool true)) rfl (by kernel_rfl) (by kernel_rfl) (by kernel_rfl) (fun _ _ _ h => h) (Or.inl ⟨by rfl, fun _ hSw => by go_simp⟩) hS ?_
    simp only [List.getElem_toArray, List.getElem_cons_succ, List.getElem_cons_zero, Act.put, List.setIfInBounds_toArray, List.set_cons_zero, List.set_cons_succ]
    refine wpAnyH_take (i := 9) (v := (.bool true)) rfl (by kernel_rfl) (by kernel_rfl) (by kernel_rfl) (fun _ _ _ h => h) (Or.inl ⟨by rfl, fun _ hSw => by go_simp⟩) hS ?_
    simp only [List.getElem_toArray, List.getElem_cons_succ, List.getElem_cons_zero, Act.put, List.setIfInBounds_toArray, List.set_cons_zero, List.set_cons_succ]
    refine wpAnyH_done (by kernel_rfl) ?_ _
    go_wp2
    go_ret
    exact ⟨rfl, hbc⟩
  · obtain ⟨F, hF⟩ : ∃ F, F = gtF l1 := ⟨_, rfl⟩
    have hFv : F = nilV := by rw [hF]; unfold gtF; rw [if_neg hE1]
    have HFF : Hid (gtF l1 = F) := hF.symm
    obtain ⟨E, hE⟩ : ∃ E, E = gtE l1 := ⟨_, rfl⟩
    have HEE : Hid (gtE l1 = E) := hE.symm
    have hE0 : ¬ E = 0 := by rw [hE]; exact hE1
    have hE0b : (E != 0) = true := by simp [bne, hE0]
    have hE0c : (E == 0) = false := by simp [hE0]
    clear hF hE hE1
    subst hFv
    have HFN : Hid (∀ W, Fil W none 0 0 nilV.S none 0 0 nilV.X) := fun W => fil_nil W
    go_wp2_with
      (first
      | (have := mkB; go_at_call 26; refine (get_any l1 wa Xa n1 ca ya.sl ya.cap ya.none_ (by omega)).mono ?_; rw [HEE.out, HFF.out]; rintro e wb ⟨A4, n4, c4, B4, m4, d4, rfl, f4, hbb⟩; obtain ⟨b5, hb5, hz5⟩ := put_new wb nilF (fC A4 n4 c4 nilV.r nilV.nu B4 m4 d4) 35 rfl; obtain ⟨W5, hW5⟩ : ∃ W, W = (wb.alloc (.cells nilF.toArray 35)).setCells wb.heap.size 0 (fC A4 n4 c4 nilV.r nilV.nu B4 m4 d4) := ⟨_, rfl⟩; rw [← hW5] at b5 hb5 hz5; have HW5 := Lib.hid hW5; have f5 := f4.nx hb5; have hbc := next (next hba hbb) hb5; have wh5 := b5.whole; clear hW5 mkB; have mkC : True := trivial)
      | (have := mkC; refine wpList_alloc_zero rfl 35 rfl nilF zero_kf ?_)
      | (have := mkC; refine wpList_store_mid rfl 35 _ _ rfl _ _ (fC A4 n4 c4 nilV.r nilV.nu B4 m4 d4).toArray rfl rfl (Bl.there_ (Bl.new wb nilF 35) (by simp [nilF, fC])) size_kf (all_oneCell_toArray (fC_one _ _ _ _ _ _ _ _)) ?_; change wpList _ _ _ _ _ (World.setCells (wb.alloc (.cells nilF.toArray 35)) wb.heap.size 0 (fC A4 n4 c4 nilV.r nilV.nu B4 m4 d4)); rw [← HW5.out]; clear mkC; have mkD : True := trivial)
      | (have := mkD; refine wpList_load_want (by rfl) 35 _ rfl _ _ rfl (fC A4 n4 c4 nilV.r nilV.nu B4 m4 d4) _ wh5 Tryz.underlying35 rfl size_kf ?_)
      | (have := mkD; refine wpList_build_to rfl 39 _ rfl nilF built_rf0 ?_)
      | (have := mkD; go_at_call 15; refine (same_any11 nilV.S nilV.X nilV.r nilV.nu A4 n4 c4 B4 m4 d4 none 0 0 none 0 0 W5 f5 (HFN.out W5)).mono ?_; rintro e w8 ⟨rfl, hb8⟩; replace hbc := next hbc hb8)
      | (have := mkD; go_at_call 10; refine (awake11_any w8 (HT.out.next hbc)).mono ?_; rintro e w9 ⟨rfl, hb9⟩)
      | fail)
    go_ret
    exact ⟨rfl, next hbc hb9⟩

set_option maxHeartbeats 4000000 in
theorem kform_yes (A : Option Addr) (n c : Nat) (S : List UInt8) (r nu : Int) (B : Option Addr) (m d : Nat) (X : List UInt8) (A1 : Option Addr) (n1 c1 : Nat) (l1 : List UInt8) (w : World) (hT : Tabs3 w) (iS : InBytes w A n c S) (iX : InBytes w B m d X) (s1 : InBytes w A1 n1 c1 l1) (hk : kfit S.length r nu X.length = true) :
    Calls Tryz.prog 8 #[.agg (fC A n c r nu B m d).toArray, .slice A1 n1 c1] w fun e w' => e = .returned (.bool true) ∧ Below w.heap.size w w' := by
  obtain ⟨i0, hi, hz0, hz1, hz2⟩ := info_parts u8_info
  have y1 := s1.bys
  have hn1 : n1 ≤ 140737488351232 := Nat.le_trans s1.cap s1.room
  have hl1 : l1.length ≤ 140737488351232 := by rw [← y1.len]; exact hn1
  have hn : n ≤ 140737488351232 := Nat.le_trans iS.cap iS.room
  have hm : m ≤ 140737488351232 := Nat.le_trans iX.cap iX.room
  have f0 : Fil w A n c S B m d X := ⟨iS.bys, iX.bys⟩
  have eS := iS.bys.len
  have eX := iX.bys.len
  obtain ⟨W0, HW0, b0, hb0, hsz0⟩ := put_f w (fC A n c r nu B m d) 35
  have wh0 := b0.whole
  have f0' := f0.nx hb0
  have HT := Lib.hid hT
  clear hsz0 s1 iS iX hT
  obtain ⟨P, hP⟩ : ∃ P, P = putL S r nu X := ⟨_, rfl⟩
  have HP0 : Hid (putL S r nu X = P) := hP.symm
  obtain ⟨a1, a2, _, _, _, _, a7⟩ := put_read hk [1, 2]
  obtain ⟨g1, g2⟩ := got_put hk
  rw [← hP] at a1 a2 a7 g1 g2
  obtain ⟨⟨k1, k2, k3⟩, k4, k5, k6, k7, k8⟩ := (kfit_iff _ _ _ _).1 hk
  obtain ⟨K0, hK0⟩ : ∃ K, K = P.length := ⟨_, rfl⟩
  rw [← hK0] at a2 a7
  have HK0 : Hid (P.length = K0) := hK0.symm
  have HG1 := Lib.hid g1
  have HG2 := Lib.hid g2
  have HA1 := Lib.hid a1
  have HA2 := Lib.hid a2
  have hKpos : (0 : Int) < (K0 : Int) := by omega
  have hKb : K0 ≤ 100000 := by omega
  have hKne : ((K0 : Int) != (K0 : Int)) = false := by simp
  have HCB : Hid (cb P ++ cb [1, 2] = cb (P ++ [1, 2])) := by unfold Hid; rw [cb_append]
  have HC1 : Hid ((P ++ [1, 2]).length = K0 + 2) := by unfold Hid; rw [List.length_append, HK0.out]; rfl
  have HFL : Hid (Instr.fill (fun j => some (j, 1)) (zeros .u8 2).toArray [(0, .int .u8 1), (1, .int .u8 2)] = some (cb [1, 2]).toArray) := by unfold Hid; rfl
  clear hP hk a1 a2 a7 eS eX g1 g2 hK0 k1 k2 k3 k4 k5 k6 k7 k8
  go_enter Tryz.func8, Tryz.ntmps8
  have mk0 : True := trivial
  go_wp2_with (first
    | (have := mk3; refine wpList_alloc_zero rfl 35 rfl nilF zero_kf ?_)
    | (have := mk3; refine wpList_store_mid rfl 35 _ _ rfl _ _ (fC A2 n2 c2 r nu B2 m2 d2).toArray rfl rfl (Bl.there_ (Bl.new w3 nilF 35) (by simp [nilF, fC])) size_kf (all_oneCell_toArray (fC_one _ _ _ _ _ _ _ _)) ?_; change wpList _ _ _ _ _ (World.setCells (w3.alloc (.cells nilF.toArray 35)) w3.heap.size 0 (fC A2 n2 c2 r nu B2 m2 d2)); rw [← HW4.out])
    | (have := mk0; refine wpList_box_agg rfl 35 _ rfl (fC A n c r nu B m d) rfl ?_; rw [HW0.out])
    | (have := mk0; refine wpList_load_mid rfl 35 _ rfl _ _ rfl (fC A n c r nu B m d) _ wh0 Tryz.underlying35 rfl size_kf ?_)
    | (have := mk0; go_at_call 22; refine (put_any11 S X A n c r nu B m d W0 f0' hn hm).mono ?_; rw [HP0.out, HK0.out]; rintro e w2 ⟨X1, c1', rfl, x2⟩; have y2 := x2.bys; have hb2 := next hb0 x2.below; have b02 := b0.next x2.below; clear x2 mk0; have mk2 : True := trivial)
    | (have := mk2; go_at_call 26; refine (get_any P w2 X1 K0 c1' y2.sl y2.cap y2.none_ (by omega)).mono ?_; rw [HG1.out, HG2.out]; rintro e w3 ⟨A2, n2, c2, B2, m2, d2, rfl, f3, hb3⟩; obtain ⟨b4, hbn4, hz4⟩ := put_new w3 nilF (fC A2 n2 c2 r nu B2 m2 d2) 35 rfl; obtain ⟨W4, hW4⟩ : ∃ W, W = (w3.alloc (.cells nilF.toArray 35)).setCells w3.heap.size 0 (fC A2 n2 c2 r nu B2 m2 d2) := ⟨_, rfl⟩; rw [← hW4] at b4 hbn4 hz4; have HW4 := Lib.hid hW4; have f4 : Fil W4 A2 n2 c2 S B2 m2 d2 X := f3.nx hbn4; have hb4 := next (next hb2 hb3) hbn4; have y4 := (y2.nx hb3).nx hbn4; have b04 := (b02.next hb3).next hbn4; clear hW4 mk2 f3; have mk3 : True := trivial)
    | fail)
  refine (own_any P W4 W4.heap.size X1 K0 c1' y4.sl y4.none_ (by omega) (Nat.le_refl _)).mono ?_
  rintro e w5 ⟨X5, c5, rfl, x5⟩
  obtain ⟨W6, hW6⟩ : ∃ W, W = w5.alloc (.cells (cb [1, 2]).toArray 5) := ⟨_, rfl⟩
  have bn6 := Bl.new w5 (cb [1, 2]) 5
  have hbn6 : Below w5.heap.size w5 (w5.alloc (.cells (cb [1, 2]).toArray 5)) := (Below.refl _ w5).alloc (Nat.le_refl _) _
  rw [← hW6] at bn6 hbn6
  have HW6 := Lib.hid hW6
  have own6 := own_below x5.own hbn6
  have hb46 := next x5.below hbn6
  have hz46 := hb46.size
  have s6 : Sl W6 W6.heap.size (some ⟨w5.heap.size, 0, none⟩) 2 (cb [1, 2]) := (bn6.sl (o := 0) (n := 2) (by rfl) (Nat.le_refl 2)).up bn6.lt
  clear hW6 x5 bn6 hbn6
  go_wp2_with (first
    | (refine wpList_buildSlice_to rfl 22 2 _ rfl 5 i0 .u8 Tryz.underlying22 hi hz0 hz1 (by omega) (by omega) (cb [1, 2]) HFL.out ?_; rw [← HW6.out])
    | (at_builtin; refine wpList_append_sl _ rfl _ _ 22 rfl W4.heap.size 5 i0 (.int .u8 0) 1 Tryz.underlying22 hi hz0 hz1 hz2 rfl _ K0 (cb P) rfl own6 W6.heap.size (some ⟨w5.heap.size, 0, none⟩) 2 2 (cb [1, 2]) rfl s6 (fun h => by cases h) (cb_one _) (by unfold maxLen; omega) (by omega) hz46 ?_; intro v7 w7 own7 hg7 hat7; have hb7 := hb46.grown hg7 hb46.size (fun j hj => by have := own_blk own6 hj; omega); obtain ⟨X7, d7, rfl⟩ := own_form own7; rw [HCB.out] at own7; clear own6 s6 hg7 hat7 hz46; have mk7 : True := trivial)
    | (have := mk7; go_at_call 24; refine (size_any (P ++ [1, 2]) w7 X7 (K0 + 2) d7 (Sl.own own7) (own_cap own7) (own_none own7) (by omega)).mono ?_; rw [HA1.out, HA2.out]; rintro e w8 ⟨rfl, hd8⟩; have hb8 := next (next hb4 hb7) (hd8.below _); have b48 := (b4.next hb7).next (hd8.below _); have f48 := (f4.nx hb7).nx (hd8.below _); have b08 := (b04.next hb7).next (hd8.below _); clear hd8 own7 mk7)
    | fail)
  obtain ⟨SS, hSd⟩ : ∃ SS : World → Prop, SS = fun w' => Bl w' w.heap.size (fC A n c r nu B m d) 35 ∧ Bl w' w3.heap.size (fC A2 n2 c2 r nu B2 m2 d2) 35 := ⟨_, rfl⟩
  have HSI : Hid (∀ w', Bl w' w.heap.size (fC A n c r nu B m d) 35 → Bl w' w3.heap.size (fC A2 n2 c2 r nu B2 m2 d2) 35 → SS w') := by unfold Hid; intro w' hb hb'; rw [hSd]; exact ⟨hb, hb'⟩
  have HSW : Hid (∀ w', SS w' → ∀ j v, (fC A n c r nu B m d)[j]? = some v → w'.cell? ((⟨w.heap.size, 0, none⟩ : Addr).add j) = some v) := by unfold Hid; intro w' h j v hv; rw [hSd] at h; rw [Addr.add_mid]; exact h.1.whole j v hv
  have HSG : Hid (∀ w', SS w' → ∀ j v, (fC A2 n2 c2 r nu B2 m2 d2)[j]? = some v → w'.cell? ((⟨w3.heap.size, 0, none⟩ : Addr).add j) = some v) := by unfold Hid; intro w' h j v hv; rw [hSd] at h; rw [Addr.add_mid]; exact h.2.whole j v hv
  have f08 : Fil w8 A n c S B m d X := f0.nx hb8
  clear hSd wh0 b0 b02 b04 b4 f4 y2 y4 f0 f0'
  obtain ⟨W9, hW9⟩ : ∃ W', W' = w8.drew := ⟨_, rfl⟩
  have hbd : Below w8.heap.size w8 W9 := by rw [hW9]; exact (Below.refl _ w8).drew
  replace b48 := b48.next hbd
  replace b08 := b08.next hbd
  replace f48 := f48.nx hbd
  replace f08 := f08.nx hbd
  replace hb8 := next hb8 hbd
  have hS := HSI.out _ b08 b48
  refine wp_region_held_drew (S := SS) (by kernel_rfl) (by rw [← hW9]; exact hS) (fun _ => ?_)
  rw [← hW9]
  clear hW9 hbd
  refine wpAnyH_take (i := 0) (v := .agg (fC A2 n2 c2 r nu B2 m2 d2).toArray) rfl (by kernel_rfl) (by kernel_rfl) (by kernel_rfl) (fun _ _ _ h => h) (Or.inl ⟨by rfl, fun w' hSw => exec_load_at w' 35 _ rfl ⟨w3.heap.size, 0, none⟩ rfl (fC A2 n2 c2 r nu B2 m2 d2) _ (HSG.out w' hSw) Tryz.underlying35 rfl size_kf⟩) hS ?_
  simp only [List.getElem_toArray, List.getElem_cons_succ, List.getElem_cons_zero, Act.put, List.setIfInBounds_toArray, List.set_cons_zero, List.set_cons_succ]
  refine wpAnyH_take (i := 1) (v := .agg (fC A n c r nu B m d).toArray) rfl (by kernel_rfl) (by kernel_rfl) (by kernel_rfl) (fun _ _ _ h => h) (Or.inl ⟨by rfl, fun w' hSw => exec_load_at w' 35 _ rfl ⟨w.heap.size, 0, none⟩ rfl (fC A n c r nu B m d) _ (HSW.out w' hSw) Tryz.underlying35 rfl size_kf⟩) hS ?_
  simp only [List.getElem_toArray, List.getElem_cons_succ, List.getElem_cons_zero, Act.put, List.setIfInBounds_toArray, List.set_cons_zero, List.set_cons_succ]
  refine wpAnyH_ready (rs := [2]) (by kernel_rfl) (by simp) (AllReadyH.cons rfl (fun K hK => ?_) AllReadyH.nil)
  simp only [List.getElem_toArray, List.getElem_cons_succ, List.getElem_cons_zero, Act.put, List.setIfInBounds_toArray, List.set_cons_zero, List.set_cons_succ]
  go_simp
  refine (of_any11 A n c r nu B m d W9).mono ?_
  rintro e w10 ⟨rfl, hb10⟩
  replace b48 := b48.next hb10
  replace b08 := b08.next hb10
  replace f48 := f48.nx hb10
  replace f08 := f08.nx hb10
  replace hb8 := next hb8 hb10
  replace hS := HSI.out _ b08 b48
  refine hK.out _ _ hS (fun _ => ?_)
  clear hK K
  refine wpAnyH_ready (rs := [3]) (by kernel_rfl) (by simp) (AllReadyH.cons rfl (fun K hK => ?_) AllReadyH.nil)
  simp only [List.getElem_toArray, List.getElem_cons_succ, List.getElem_cons_zero, Act.put, List.setIfInBounds_toArray, List.set_cons_zero, List.set_cons_succ]
  go_simp
  refine (same_any11 S X r nu A2 n2 c2 B2 m2 d2 A n c B m d w10 f48 f08).mono ?_
  rintro e wz ⟨rfl, hbz⟩
  replace b48 := b48.next hbz
  replace b08 := b08.next hbz
  replace hbz := next hb8 hbz
  replace hS := HSI.out _ b08 b48
  refine hK.out _ _ hS (fun _ => ?_)
  clear hK K
  refine wpAnyH_take (i := 4) (v := (.bool false)) rfl (by kernel_rfl) (by kernel_rfl) (by kernel_rfl) (fun _ _ _ h => h) (Or.inl ⟨by rfl, fun _ hSw => by go_simp⟩) hS ?_
  simp only [List.getElem_toArray, List.getElem_cons_succ, List.getElem_cons_zero, Act.put, List.setIfInBounds_toArray, List.set_cons_zero, List.set_cons_succ]
  refine wpAnyH_take (i := 5) (v := (.bool false)) rfl (by kernel_rfl) (by kernel_rfl) (by kernel_rfl) (fun _ _ _ h => h) (Or.inl ⟨by rfl, fun _ hSw => by go_simp⟩) hS ?_
  simp only [List.getElem_toArray, List.getElem_cons_succ, List.getElem_cons_zero, Act.put, List.setIfInBounds_toArray, List.set_cons_zero, List.set_cons_succ]
  refine wpAnyH_take (i := 6) (v := (.int .i64 0)) rfl (by kernel_rfl) (by kernel_rfl) (by kernel_rfl) (fun _ _ _ h => h) (Or.inl ⟨by rfl, fun _ hSw => by go_simp⟩) hS ?_
  simp only [List.getElem_toArray, List.getElem_cons_succ, List.getElem_cons_zero, Act.put, List.setIfInBounds_toArray, List.set_cons_zero, List.set_cons_succ]
  refine wpAnyH_take (i := 7) (v := (.bool false)) rfl (by kernel_rfl) (by kernel_rfl) (by kernel_rfl) (fun _ _ _ h => h) (Or.inl ⟨by rfl, fun _ hSw => by go_simp⟩) hS ?_
  simp only [List.getElem_toArray, List.getElem_cons_succ, List.getElem_cons_zero, Act.put, List.setIfInBounds_toArray, List.set_cons_zero, List.set_cons_succ]
  refine wpAnyH_take (i := 8) (v := (.bool false)) rfl (by kernel_rfl) (by kernel_rfl) (by kernel_rfl) (fun _ _ _ h => h) (Or.inl ⟨by rfl, fun _ hSw => by go_simp⟩) hS ?_
  simp only [List.getElem_toArray, List.getElem_cons_succ, List.getElem_cons_zero, Act.put, List.setIfInBounds_toArray, List.set_cons_zero, List.set_cons_succ]
  refine wpAnyH_take (i := 9) (v := (.bool false)) rfl (by kernel_rfl) (by kernel_rfl) (by kernel_rfl) (fun _ _ _ h => h) (Or.inl ⟨by rfl, fun _ hSw => by go_simp⟩) hS ?_
  simp only [List.getElem_toArray, List.getElem_cons_succ, List.getElem_cons_zero, Act.put, List.setIfInBounds_toArray, List.set_cons_zero, List.set_cons_succ]
  refine wpAnyH_take (i := 10) (v := (.int .i64 K0)) rfl (by kernel_rfl) (by kernel_rfl) (by kernel_rfl) (fun _ _ _ h => h) (Or.inl ⟨by rfl, fun _ hSw => by go_simp⟩) hS ?_
  simp only [List.getElem_toArray, List.getElem_cons_succ, List.getElem_cons_zero, Act.put, List.setIfInBounds_toArray, List.set_cons_zero, List.set_cons_succ]
  refine wpAnyH_take (i := 11) (v := (.slice X1 K0 c1')) rfl (by kernel_rfl) (by kernel_rfl) (by kernel_rfl) (fun _ _ _ h => h) (Or.inl ⟨by rfl, fun _ hSw => by go_simp⟩) hS ?_
  simp only [List.getElem_toArray, List.getElem_cons_succ, List.getElem_cons_zero, Act.put, List.setIfInBounds_toArray, List.set_cons_zero, List.set_cons_succ]
  refine wpAnyH_take (i := 12) (v := (.int .i64 K0)) rfl (by kernel_rfl) (by kernel_rfl) (by kernel_rfl) (fun _ _ _ h => h) (Or.inl ⟨by rfl, fun _ hSw => by go_simp⟩) hS ?_
  simp only [List.getElem_toArray, List.getElem_cons_succ, List.getElem_cons_zero, Act.put, List.setIfInBounds_toArray, List.set_cons_zero, List.set_cons_succ]
  refine wpAnyH_take (i := 13) (v := (.bool false)) rfl (by kernel_rfl) (by kernel_rfl) (by kernel_rfl) (fun _ _ _ h => h) (Or.inl ⟨by rfl, fun _ hSw => by go_simp⟩) hS ?_
  simp only [List.getElem_toArray, List.getElem_cons_succ, List.getElem_cons_zero, Act.put, List.setIfInBounds_toArray, List.set_cons_zero, List.set_cons_succ]
  refine wpAnyH_take (i := 14) (v := (.bool false)) rfl (by kernel_rfl) (by kernel_rfl) (by kernel_rfl) (fun _ _ _ h => h) (Or.inl ⟨by rfl, fun _ hSw => by go_simp⟩) hS ?_
  simp only [List.getElem_toArray, List.getElem_cons_succ, List.getElem_cons_zero, Act.put, List.setIfInBounds_toArray, List.set_cons_zero, List.set_cons_succ]
  refine wpAnyH_take (i := 15) (v := (.bool false)) rfl (by kernel_rfl) (by kernel_rfl) (by kernel_rfl) (fun _ _ _ h => h) (Or.inl ⟨by rfl, fun _ hSw => by go_simp⟩) hS ?_
  simp only [List.getElem_toArray, List.getElem_cons_succ, List.getElem_cons_zero, Act.put, List.setIfInBounds_toArray, List.set_cons_zero, List.set_cons_succ]
  refine wpAnyH_take (i := 16) (v := (.int .i64 0)) rfl (by kernel_rfl) (by kernel_rfl) (by kernel_rfl) (fun _ _ _ h => h) (Or.inl ⟨by rfl, fun _ hSw => by go_simp⟩) hS ?_
  simp only [List.getElem_toArray, List.getElem_cons_succ, List.getElem_cons_zero, Act.put, List.setIfInBounds_toArray, List.set_cons_zero, List.set_cons_succ]
  refine wpAnyH_take (i := 17) (v := (.bool false)) rfl (by kernel_rfl) (by kernel_rfl) (by kernel_rfl) (fun _ _ _ h => h) (Or.inl ⟨by rfl, fun _ hSw => by go_simp⟩) hS ?_
  simp only [List.getElem_toArray, List.getElem_cons_succ, List.getElem_cons_zero, Act.put, List.setIfInBounds_toArray, List.set_cons_zero, List.set_cons_succ]
  refine wpAnyH_take (i := 18) (v := (.bool false)) rfl (by kernel_rfl) (by kernel_rfl) (by kernel_rfl) (fun _ _ _ h => h) (Or.inl ⟨by rfl, fun _ hSw => by go_simp⟩) hS ?_
  simp only [List.getElem_toArray, List.getElem_cons_succ, List.getElem_cons_zero, Act.put, List.setIfInBounds_toArray, List.set_cons_zero, List.set_cons_succ]
  refine wpAnyH_done (by kernel_rfl) ?_ _
  clear hS HSI HSW HSG b48 b08 f48 f08 hb8 HG1 HG2 HA1 HA2 HCB HC1 HFL HK0 HP0 hKpos hKne
  go_wp2_with fail
  refine (own_any l1 wz wz.heap.size A1 n1 c1 (y1.nx hbz).sl y1.none_ (by omega) (Nat.le_refl _)).mono ?_
  rintro e wa ⟨Xa, ca, rfl, xa⟩
  have ya := xa.bys
  have hba := next hbz xa.below
  clear xa
  have mkB : True := trivial
  by_cases hE1 : gtE l1 = 0
  · obtain ⟨hp1, hk1, hs1, hx1⟩ := read_put hE1
    obtain ⟨F, hF⟩ : ∃ F, F = gtF l1 := ⟨_, rfl⟩
    have hFv : F = ⟨gSalt l1, gR l1, gNu l1, gBox l1⟩ := by rw [hF]; unfold gtF; rw [if_pos hE1]
    have HP : Hid (putL F.S F.r F.nu F.X = l1) := by unfold Hid; rw [hFv]; exact hp1
    have hFS : F.S.length = 16 := by rw [hFv]; exact hs1
    have hFX : F.X.length ≤ l1.length := by rw [hFv]; show (gBox l1).length ≤ _; unfold gBox; rw [List.length_drop]; omega
    have HFF : Hid (gtF l1 = F) := hF.symm
    have HEE : Hid (gtE l1 = 0) := hE1
    clear hp1 hk1 hs1 hx1 hF hFv hE1
    go_wp2_with
      (first
      | (have := mkB; go_at_call 26; refine (get_any l1 wa Xa n1 ca ya.sl ya.cap ya.none_ (by omega)).mono ?_; rw [HEE.out, HFF.out]; rintro e wb ⟨A4, n4, c4, B4, m4, d4, rfl, f4, hbb⟩; obtain ⟨b5, hb5, hz5⟩ := put_new wb nilF (fC A4 n4 c4 F.r F.nu B4 m4 d4) 35 rfl; obtain ⟨W5, hW5⟩ : ∃ W, W = (wb.alloc (.cells nilF.toArray 35)).setCells wb.heap.size 0 (fC A4 n4 c4 F.r F.nu B4 m4 d4) := ⟨_, rfl⟩; rw [← hW5] at b5 hb5 hz5; have HW5 := Lib.hid hW5; have f5 := f4.nx hb5; have hbc := next (next hba hbb) hb5; have wh5 := b5.whole; clear hW5 mkB; have mkC : True := trivial)
      | (have := mkC; refine wpList_alloc_zero rfl 35 rfl nilF zero_kf ?_)
      | (have := mkC; refine wpList_store_mid rfl 35 _ _ rfl _ _ (fC A4 n4 c4 F.r F.nu B4 m4 d4).toArray rfl rfl (Bl.there_ (Bl.new wb nilF 35) (by simp [nilF, fC])) size_kf (all_oneCell_toArray (fC_one _ _ _ _ _ _ _ _)) ?_; change wpList _ _ _ _ _ (World.setCells (wb.alloc (.cells nilF.toArray 35)) wb.heap.size 0 (fC A4 n4 c4 F.r F.nu B4 m4 d4)); rw [← HW5.out]; clear mkC; have mkD : True := trivial)
      | fail)
    have hn4 : n4 ≤ 140737488351232 := by have := f5.salt.len; omega
    have hm4 : m4 ≤ 140737488351232 := by have := f5.box.len; omega
    clear hFS hFX
    obtain ⟨SS, hSd⟩ : ∃ SS : World → Prop, SS = fun w' => Bl w' wb.heap.size (fC A4 n4 c4 F.r F.nu B4 m4 d4) 35 ∧ (convert 22 9 (.slice A1 n1 c1)).run Tryz.prog w' = .ok (.string ⟨l1.toArray⟩) w' := ⟨_, rfl⟩
    have HSI : Hid (∀ w', Bl w' wb.heap.size (fC A4 n4 c4 F.r F.nu B4 m4 d4) 35 → Below w.heap.size w w' → SS w') := by unfold Hid; intro w' hb hb'; rw [hSd]; exact ⟨hb, u8_str (y1.nx hb').sl c1⟩
    have HSW : Hid (∀ w', SS w' → ∀ j v, (fC A4 n4 c4 F.r F.nu B4 m4 d4)[j]? = some v → w'.cell? ((⟨wb.heap.size, 0, none⟩ : Addr).add j) = some v) := by unfold Hid; intro w' h j v hv; rw [hSd] at h; rw [Addr.add_mid]; exact h.1.whole j v hv
    have HSC : Hid (∀ w', SS w' → (convert 22 9 (.slice A1 n1 c1)).run Tryz.prog w' = .ok (.string ⟨l1.toArray⟩) w') := by unfold Hid; intro w' h; rw [hSd] at h; exact h.2
    clear hSd wh5 mkD
    obtain ⟨W6, hW6⟩ : ∃ W', W' = W5.drew := ⟨_, rfl⟩
    have hbd : Below W5.heap.size W5 W6 := by rw [hW6]; exact (Below.refl _ W5).drew
    replace b5 := b5.next hbd
    replace hbc := next hbc hbd
    replace f5 := f5.nx hbd
    have hS := HSI.out _ b5 hbc
    refine wp_region_held_drew (S := SS) (by kernel_rfl) (by rw [← hW6]; exact hS) (fun _ => ?_)
    rw [← hW6]
    clear hW6 hbd
    refine wpAnyH_take (i := 0) (v := .agg (fC A4 n4 c4 F.r F.nu B4 m4 d4).toArray) rfl (by kernel_rfl) (by kernel_rfl) (by kernel_rfl) (fun _ _ _ h => h) (Or.inl ⟨by rfl, fun w' hSw => exec_load_at w' 35 _ rfl ⟨wb.heap.size, 0, none⟩ rfl (fC A4 n4 c4 F.r F.nu B4 m4 d4) _ (HSW.out w' hSw) Tryz.underlying35 rfl size_kf⟩) hS ?_
    simp only [List.getElem_toArray, List.getElem_cons_succ, List.getElem_cons_zero, Act.put, List.setIfInBounds_toArray, List.set_cons_zero, List.set_cons_succ]
    refine wpAnyH_take (i := 3) (v := (.slice A1 n1 c1)) rfl (by kernel_rfl) (by kernel_rfl) (by kernel_rfl) (fun _ _ _ h => h) (Or.inl ⟨by rfl, fun _ hSw => by go_simp⟩) hS ?_
    simp only [List.getElem_toArray, List.getElem_cons_succ, List.getElem_cons_zero, Act.put, List.setIfInBounds_toArray, List.set_cons_zero, List.set_cons_succ]
    refine wpAnyH_take (i := 4) (v := .string ⟨l1.toArray⟩) rfl (by kernel_rfl) (by kernel_rfl) (by kernel_rfl) (fun _ _ _ h => h) (Or.inl ⟨by rfl, fun w' hw' => exec_convert w' _ _ _ rfl _ _ rfl (HSC.out w' hw')⟩) hS ?_
    simp only [List.getElem_toArray, List.getElem_cons_succ, List.getElem_cons_zero, Act.put, List.setIfInBounds_toArray, List.set_cons_zero, List.set_cons_succ]
    refine wpAnyH_ready (rs := [1]) (by kernel_rfl) (by simp) (AllReadyH.cons rfl (fun K hK => ?_) AllReadyH.nil)
    simp only [List.getElem_toArray, List.getElem_cons_succ, List.getElem_cons_zero, Act.put, List.setIfInBounds_toArray, List.set_cons_zero, List.set_cons_succ]
    go_simp
    refine (put_any11 F.S F.X A4 n4 c4 F.r F.nu B4 m4 d4 W6 f5 hn4 hm4).mono ?_
    rw [HP.out]
    rintro e w7 ⟨X7, c7, rfl, x7⟩
    replace b5 := b5.next x7.below
    replace hbc := next hbc x7.below
    have y7 := x7.bys
    replace hS := HSI.out _ b5 hbc
    refine hK.out _ _ hS (fun _ => ?_)
    clear hK K x7
    obtain ⟨S2, hS2d⟩ : ∃ S2 : World → Prop, S2 = fun w' => SS w' ∧ (convert 22 9 (.slice X7 l1.length c7)).run Tryz.prog w' = .ok (.string ⟨l1.toArray⟩) w' := ⟨_, rfl⟩
    have HS2a : Hid (∀ w', S2 w' → SS w') := by unfold Hid; intro w' h; rw [hS2d] at h; exact h.1
    have HS2b : Hid (∀ w', S2 w' → (convert 22 9 (.slice X7 l1.length c7)).run Tryz.prog w' = .ok (.string ⟨l1.toArray⟩) w') := by unfold Hid; intro w' h; rw [hS2d] at h; exact h.2
    have HS2I : Hid (∀ w', Below w7.heap.size w7 w' → S2 w') := by unfold Hid; intro w' hb; rw [hS2d]; exact ⟨HSI.out _ (b5.next hb) (next hbc hb), u8_str (y7.nx hb).sl c7⟩
    clear hS2d hS
    have hS : S2 w7 := HS2I.out _ (Below.refl _ _)
    refine wpAnyH_mono (S' := S2) (fun w' h => HS2a.out w' h) _ _ _ _ ?_
    refine wpAnyH_take (i := 2) (v := .string ⟨l1.toArray⟩) rfl (by kernel_rfl) (by kernel_rfl) (by kernel_rfl) (fun _ _ _ h => h) (Or.inl ⟨by rfl, fun w' hw' => exec_convert w' _ _ _ rfl _ _ rfl (HS2b.out w' hw')⟩) hS ?_
    simp only [List.getElem_toArray, List.getElem_cons_succ, List.getElem_cons_zero, Act.put, List.setIfInBounds_toArray, List.set_cons_zero, List.set_cons_succ]
    refine wpAnyH_take (i := 5) (v := (.bool true)) rfl (by kernel_rfl) (by kernel_rfl) (by kernel_rfl) (fun _ _ _ h => h) (Or.inl ⟨by rfl, fun _ hSw => by go_simp⟩) hS ?_
    simp only [List.getElem_toArray, List.getElem_cons_succ, List.getElem_cons_zero, Act.put, List.setIfInBounds_toArray, List.set_cons_zero, List.set_cons_succ]
    refine wpAnyH_take (i := 6) (v := (.bool true)) rfl (by kernel_rfl) (by kernel_rfl) (by kernel_rfl) (fun _ _ _ h => h) (Or.inl ⟨by rfl, fun _ hSw => by go_simp⟩) hS ?_
    simp only [List.getElem_toArray, List.getElem_cons_succ, List.getElem_cons_zero, Act.put, List.setIfInBounds_toArray, List.set_cons_zero, List.set_cons_succ]
    refine wpAnyH_ready (rs := [7]) (by kernel_rfl) (by simp) (AllReadyH.cons rfl (fun K hK => ?_) AllReadyH.nil)
    simp only [List.getElem_toArray, List.getElem_cons_succ, List.getElem_cons_zero, Act.put, List.setIfInBounds_toArray, List.set_cons_zero, List.set_cons_succ]
    go_simp
    refine (awake11_any w7 (HT.out.next hbc)).mono ?_
    rintro e w8 ⟨rfl, hb8⟩
    replace hS := HS2I.out _ hb8
    refine hK.out _ _ hS (fun _ => ?_)
    clear hK K
    replace hbc := next hbc hb8
    refine wpAnyH_take (i := 8) (v := (.bool true)) rfl (by kernel_rfl) (by kernel_rfl) (by kernel_rfl) (fun _ _ _ h => h) (Or.inl ⟨by rfl, fun _ hSw => by go_simp⟩) hS ?_
    simp only [List.getElem_toArray, List.getElem_cons_succ, List.getElem_cons_zero, Act.put, List.setIfInBounds_toArray, List.set_cons_zero, List.set_cons_succ]
    refine wpAnyH_take (i := 9) (v := (.bool true)) rfl (by kernel_rfl) (by kernel_rfl) (by kernel_rfl) (fun _ _ _ h => h) (Or.inl ⟨by rfl, fun _ hSw => by go_simp⟩) hS ?_
    simp only [List.getElem_toArray, List.getElem_cons_succ, List.getElem_cons_zero, Act.put, List.setIfInBounds_toArray, List.set_cons_zero, List.set_cons_succ]
    refine wpAnyH_done (by kernel_rfl) ?_ _
    go_wp2
    go_ret
    exact ⟨rfl, hbc⟩
  · obtain ⟨F, hF⟩ : ∃ F, F = gtF l1 := ⟨_, rfl⟩
    have hFv : F = nilV := by rw [hF]; unfold gtF; rw [if_neg hE1]
    have HFF : Hid (gtF l1 = F) := hF.symm
    obtain ⟨E, hE⟩ : ∃ E, E = gtE l1 := ⟨_, rfl⟩
    have HEE : Hid (gtE l1 = E) := hE.symm
    have hE0 : ¬ E = 0 := by rw [hE]; exact hE1
    have hE0b : (E != 0) = true := by simp [bne, hE0]
    have hE0c : (E == 0) = false := by simp [hE0]
    clear hF hE hE1
    subst hFv
    have HFN : Hid (∀ W, Fil W none 0 0 nilV.S none 0 0 nilV.X) := fun W => fil_nil W
    go_wp2_with
      (first
      | (have := mkB; go_at_call 26; refine (get_any l1 wa Xa n1 ca ya.sl ya.cap ya.none_ (by omega)).mono ?_; rw [HEE.out, HFF.out]; rintro e wb ⟨A4, n4, c4, B4, m4, d4, rfl, f4, hbb⟩; obtain ⟨b5, hb5, hz5⟩ := put_new wb nilF (fC A4 n4 c4 nilV.r nilV.nu B4 m4 d4) 35 rfl; obtain ⟨W5, hW5⟩ : ∃ W, W = (wb.alloc (.cells nilF.toArray 35)).setCells wb.heap.size 0 (fC A4 n4 c4 nilV.r nilV.nu B4 m4 d4) := ⟨_, rfl⟩; rw [← hW5] at b5 hb5 hz5; have HW5 := Lib.hid hW5; have f5 := f4.nx hb5; have hbc := next (next hba hbb) hb5; have wh5 := b5.whole; clear hW5 mkB; have mkC : True := trivial)
      | (have := mkC; refine wpList_alloc_zero rfl 35 rfl nilF zero_kf ?_)
      | (have := mkC; refine wpList_store_mid rfl 35 _ _ rfl _ _ (fC A4 n4 c4 nilV.r nilV.nu B4 m4 d4).toArray rfl rfl (Bl.there_ (Bl.new wb nilF 35) (by simp [nilF, fC])) size_kf (all_oneCell_toArray (fC_one _ _ _ _ _ _ _ _)) ?_; change wpList _ _ _ _ _ (World.setCells (wb.alloc (.cells nilF.toArray 35)) wb.heap.size 0 (fC A4 n4 c4 nilV.r nilV.nu B4 m4 d4)); rw [← HW5.out]; clear mkC; have mkD : True := trivial)
      | (have := mkD; refine wpList_load_want (by rfl) 35 _ rfl _ _ rfl (fC A4 n4 c4 nilV.r nilV.nu B4 m4 d4) _ wh5 Tryz.underlying35 rfl size_kf ?_)
      | (have := mkD; refine wpList_build_to rfl 39 _ rfl nilF built_rf0 ?_)
      | (have := mkD; go_at_call 15; refine (same_any11 nilV.S nilV.X nilV.r nilV.nu A4 n4 c4 B4 m4 d4 none 0 0 none 0 0 W5 f5 (HFN.out W5)).mono ?_; rintro e w8 ⟨rfl, hb8⟩; replace hbc := next hbc hb8)
      | (have := mkD; go_at_call 10; refine (awake11_any w8 (HT.out.next hbc)).mono ?_; rintro e w9 ⟨rfl, hb9⟩)
      | fail)
    go_ret
    exact ⟨rfl, next hbc hb9⟩

set_option maxHeartbeats 4000000 in
theorem keyfileForm_walk (v : Value) (A1 : Option Addr) (n1 c1 : Nat) (l1 : List UInt8) (w : World) (hT : Tabs3 w) (s0 : FileArg w v) (s1 : InBytes w A1 n1 c1 l1) :
    Calls Tryz.prog 8 #[v, .slice A1 n1 c1] w fun e w' => e = .returned (.bool true) ∧ Below w.heap.size w w' := by
  obtain ⟨A, n, c, S, r, nu, B, m, d, X, rfl, iS, iX, _, _⟩ := s0
  cases hk : kfit S.length r nu X.length with
  | false => exact kform_no A n c S r nu B m d X A1 n1 c1 l1 w hT iS iX s1 hk
  | true => exact kform_yes A n c S r nu B m d X A1 n1 c1 l1 w hT iS iX s1 hk

end Go.Proofs.YtlnoopmblmkgkaaGreatDoor
