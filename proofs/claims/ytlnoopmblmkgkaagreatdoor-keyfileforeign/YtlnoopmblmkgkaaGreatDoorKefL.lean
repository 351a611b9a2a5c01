/- Layer 11, keyfile, the document's: Put, Size, Get. -/
import Derived.Test.YtlnoopmblmkgkaaGreatDoorKefK
import Derived.Test.YtlnoopmblmkgkaaGreatDoorKB
namespace Go.Proofs.YtlnoopmblmkgkaaGreatDoor
set_option maxRecDepth 100000
open Go Go.RowKit
set_option linter.unusedVariables false
set_option linter.unusedSimpArgs false

set_option maxHeartbeats 1000000 in
theorem rput_any11 (S X : List UInt8) (A : Option Addr) (n c : Nat) (r nu : Int) (B : Option Addr) (m d : Nat) (w : World) (hf : Fil w A n c S B m d X) (hn : n ≤ 140737488351232) (hm : m ≤ 140737488351232) :
    Calls Tryz.prog 23 #[.agg (fC A n c r nu B m d).toArray] w (RetBytes 5 w (putL S r nu X).length (putL S r nu X)) := by
  obtain ⟨i0, hi, hz0, hz1, hz2⟩ := info_parts u8_info
  obtain ⟨W, HW, b0, hb0, hsz⟩ := put_f w (fC A n c r nu B m d) 39
  have hcl := named_any A n c r nu B m d m W (by omega)
  have e1 := hf.salt.len
  have e2 := hf.box.len
  have hP : putL S r nu X = if kfit n r nu m = true then headL S r.toNat nu.toNat m ++ X else [] := by unfold putL; rw [← e1, ← e2]
  cases hk : kfit n r nu m with
  | false =>
    rw [hk, if_neg (by decide)] at hP
    rw [hP]
    rw [hk] at hcl
    have HC := Lib.hid hcl
    have wh := b0.whole
    have q3 := (f_cells b0).2.2.2
    clear hcl hk hP hsz e1 e2
    go_enter Tryz.func23, Tryz.ntmps23
    go_wp2_with (first
      | (refine wpList_box_agg rfl 39 _ rfl (fC A n c r nu B m d) rfl ?_; rw [HW.out])
      | (refine wpList_load_mid rfl 39 _ rfl _ _ rfl (fC A n c r nu B m d) _ wh Tryz.underlying39 rfl size_rf ?_)
      | (go_at_call 21; refine HC.out.mono ?_; rintro e w1 ⟨rfl, hb1⟩)
      | fail)
    go_ret
    exact retBytes rfl rfl (World.ownsRow_nil _ _ _ _) (next hb0 hb1)
  | true =>
    rw [hk, if_pos rfl] at hP
    rw [hk] at hcl
    have HC := Lib.hid hcl
    obtain ⟨⟨k1, k2, k3⟩, k4, k5, k6, k7, k8⟩ := (kfit_iff _ _ _ _).1 hk
    obtain ⟨rn, rfl⟩ : ∃ x : Nat, r = x := ⟨r.toNat, by omega⟩
    obtain ⟨nn, rfl⟩ : ∃ x : Nat, nu = x := ⟨nu.toNat, by omega⟩
    subst k4
    rw [Int.toNat_natCast, Int.toNat_natCast] at hP
    rw [hP]
    obtain ⟨Hd, hHd⟩ : ∃ h, h = headL S rn nn m := ⟨_, rfl⟩
    have hHl : Hd.length = 33 := by rw [hHd]; exact headL_len e1.symm _ _ _
    rw [← hHd]
    have HL : Hid ((Hd ++ X).length = 33 + m) := by unfold Hid; rw [List.length_append, hHl, e2]
    have HHD : Hid (headL S rn nn m = Hd) := hHd.symm
    have wh := b0.whole
    have q3 := (f_cells b0).2.2.2
    obtain ⟨SS, hSd⟩ : ∃ SS : World → Prop, SS = fun w' => Bl w' w.heap.size (fC A 16 c rn nn B m d) 39 := ⟨_, rfl⟩
    have HSI : Hid (∀ w', Bl w' w.heap.size (fC A 16 c rn nn B m d) 39 → SS w') := by unfold Hid; intro w' hb; rw [hSd]; exact hb
    have HSW : Hid (∀ w', SS w' → ∀ j v, (fC A 16 c rn nn B m d)[j]? = some v → w'.cell? ((⟨w.heap.size, 0, none⟩ : Addr).add j) = some v) := by unfold Hid; intro w' h j v hv; rw [hSd] at h; rw [Addr.add_mid]; exact h.whole j v hv
    have HS3 : Hid (∀ w', SS w' → w'.cell? ⟨w.heap.size, 3, none⟩ = some (.slice B m d)) := by unfold Hid; intro w' h; rw [hSd] at h; exact (f_cells h).2.2.2
    clear hcl hk hP hsz e1 e2 hHd hHl hSd
    go_enter Tryz.func23, Tryz.ntmps23
    go_wp2_with (first
      | (refine wpList_box_agg rfl 39 _ rfl (fC A 16 c rn nn B m d) rfl ?_; rw [HW.out])
      | (refine wpList_load_mid rfl 39 _ rfl _ _ rfl (fC A 16 c rn nn B m d) _ wh Tryz.underlying39 rfl size_rf ?_)
      | (go_at_call 21; refine HC.out.mono ?_; rintro e w1 ⟨rfl, hb1⟩)
      | fail)
    clear wh HC q3
    replace b0 := b0.next hb1
    replace hb0 := next hb0 hb1
    obtain ⟨W2, hW2⟩ : ∃ W', W' = w1.drew := ⟨_, rfl⟩
    have hbd : Below w1.heap.size w1 W2 := by rw [hW2]; exact (Below.refl _ w1).drew
    replace b0 := b0.next hbd
    replace hb0 := next hb0 hbd
    have hS := HSI.out _ b0
    refine wp_region_held_drew (S := SS) (by kernel_rfl) (by rw [← hW2]; exact hS) (fun _ => ?_)
    rw [← hW2]
    clear hW2 hbd hb1
    refine wpAnyH_take (i := 0) (v := .agg (fC A 16 c rn nn B m d).toArray) rfl (by kernel_rfl) (by kernel_rfl) (by kernel_rfl) (fun _ _ _ h => h) (Or.inl ⟨by rfl, fun w' hSw => exec_load_at w' 39 _ rfl ⟨w.heap.size, 0, none⟩ rfl (fC A 16 c rn nn B m d) _ (HSW.out w' hSw) Tryz.underlying39 rfl size_rf⟩) hS ?_
    simp only [List.getElem_toArray, List.getElem_cons_succ, List.getElem_cons_zero, Act.put, List.setIfInBounds_toArray, List.set_cons_zero, List.set_cons_succ]
    refine wpAnyH_take (i := 1) (v := (.pointer (some ⟨w.heap.size, 3, none⟩))) rfl (by kernel_rfl) (by kernel_rfl) (by kernel_rfl) (fun _ _ _ h => h) (Or.inl ⟨by rfl, fun _ hSw => by go_simp⟩) hS ?_
    simp only [List.getElem_toArray, List.getElem_cons_succ, List.getElem_cons_zero, Act.put, List.setIfInBounds_toArray, List.set_cons_zero, List.set_cons_succ]
    refine wpAnyH_take (i := 2) (v := .slice B m d) rfl (by kernel_rfl) (by kernel_rfl) (by kernel_rfl) (fun _ _ _ h => h) (Or.inl ⟨by rfl, fun w' hSw => by have hq := HS3.out w' hSw; go_simp⟩) hS ?_
    simp only [List.getElem_toArray, List.getElem_cons_succ, List.getElem_cons_zero, Act.put, List.setIfInBounds_toArray, List.set_cons_zero, List.set_cons_succ]
    refine wpAnyH_take (i := 3) (v := (.int .i64 (m : Int))) rfl (by kernel_rfl) (by kernel_rfl) (by kernel_rfl) (fun _ _ _ h => h) (Or.inl ⟨by rfl, fun _ hSw => by go_simp⟩) hS ?_
    simp only [List.getElem_toArray, List.getElem_cons_succ, List.getElem_cons_zero, Act.put, List.setIfInBounds_toArray, List.set_cons_zero, List.set_cons_succ]
    refine wpAnyH_take (i := 5) (v := (.pointer (some ⟨w.heap.size, 3, none⟩))) rfl (by kernel_rfl) (by kernel_rfl) (by kernel_rfl) (fun _ _ _ h => h) (Or.inl ⟨by rfl, fun _ hSw => by go_simp⟩) hS ?_
    simp only [List.getElem_toArray, List.getElem_cons_succ, List.getElem_cons_zero, Act.put, List.setIfInBounds_toArray, List.set_cons_zero, List.set_cons_succ]
    refine wpAnyH_take (i := 6) (v := .slice B m d) rfl (by kernel_rfl) (by kernel_rfl) (by kernel_rfl) (fun _ _ _ h => h) (Or.inl ⟨by rfl, fun w' hSw => by have hq := HS3.out w' hSw; go_simp⟩) hS ?_
    simp only [List.getElem_toArray, List.getElem_cons_succ, List.getElem_cons_zero, Act.put, List.setIfInBounds_toArray, List.set_cons_zero, List.set_cons_succ]
    refine wpAnyH_ready (rs := [4]) (by kernel_rfl) (by simp) (AllReadyH.cons rfl (fun K hK => ?_) AllReadyH.nil)
    simp only [List.getElem_toArray, List.getElem_cons_succ, List.getElem_cons_zero, Act.put, List.setIfInBounds_toArray, List.set_cons_zero, List.set_cons_succ]
    go_simp
    refine (head_any11 S A c rn nn B m d m W2 (hf.salt.nx hb0) (by omega) (by omega) (by omega)).mono ?_
    rintro e w3 ⟨X3, d3, rfl, x3⟩
    rw [HHD.out] at x3
    have hlt := b0.lt
    have own3 := x3.own
    have hz3 := x3.below.size
    replace b0 := b0.next x3.below
    replace hb0 := next hb0 x3.below
    replace hS := HSI.out _ b0
    refine hK.out _ _ hS (fun _ => ?_)
    clear hK K x3
    refine wpAnyH_ready (rs := [7]) (by kernel_rfl) (by simp) (AllReadyH.cons rfl (fun K hK => ?_) AllReadyH.nil)
    simp only [List.getElem_toArray, List.getElem_cons_succ, List.getElem_cons_zero, Act.put, List.setIfInBounds_toArray, List.set_cons_zero, List.set_cons_succ]
    rw [if_pos (by rfl)]
    refine wp_appendS _ _ 22 rfl W2.heap.size 5 i0 (.int .u8 0) 1 Tryz.underlying22 hi hz0 hz1 hz2 rfl (.slice X3 33 d3) 33 (cb Hd) rfl own3 w3.heap.size B m d (cb X) rfl (hf.box.nx hb0).sl hf.box.none_ (cb_one _) (by unfold maxLen; omega) (by omega) hz3 ?_
    intro v4 w4 own4 hg4 hat4
    have hb4 := hb0.grown hg4 hb0.size (fun j hj => by have := own_blk own3 hj; omega)
    obtain ⟨X4, d4, rfl⟩ := own_form own4
    rw [← cb_append] at own4
    have HO := Lib.hid (own_down own4 (Nat.le_of_lt hlt))
    replace hS : SS w4 := HSI.out _ (b0.grown hg4 (fun e => by have := own_blk own3 e; omega))
    refine hK.out _ _ hS (fun _ => ?_)
    clear hK K own3 own4 hg4 hat4
    refine wpAnyH_take (i := 8) (v := (.slice X4 (33 + m) d4)) rfl (by kernel_rfl) (by kernel_rfl) (by kernel_rfl) (fun _ _ _ h => h) (Or.inl ⟨by rfl, fun _ hSw => by go_simp⟩) hS ?_
    simp only [List.getElem_toArray, List.getElem_cons_succ, List.getElem_cons_zero, Act.put, List.setIfInBounds_toArray, List.set_cons_zero, List.set_cons_succ]
    refine wpAnyH_done (by kernel_rfl) ?_ _
    go_wp2
    go_ret
    exact retBytes HL.out.symm rfl HO.out hb4

end Go.Proofs.YtlnoopmblmkgkaaGreatDoor
