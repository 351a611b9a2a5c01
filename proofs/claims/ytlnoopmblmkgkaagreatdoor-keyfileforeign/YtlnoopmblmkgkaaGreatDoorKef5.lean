/- The walk of the law KeyfileForeign. -/
import Derived.Test.YtlnoopmblmkgkaaGreatDoorKefV
import Derived.Test.YtlnoopmblmkgkaaGreatDoorKefW
import Derived.Test.YtlnoopmblmkgkaaGreatDoorKefZ
import Derived.Test.YtlnoopmblmkgkaaGreatDoorKefU
import Derived.Test.YtlnoopmblmkgkaaGreatDoorKefJ
import Derived.Test.YtlnoopmblmkgkaaGreatDoorKefK
import Derived.Test.YtlnoopmblmkgkaaGreatDoorKefL
import Derived.Test.YtlnoopmblmkgkaaGreatDoorKB
import Derived.Test.YtlnoopmblmkgkaaGreatDoorKefO
import Derived.OrdersHeld
namespace Go.Proofs.YtlnoopmblmkgkaaGreatDoor
set_option maxRecDepth 100000
open Go Go.RowKit
set_option linter.unusedVariables false
set_option linter.unusedSimpArgs false

theorem opM_len {pass S X : List UInt8} {r nu : Int} (h : opE pass S r nu X = 0) : 33 * (opM pass S r nu X).length ≤ X.length := by
  unfold opE at h
  split at h
  · split at h
    · rename_i hb
      have hl := opT_len hb
      revert h
      unfold opM
      generalize opT pass S r nu X = T at *
      rcases hq : ringOf T (T.length / 33) with _ | s
      · intro h; simp at h
      · intro _
        have h2 := (ringOf_rising (by omega) hq).2
        simp only [Option.getD_some]
        omega
    · simp at h
  · simp at h

set_option maxHeartbeats 8000000 in
theorem keyfileForeign_walk (v : Value) (A1 : Option Addr) (n1 c1 : Nat) (l1 : List UInt8) (w : World) (hT : Tabs3 w) (s0 : FileArg w v) (s1 : InBytes w A1 n1 c1 l1) :
    Calls Tryz.prog 5 #[v, .slice A1 n1 c1] w fun e w' => e = .returned (.bool true) ∧ Below w.heap.size w w' := by
  obtain ⟨A, n, c, S, r, nu, B, m, d, X, rfl, iS, iX, hr, hnu⟩ := s0
  have y1 := s1.bys
  have hn : n ≤ 140737488351232 := Nat.le_trans iS.cap iS.room
  have hm : m ≤ 140737488351232 := Nat.le_trans iX.cap iX.room
  have hn1 : n1 ≤ 140737488351232 := Nat.le_trans s1.cap s1.room
  have f0 : Fil w A n c S B m d X := ⟨iS.bys, iX.bys⟩
  have EX : Hid (m = X.length) := iX.bys.len
  obtain ⟨W0, HW0, b0, hb0, hsz0⟩ := put_f w (fC A n c r nu B m d) 35
  have wh0 := b0.whole
  have cr : W0.cell? ⟨w.heap.size, 1, none⟩ = some (.int .i64 r) := b0.cell 1
  have cb3 : W0.cell? ⟨w.heap.size, 3, none⟩ = some (.slice B m d) := b0.cell 3
  have ff := f0.nx hb0
  have y := y1.nx hb0
  have HT := Lib.hid hT
  clear hsz0 s1 iS iX hT hr hnu f0 y1
  by_cases hbig : (32 < r ∧ r ≤ 4096) ∨ 3000 < m ∨ 400 < n1
  · rcases (show (32 < r ∧ r ≤ 4096) ∨ (¬ (32 < r ∧ r ≤ 4096) ∧ 3000 < m) ∨ (¬ (32 < r ∧ r ≤ 4096) ∧ ¬ 3000 < m ∧ 400 < n1) by omega) with ⟨h1, h2⟩ | ⟨h1, h2⟩ | ⟨h1, h2, h3⟩
    all_goals first
      | (have q1 : (decide (32 < r) && decide (r ≤ 4096)) = true := by simp; omega)
      | (have q1 : (decide (32 < r) && decide (r ≤ 4096)) = false := by simp; omega)
    all_goals
      clear hbig
      go_enter Tryz.func5, Tryz.ntmps5
      go_wp2_with (first
        | (refine wpList_box_agg rfl 35 _ rfl (fC A n c r nu B m d) rfl ?_; rw [HW0.out])
        | (go_at_call 10; refine (awake11_any W0 (HT.out.next hb0)).mono ?_; rintro e w2 ⟨rfl, hb2⟩)
        | fail)
    all_goals go_ret
    all_goals exact ⟨rfl, next hb0 hb2⟩
  · have hm3 : m ≤ 3000 := by omega
    have hn3 : n1 ≤ 400 := by omega
    have hr3 : r ≤ 32 ∨ 4096 < r := by omega
    clear hbig
    obtain ⟨E, hE⟩ : ∃ E, E = opE l1 S r nu X := ⟨_, rfl⟩
    obtain ⟨M, hM⟩ : ∃ M, M = opM l1 S r nu X := ⟨_, rfl⟩
    obtain ⟨P, hP⟩ : ∃ P, P = putL S r nu X := ⟨_, rfl⟩
    obtain ⟨kk, hkk⟩ : ∃ k, k = kfit n r nu m := ⟨_, rfl⟩
    have HE : Hid (opE l1 S r nu X = E) := hE.symm
    have HM : Hid (opM l1 S r nu X = M) := hM.symm
    have HP : Hid (putL S r nu X = P) := hP.symm
    have HKK : Hid (kfit n r nu m = kk) := hkk.symm
    have HML : Hid (E = 0 → M.length ≤ 1000) := by unfold Hid; intro h; rw [hM]; have := opM_len (hE.symm.trans h); have := EX.out; omega
    clear hE hM hP hkk
    rcases hr3 with hr3 | hr3
    all_goals
      go_enter Tryz.func5, Tryz.ntmps5
      go_wp2_with (first
        | (refine wpList_box_agg rfl 35 _ rfl (fC A n c r nu B m d) rfl ?_; rw [HW0.out])
        | fail)

      obtain ⟨SF, hSF⟩ : ∃ SF : World → Prop, SF = fun w' => Bl w' w.heap.size (fC A n c r nu B m d) 35 := ⟨_, rfl⟩
      have HSI : Hid (∀ w', Bl w' w.heap.size (fC A n c r nu B m d) 35 → SF w') := by unfold Hid; intro w' h; rw [hSF]; exact h
      have HSW : Hid (∀ w', SF w' → ∀ j v, (fC A n c r nu B m d)[j]? = some v → w'.cell? ((⟨w.heap.size, 0, none⟩ : Addr).add j) = some v) := by unfold Hid; intro w' h j v hv; rw [hSF] at h; rw [Addr.add_mid]; exact h.whole j v hv
      have HS3 : Hid (∀ w', SF w' → w'.cell? ⟨w.heap.size, 3, none⟩ = some (.slice B m d)) := by unfold Hid; intro w' h; rw [hSF] at h; exact h.cell 3
      clear hSF wh0 cr cb3
      obtain ⟨w1, hw1⟩ : ∃ W', W' = W0.drew := ⟨_, rfl⟩
      have hbn : Below W0.heap.size W0 w1 := by rw [hw1]; exact (Below.refl _ W0).drew
      have bf := b0.next hbn
      replace ff := ff.nx hbn
      replace y := y.nx hbn
      have hb := next hb0 hbn
      clear hbn b0 hb0
      have hS := HSI.out _ bf
      refine wp_region_held_drew (S := SF) (by kernel_rfl) (by rw [← hw1]; exact hS) (fun _ => ?_)
      rw [← hw1]
      clear hw1
      refine wpAnyH_take (i := 0) (v := .agg (fC A n c r nu B m d).toArray) rfl (by kernel_rfl) (by kernel_rfl) (by kernel_rfl) (fun _ _ _ h => h) (Or.inl ⟨by rfl, fun w' hSw => exec_load_at w' 35 _ rfl ⟨w.heap.size, 0, none⟩ rfl (fC A n c r nu B m d) _ (HSW.out w' hSw) Tryz.underlying35 rfl size_kf⟩) hS ?_
      simp only [List.getElem_toArray, List.getElem_cons_succ, List.getElem_cons_zero, Act.put, List.setIfInBounds_toArray, List.set_cons_zero, List.set_cons_succ]
      refine wpAnyH_take (i := 1) (v := (.slice A1 n1 c1)) rfl (by kernel_rfl) (by kernel_rfl) (by kernel_rfl) (fun _ _ _ h => h) (Or.inl ⟨by rfl, fun _ hSw => by go_simp⟩) hS ?_
      simp only [List.getElem_toArray, List.getElem_cons_succ, List.getElem_cons_zero, Act.put, List.setIfInBounds_toArray, List.set_cons_zero, List.set_cons_succ]
      refine wpAnyH_ready (rs := [2]) (by kernel_rfl) (by simp) (AllReadyH.cons rfl (fun K hK => ?_) AllReadyH.nil)
      simp only [List.getElem_toArray, List.getElem_cons_succ, List.getElem_cons_zero, Act.put, List.setIfInBounds_toArray, List.set_cons_zero, List.set_cons_succ]
      go_simp
      refine (own_any l1 w1 w1.heap.size A1 n1 c1 y.sl y.none_ (by omega) (Nat.le_refl _)).mono ?_
      rintro e w2 ⟨X2, d2, rfl, x2⟩
      have hbn := x2.below
      have y2 := x2.bys
      clear x2
      replace bf := bf.next hbn
      replace ff := ff.nx hbn
      replace y := y.nx hbn
      replace hb := next hb hbn
      clear hbn
      replace hS := HSI.out _ bf
      refine hK.out _ _ hS (fun _ => ?_)
      clear hK K
      refine wpAnyH_ready (rs := [3]) (by kernel_rfl) (by simp) (AllReadyH.cons rfl (fun K hK => ?_) AllReadyH.nil)
      simp only [List.getElem_toArray, List.getElem_cons_succ, List.getElem_cons_zero, Act.put, List.setIfInBounds_toArray, List.set_cons_zero, List.set_cons_succ]
      go_simp
      refine (kopen_any l1 S X X2 n1 d2 A n c r nu B m d w2 y2 ff (by omega) hn hm (HT.out.next hb)).mono ?_
      rw [HE.out, HM.out]
      rintro e w3 ⟨hbn, (⟨hE0, g, rfl, rg, hgw⟩ | ⟨hE0, rfl⟩)⟩
      · subst hE0
        clear y2
        replace bf := bf.next hbn
        replace ff := ff.nx hbn
        replace y := y.nx hbn
        replace hb := next hb hbn
        clear hbn
        replace hS := HSI.out _ bf
        refine hK.out _ _ hS (fun _ => ?_)
        clear hK K
        refine wpAnyH_take (i := 4) (v := (.tuple #[.pointer (some ⟨g, 0, none⟩), .int .i64 0])) rfl (by kernel_rfl) (by kernel_rfl) (by kernel_rfl) (fun _ _ _ h => h) (Or.inl ⟨by rfl, fun _ hSw => by go_simp⟩) hS ?_
        simp only [List.getElem_toArray, List.getElem_cons_succ, List.getElem_cons_zero, Act.put, List.setIfInBounds_toArray, List.set_cons_zero, List.set_cons_succ]
        refine wpAnyH_take (i := 5) (v := (.pointer (some ⟨g, 0, none⟩))) rfl (by kernel_rfl) (by kernel_rfl) (by kernel_rfl) (fun _ _ _ h => h) (Or.inl ⟨by rfl, fun _ hSw => by go_simp⟩) hS ?_
        simp only [List.getElem_toArray, List.getElem_cons_succ, List.getElem_cons_zero, Act.put, List.setIfInBounds_toArray, List.set_cons_zero, List.set_cons_succ]
        refine wpAnyH_take (i := 6) (v := (.int .i64 0)) rfl (by kernel_rfl) (by kernel_rfl) (by kernel_rfl) (fun _ _ _ h => h) (Or.inl ⟨by rfl, fun _ hSw => by go_simp⟩) hS ?_
        simp only [List.getElem_toArray, List.getElem_cons_succ, List.getElem_cons_zero, Act.put, List.setIfInBounds_toArray, List.set_cons_zero, List.set_cons_succ]
        refine wpAnyH_take (i := 7) (v := (.pointer (some ⟨g, 0, none⟩))) rfl (by kernel_rfl) (by kernel_rfl) (by kernel_rfl) (fun _ _ _ h => h) (Or.inl ⟨by rfl, fun _ hSw => by go_simp⟩) hS ?_
        simp only [List.getElem_toArray, List.getElem_cons_succ, List.getElem_cons_zero, Act.put, List.setIfInBounds_toArray, List.set_cons_zero, List.set_cons_succ]
        refine wpAnyH_take (i := 8) (v := (.int .i64 0)) rfl (by kernel_rfl) (by kernel_rfl) (by kernel_rfl) (fun _ _ _ h => h) (Or.inl ⟨by rfl, fun _ hSw => by go_simp⟩) hS ?_
        simp only [List.getElem_toArray, List.getElem_cons_succ, List.getElem_cons_zero, Act.put, List.setIfInBounds_toArray, List.set_cons_zero, List.set_cons_succ]
        refine wpAnyH_done (by kernel_rfl) ?_ _
        clear hS
        have wh3 := bf.whole
        go_wp2_with (first
          | (refine wpList_load_mid rfl 35 _ rfl _ _ rfl (fC A n c r nu B m d) _ wh3 Tryz.underlying35 rfl size_kf ?_)
          | fail)
        refine (of_any11 A n c r nu B m d w3).mono ?_
        rintro e w4 ⟨rfl, hbn⟩
        clear wh3
        replace bf := bf.next hbn
        replace ff := ff.nx hbn
        replace y := y.nx hbn
        replace hb := next hb hbn
        replace rg := (rg.next hbn).up hbn.size
        clear hbn
        go_wp2_with fail
        refine (ropen_any11 l1 S X A1 n1 c1 A n c r nu B m d w4 y ff (by omega) hn hm).mono ?_
        rw [HE.out, HM.out]
        rintro e w5 ⟨A5, n5, c5, rfl, hbn, hrr⟩
        have rr := hrr rfl
        have hB : w5.heap.size ≤ w5.heap.size := Nat.le_refl _
        obtain ⟨B5, hB5⟩ : ∃ b, b = w5.heap.size := ⟨_, rfl⟩
        rw [← hB5] at rr
        replace hB : B5 ≤ w5.heap.size := Nat.le_of_eq hB5
        clear hB5
        clear hrr
        replace bf := bf.next hbn
        replace ff := ff.nx hbn
        replace y := y.nx hbn
        replace hb := next hb hbn
        replace rg := (rg.next hbn).up hbn.size
        clear hbn
        have hbn : Below w5.heap.size w5 (w5.alloc (.cells #[.slice A5 n5 c5] 30)) := (Below.refl _ w5).alloc (Nat.le_refl _) _
        have cq := Bl.newA w5 #[.slice A5 n5 c5] 30
        obtain ⟨qv, hqv⟩ : ∃ g, g = w5.heap.size := ⟨_, rfl⟩
        rw [← hqv] at cq
        have HQV : Hid (w5.heap.size = qv) := hqv.symm
        obtain ⟨w6, hw6⟩ : ∃ W, W = w5.alloc (.cells #[.slice A5 n5 c5] 30) := ⟨_, rfl⟩
        rw [← hw6] at cq hbn
        have HW6 := Lib.hid hw6
        clear hw6
        replace bf := bf.next hbn
        replace ff := ff.nx hbn
        replace y := y.nx hbn
        replace hb := next hb hbn
        replace rg := (rg.next hbn).up hbn.size
        replace rr := rr.next hB hbn
        replace hB := Nat.le_trans hB hbn.size
        clear hbn
        go_wp2_with fail
        rw [HQV.out]
        try rw [← HW6.out]
        clear hqv HQV HW6
        obtain ⟨w7, hw7⟩ : ∃ W', W' = w6.drew := ⟨_, rfl⟩
        have hbn : Below w6.heap.size w6 w7 := by rw [hw7]; exact (Below.refl _ w6).drew
        replace bf := bf.next hbn
        replace ff := ff.nx hbn
        replace y := y.nx hbn
        replace hb := next hb hbn
        replace rg := (rg.next hbn).up hbn.size
        replace cq := cq.next hbn
        replace rr := rr.next hB hbn
        replace hB := Nat.le_trans hB hbn.size
        clear hbn
        have hS := HSI.out _ bf
        refine wp_region_held_drew (S := SF) (by kernel_rfl) (by rw [← hw7]; exact hS) (fun _ => ?_)
        rw [← hw7]
        clear hw7
        refine wpAnyH_take (i := 0) (v := .agg (fC A n c r nu B m d).toArray) rfl (by kernel_rfl) (by kernel_rfl) (by kernel_rfl) (fun _ _ _ h => h) (Or.inl ⟨by rfl, fun w' hSw => exec_load_at w' 35 _ rfl ⟨w.heap.size, 0, none⟩ rfl (fC A n c r nu B m d) _ (HSW.out w' hSw) Tryz.underlying35 rfl size_kf⟩) hS ?_
        simp only [List.getElem_toArray, List.getElem_cons_succ, List.getElem_cons_zero, Act.put, List.setIfInBounds_toArray, List.set_cons_zero, List.set_cons_succ]
        refine wpAnyH_take (i := 2) (v := .agg (fC A n c r nu B m d).toArray) rfl (by kernel_rfl) (by kernel_rfl) (by kernel_rfl) (fun _ _ _ h => h) (Or.inl ⟨by rfl, fun w' hSw => exec_load_at w' 35 _ rfl ⟨w.heap.size, 0, none⟩ rfl (fC A n c r nu B m d) _ (HSW.out w' hSw) Tryz.underlying35 rfl size_kf⟩) hS ?_
        simp only [List.getElem_toArray, List.getElem_cons_succ, List.getElem_cons_zero, Act.put, List.setIfInBounds_toArray, List.set_cons_zero, List.set_cons_succ]
        refine wpAnyH_take (i := 4) (v := (.pointer (some ⟨w.heap.size, 3, none⟩))) rfl (by kernel_rfl) (by kernel_rfl) (by kernel_rfl) (fun _ _ _ h => h) (Or.inl ⟨by rfl, fun _ hSw => by go_simp⟩) hS ?_
        simp only [List.getElem_toArray, List.getElem_cons_succ, List.getElem_cons_zero, Act.put, List.setIfInBounds_toArray, List.set_cons_zero, List.set_cons_succ]
        refine wpAnyH_take (i := 5) (v := (.slice B m d)) rfl (by kernel_rfl) (by kernel_rfl) (by kernel_rfl) (fun _ _ _ h => h) (Or.inl ⟨by rfl, fun w' hSw => by have hq := HS3.out w' hSw; go_simp⟩) hS ?_
        simp only [List.getElem_toArray, List.getElem_cons_succ, List.getElem_cons_zero, Act.put, List.setIfInBounds_toArray, List.set_cons_zero, List.set_cons_succ]
        refine wpAnyH_take (i := 6) (v := (.int .i64 (m : Int))) rfl (by kernel_rfl) (by kernel_rfl) (by kernel_rfl) (fun _ _ _ h => h) (Or.inl ⟨by rfl, fun _ hSw => by go_simp⟩) hS ?_
        simp only [List.getElem_toArray, List.getElem_cons_succ, List.getElem_cons_zero, Act.put, List.setIfInBounds_toArray, List.set_cons_zero, List.set_cons_succ]
        refine wpAnyH_ready (rs := [1]) (by kernel_rfl) (by simp) (AllReadyH.cons rfl (fun K hK => ?_) AllReadyH.nil)
        simp only [List.getElem_toArray, List.getElem_cons_succ, List.getElem_cons_zero, Act.put, List.setIfInBounds_toArray, List.set_cons_zero, List.set_cons_succ]
        go_simp
        refine (fright_any A n c r nu B m d w7 (by omega) (by omega)).mono ?_
        rw [HKK.out]
        rintro e w8 ⟨rfl, hbn⟩
        replace bf := bf.next hbn
        replace ff := ff.nx hbn
        replace y := y.nx hbn
        replace hb := next hb hbn
        replace rg := (rg.next hbn).up hbn.size
        replace cq := cq.next hbn
        replace rr := rr.next hB hbn
        replace hB := Nat.le_trans hB hbn.size
        clear hbn
        replace hS := HSI.out _ bf
        refine hK.out _ _ hS (fun _ => ?_)
        clear hK K
        refine wpAnyH_ready (rs := [3]) (by kernel_rfl) (by simp) (AllReadyH.cons rfl (fun K hK => ?_) AllReadyH.nil)
        simp only [List.getElem_toArray, List.getElem_cons_succ, List.getElem_cons_zero, Act.put, List.setIfInBounds_toArray, List.set_cons_zero, List.set_cons_succ]
        go_simp
        refine (of_any11 A n c r nu B m d w8).mono ?_
        rintro e w9 ⟨rfl, hbn⟩
        replace bf := bf.next hbn
        replace ff := ff.nx hbn
        replace y := y.nx hbn
        replace hb := next hb hbn
        replace rg := (rg.next hbn).up hbn.size
        replace cq := cq.next hbn
        replace rr := rr.next hB hbn
        replace hB := Nat.le_trans hB hbn.size
        clear hbn
        replace hS := HSI.out _ bf
        refine hK.out _ _ hS (fun _ => ?_)
        clear hK K
        refine wpAnyH_ready (rs := [7]) (by kernel_rfl) (by simp) (AllReadyH.cons rfl (fun K hK => ?_) AllReadyH.nil)
        simp only [List.getElem_toArray, List.getElem_cons_succ, List.getElem_cons_zero, Act.put, List.setIfInBounds_toArray, List.set_cons_zero, List.set_cons_succ]
        go_simp
        refine (named_any A n c r nu B m d m w9 (by omega)).mono ?_
        rw [HKK.out]
        rintro e w10 ⟨rfl, hbn⟩
        replace bf := bf.next hbn
        replace ff := ff.nx hbn
        replace y := y.nx hbn
        replace hb := next hb hbn
        replace rg := (rg.next hbn).up hbn.size
        replace cq := cq.next hbn
        replace rr := rr.next hB hbn
        replace hB := Nat.le_trans hB hbn.size
        clear hbn
        replace hS := HSI.out _ bf
        refine hK.out _ _ hS (fun _ => ?_)
        clear hK K
        refine wpAnyH_take (i := 8) (v := (.bool false)) rfl (by kernel_rfl) (by kernel_rfl) (by kernel_rfl) (fun _ _ _ h => h) (Or.inl ⟨by rfl, fun _ hSw => by go_simp⟩) hS ?_
        simp only [List.getElem_toArray, List.getElem_cons_succ, List.getElem_cons_zero, Act.put, List.setIfInBounds_toArray, List.set_cons_zero, List.set_cons_succ]
        refine wpAnyH_take (i := 9) (v := (.bool false)) rfl (by kernel_rfl) (by kernel_rfl) (by kernel_rfl) (fun _ _ _ h => h) (Or.inl ⟨by rfl, fun _ hSw => by go_simp⟩) hS ?_
        simp only [List.getElem_toArray, List.getElem_cons_succ, List.getElem_cons_zero, Act.put, List.setIfInBounds_toArray, List.set_cons_zero, List.set_cons_succ]
        refine wpAnyH_take (i := 10) (v := .agg (fC A n c r nu B m d).toArray) rfl (by kernel_rfl) (by kernel_rfl) (by kernel_rfl) (fun _ _ _ h => h) (Or.inl ⟨by rfl, fun w' hSw => exec_load_at w' 35 _ rfl ⟨w.heap.size, 0, none⟩ rfl (fC A n c r nu B m d) _ (HSW.out w' hSw) Tryz.underlying35 rfl size_kf⟩) hS ?_
        simp only [List.getElem_toArray, List.getElem_cons_succ, List.getElem_cons_zero, Act.put, List.setIfInBounds_toArray, List.set_cons_zero, List.set_cons_succ]
        refine wpAnyH_take (i := 13) (v := .agg (fC A n c r nu B m d).toArray) rfl (by kernel_rfl) (by kernel_rfl) (by kernel_rfl) (fun _ _ _ h => h) (Or.inl ⟨by rfl, fun w' hSw => exec_load_at w' 35 _ rfl ⟨w.heap.size, 0, none⟩ rfl (fC A n c r nu B m d) _ (HSW.out w' hSw) Tryz.underlying35 rfl size_kf⟩) hS ?_
        simp only [List.getElem_toArray, List.getElem_cons_succ, List.getElem_cons_zero, Act.put, List.setIfInBounds_toArray, List.set_cons_zero, List.set_cons_succ]
        refine wpAnyH_ready (rs := [11]) (by kernel_rfl) (by simp) (AllReadyH.cons rfl (fun K hK => ?_) AllReadyH.nil)
        simp only [List.getElem_toArray, List.getElem_cons_succ, List.getElem_cons_zero, Act.put, List.setIfInBounds_toArray, List.set_cons_zero, List.set_cons_succ]
        go_simp
        refine (put_any11 S X A n c r nu B m d w10 ff hn hm).mono ?_
        rw [HP.out]
        rintro e w11 ⟨X11, c11, rfl, x11⟩
        have hbn := x11.below
        have y11 := x11.bys
        clear x11
        replace bf := bf.next hbn
        replace ff := ff.nx hbn
        replace y := y.nx hbn
        replace hb := next hb hbn
        replace rg := (rg.next hbn).up hbn.size
        replace cq := cq.next hbn
        replace rr := rr.next hB hbn
        replace hB := Nat.le_trans hB hbn.size
        clear hbn
        replace hS := HSI.out _ bf
        refine hK.out _ _ hS (fun _ => ?_)
        clear hK K
        obtain ⟨S2, hS2d⟩ : ∃ S2 : World → Prop, S2 = fun w' => SF w' ∧ (convert 22 9 (.slice X11 P.length c11)).run Tryz.prog w' = .ok (.string ⟨P.toArray⟩) w' := ⟨_, rfl⟩
        have HS2a : Hid (∀ w', S2 w' → SF w') := by unfold Hid; intro w' h; rw [hS2d] at h; exact h.1
        have HS2b : Hid (∀ w', S2 w' → (convert 22 9 (.slice X11 P.length c11)).run Tryz.prog w' = .ok (.string ⟨P.toArray⟩) w') := by unfold Hid; intro w' h; rw [hS2d] at h; exact h.2
        have HS2I : Hid (∀ w', Bl w' w.heap.size (fC A n c r nu B m d) 35 → Below w11.heap.size w11 w' → S2 w') := by unfold Hid; intro w' h hb; rw [hS2d]; exact ⟨HSI.out _ h, u8_str (y11.nx hb).sl c11⟩
        clear hS2d hS
        have hS : S2 w11 := HS2I.out _ bf (Below.refl _ _)
        refine wpAnyH_mono (S' := S2) (fun w' h => HS2a.out w' h) _ _ _ _ ?_
        refine wpAnyH_take (i := 12) (v := .string ⟨P.toArray⟩) rfl (by kernel_rfl) (by kernel_rfl) (by kernel_rfl) (fun _ _ _ h => h) (Or.inl ⟨by rfl, fun w' hw' => exec_convert w' _ _ _ rfl _ _ rfl (HS2b.out w' hw')⟩) hS ?_
        simp only [List.getElem_toArray, List.getElem_cons_succ, List.getElem_cons_zero, Act.put, List.setIfInBounds_toArray, List.set_cons_zero, List.set_cons_succ]
        refine wpAnyH_ready (rs := [14]) (by kernel_rfl) (by simp) (AllReadyH.cons rfl (fun K hK => ?_) AllReadyH.nil)
        simp only [List.getElem_toArray, List.getElem_cons_succ, List.getElem_cons_zero, Act.put, List.setIfInBounds_toArray, List.set_cons_zero, List.set_cons_succ]
        go_simp
        refine (of_any11 A n c r nu B m d w11).mono ?_
        rintro e w12 ⟨rfl, hbn⟩
        have h1112 := hbn
        replace bf := bf.next hbn
        replace ff := ff.nx hbn
        replace y := y.nx hbn
        replace hb := next hb hbn
        replace rg := (rg.next hbn).up hbn.size
        replace cq := cq.next hbn
        replace rr := rr.next hB hbn
        replace hB := Nat.le_trans hB hbn.size
        clear hbn
        replace hS := HS2I.out _ bf h1112
        refine hK.out _ _ hS (fun _ => ?_)
        clear hK K
        refine wpAnyH_ready (rs := [15]) (by kernel_rfl) (by simp) (AllReadyH.cons rfl (fun K hK => ?_) AllReadyH.nil)
        simp only [List.getElem_toArray, List.getElem_cons_succ, List.getElem_cons_zero, Act.put, List.setIfInBounds_toArray, List.set_cons_zero, List.set_cons_succ]
        go_simp
        refine (rput_any11 S X A n c r nu B m d w12 ff hn hm).mono ?_
        rw [HP.out]
        rintro e w13 ⟨X13, c13, rfl, x13⟩
        have hbn := x13.below
        have y13 := x13.bys
        have h1113 := next h1112 hbn
        clear x13
        replace bf := bf.next hbn
        replace ff := ff.nx hbn
        replace y := y.nx hbn
        replace hb := next hb hbn
        replace rg := (rg.next hbn).up hbn.size
        replace cq := cq.next hbn
        replace rr := rr.next hB hbn
        replace hB := Nat.le_trans hB hbn.size
        clear hbn
        replace hS := HS2I.out _ bf h1113
        refine hK.out _ _ hS (fun _ => ?_)
        clear hK K
        obtain ⟨S4, hS4d⟩ : ∃ S4 : World → Prop, S4 = fun w' => S2 w' ∧ (convert 22 9 (.slice X13 P.length c13)).run Tryz.prog w' = .ok (.string ⟨P.toArray⟩) w' := ⟨_, rfl⟩
        have HS4a : Hid (∀ w', S4 w' → S2 w') := by unfold Hid; intro w' h; rw [hS4d] at h; exact h.1
        have HS4b : Hid (∀ w', S4 w' → (convert 22 9 (.slice X13 P.length c13)).run Tryz.prog w' = .ok (.string ⟨P.toArray⟩) w') := by unfold Hid; intro w' h; rw [hS4d] at h; exact h.2
        have HS4I : Hid (S4 w13) := by unfold Hid; rw [hS4d]; exact ⟨hS, u8_str y13.sl c13⟩
        clear hS4d hS
        have hS : S4 w13 := HS4I.out
        refine wpAnyH_mono (S' := S4) (fun w' h => HS4a.out w' h) _ _ _ _ ?_
        refine wpAnyH_take (i := 16) (v := .string ⟨P.toArray⟩) rfl (by kernel_rfl) (by kernel_rfl) (by kernel_rfl) (fun _ _ _ h => h) (Or.inl ⟨by rfl, fun w' hw' => exec_convert w' _ _ _ rfl _ _ rfl (HS4b.out w' hw')⟩) hS ?_
        simp only [List.getElem_toArray, List.getElem_cons_succ, List.getElem_cons_zero, Act.put, List.setIfInBounds_toArray, List.set_cons_zero, List.set_cons_succ]
        refine wpAnyH_take (i := 17) (v := (.bool false)) rfl (by kernel_rfl) (by kernel_rfl) (by kernel_rfl) (fun _ _ _ h => h) (Or.inl ⟨by rfl, fun _ hSw => by go_simp⟩) hS ?_
        simp only [List.getElem_toArray, List.getElem_cons_succ, List.getElem_cons_zero, Act.put, List.setIfInBounds_toArray, List.set_cons_zero, List.set_cons_succ]
        refine wpAnyH_take (i := 18) (v := (.bool false)) rfl (by kernel_rfl) (by kernel_rfl) (by kernel_rfl) (fun _ _ _ h => h) (Or.inl ⟨by rfl, fun _ hSw => by go_simp⟩) hS ?_
        simp only [List.getElem_toArray, List.getElem_cons_succ, List.getElem_cons_zero, Act.put, List.setIfInBounds_toArray, List.set_cons_zero, List.set_cons_succ]
        refine wpAnyH_take (i := 19) (v := (.bool false)) rfl (by kernel_rfl) (by kernel_rfl) (by kernel_rfl) (fun _ _ _ h => h) (Or.inl ⟨by rfl, fun _ hSw => by go_simp⟩) hS ?_
        simp only [List.getElem_toArray, List.getElem_cons_succ, List.getElem_cons_zero, Act.put, List.setIfInBounds_toArray, List.set_cons_zero, List.set_cons_succ]
        refine wpAnyH_take (i := 20) (v := (.int .i64 0)) rfl (by kernel_rfl) (by kernel_rfl) (by kernel_rfl) (fun _ _ _ h => h) (Or.inl ⟨by rfl, fun _ hSw => by go_simp⟩) hS ?_
        simp only [List.getElem_toArray, List.getElem_cons_succ, List.getElem_cons_zero, Act.put, List.setIfInBounds_toArray, List.set_cons_zero, List.set_cons_succ]
        refine wpAnyH_take (i := 21) (v := (.int .i64 0)) rfl (by kernel_rfl) (by kernel_rfl) (by kernel_rfl) (fun _ _ _ h => h) (Or.inl ⟨by rfl, fun _ hSw => by go_simp⟩) hS ?_
        simp only [List.getElem_toArray, List.getElem_cons_succ, List.getElem_cons_zero, Act.put, List.setIfInBounds_toArray, List.set_cons_zero, List.set_cons_succ]
        refine wpAnyH_take (i := 22) (v := (.bool false)) rfl (by kernel_rfl) (by kernel_rfl) (by kernel_rfl) (fun _ _ _ h => h) (Or.inl ⟨by rfl, fun _ hSw => by go_simp⟩) hS ?_
        simp only [List.getElem_toArray, List.getElem_cons_succ, List.getElem_cons_zero, Act.put, List.setIfInBounds_toArray, List.set_cons_zero, List.set_cons_succ]
        refine wpAnyH_take (i := 23) (v := (.bool false)) rfl (by kernel_rfl) (by kernel_rfl) (by kernel_rfl) (fun _ _ _ h => h) (Or.inl ⟨by rfl, fun _ hSw => by go_simp⟩) hS ?_
        simp only [List.getElem_toArray, List.getElem_cons_succ, List.getElem_cons_zero, Act.put, List.setIfInBounds_toArray, List.set_cons_zero, List.set_cons_succ]
        refine wpAnyH_done (by kernel_rfl) ?_ _
        clear hS y11 y13 h1112 h1113 HS2a HS2b HS2I HS4a HS4b HS4I
        have cqc : w13.cell? ⟨qv, 0, none⟩ = some (.slice A5 n5 c5) := cq.cell 0
        have ok := rg.2.1
        have hML : M.length ≤ 1000 := by simpa using HML.out
        go_wp2_with (first
          | (go_at_call 16; refine (alike_any g B5 M M (fun _ => rfl) A5 n5 c5 w13 (HT.out.next hb) rg rr ok hB hML hML).mono ?_; rintro e w14 ⟨rfl, hbn⟩; replace hb := next hb hbn; clear hbn)
          | (go_at_call 10; refine (awake11_any w14 (HT.out.next hb)).mono ?_; rintro e w15 ⟨rfl, hb15⟩)
          | fail)
        go_ret
        exact ⟨rfl, next hb hb15⟩
      · have hEn : ((E : Int) != 0) = true := by simp [bne, hE0]
        have hEe : (E != E) = false := by simp
        clear y2
        replace bf := bf.next hbn
        replace ff := ff.nx hbn
        replace y := y.nx hbn
        replace hb := next hb hbn
        clear hbn
        replace hS := HSI.out _ bf
        refine hK.out _ _ hS (fun _ => ?_)
        clear hK K
        refine wpAnyH_take (i := 4) (v := (.tuple #[.pointer none, .int .i64 E])) rfl (by kernel_rfl) (by kernel_rfl) (by kernel_rfl) (fun _ _ _ h => h) (Or.inl ⟨by rfl, fun _ hSw => by go_simp⟩) hS ?_
        simp only [List.getElem_toArray, List.getElem_cons_succ, List.getElem_cons_zero, Act.put, List.setIfInBounds_toArray, List.set_cons_zero, List.set_cons_succ]
        refine wpAnyH_take (i := 5) (v := (.pointer none)) rfl (by kernel_rfl) (by kernel_rfl) (by kernel_rfl) (fun _ _ _ h => h) (Or.inl ⟨by rfl, fun _ hSw => by go_simp⟩) hS ?_
        simp only [List.getElem_toArray, List.getElem_cons_succ, List.getElem_cons_zero, Act.put, List.setIfInBounds_toArray, List.set_cons_zero, List.set_cons_succ]
        refine wpAnyH_take (i := 6) (v := (.int .i64 E)) rfl (by kernel_rfl) (by kernel_rfl) (by kernel_rfl) (fun _ _ _ h => h) (Or.inl ⟨by rfl, fun _ hSw => by go_simp⟩) hS ?_
        simp only [List.getElem_toArray, List.getElem_cons_succ, List.getElem_cons_zero, Act.put, List.setIfInBounds_toArray, List.set_cons_zero, List.set_cons_succ]
        refine wpAnyH_take (i := 7) (v := (.pointer none)) rfl (by kernel_rfl) (by kernel_rfl) (by kernel_rfl) (fun _ _ _ h => h) (Or.inl ⟨by rfl, fun _ hSw => by go_simp⟩) hS ?_
        simp only [List.getElem_toArray, List.getElem_cons_succ, List.getElem_cons_zero, Act.put, List.setIfInBounds_toArray, List.set_cons_zero, List.set_cons_succ]
        refine wpAnyH_take (i := 8) (v := (.int .i64 E)) rfl (by kernel_rfl) (by kernel_rfl) (by kernel_rfl) (fun _ _ _ h => h) (Or.inl ⟨by rfl, fun _ hSw => by go_simp⟩) hS ?_
        simp only [List.getElem_toArray, List.getElem_cons_succ, List.getElem_cons_zero, Act.put, List.setIfInBounds_toArray, List.set_cons_zero, List.set_cons_succ]
        refine wpAnyH_done (by kernel_rfl) ?_ _
        clear hS
        have wh3 := bf.whole
        go_wp2_with (first
          | (refine wpList_load_mid rfl 35 _ rfl _ _ rfl (fC A n c r nu B m d) _ wh3 Tryz.underlying35 rfl size_kf ?_)
          | fail)
        refine (of_any11 A n c r nu B m d w3).mono ?_
        rintro e w4 ⟨rfl, hbn⟩
        clear wh3
        replace bf := bf.next hbn
        replace ff := ff.nx hbn
        replace y := y.nx hbn
        replace hb := next hb hbn
        clear hbn
        go_wp2_with fail
        refine (ropen_any11 l1 S X A1 n1 c1 A n c r nu B m d w4 y ff (by omega) hn hm).mono ?_
        rw [HE.out, HM.out]
        rintro e w5 ⟨A5, n5, c5, rfl, hbn, hrr⟩
        clear hrr
        replace bf := bf.next hbn
        replace ff := ff.nx hbn
        replace y := y.nx hbn
        replace hb := next hb hbn
        clear hbn
        have hbn : Below w5.heap.size w5 (w5.alloc (.cells #[.slice A5 n5 c5] 30)) := (Below.refl _ w5).alloc (Nat.le_refl _) _
        have cq := Bl.newA w5 #[.slice A5 n5 c5] 30
        obtain ⟨qv, hqv⟩ : ∃ g, g = w5.heap.size := ⟨_, rfl⟩
        rw [← hqv] at cq
        have HQV : Hid (w5.heap.size = qv) := hqv.symm
        obtain ⟨w6, hw6⟩ : ∃ W, W = w5.alloc (.cells #[.slice A5 n5 c5] 30) := ⟨_, rfl⟩
        rw [← hw6] at cq hbn
        have HW6 := Lib.hid hw6
        clear hw6
        replace bf := bf.next hbn
        replace ff := ff.nx hbn
        replace y := y.nx hbn
        replace hb := next hb hbn
        clear hbn
        go_wp2_with fail
        rw [HQV.out]
        try rw [← HW6.out]
        clear hqv HQV HW6
        obtain ⟨w7, hw7⟩ : ∃ W', W' = w6.drew := ⟨_, rfl⟩
        have hbn : Below w6.heap.size w6 w7 := by rw [hw7]; exact (Below.refl _ w6).drew
        replace bf := bf.next hbn
        replace ff := ff.nx hbn
        replace y := y.nx hbn
        replace hb := next hb hbn
        replace cq := cq.next hbn
        clear hbn
        have hS := HSI.out _ bf
        refine wp_region_held_drew (S := SF) (by kernel_rfl) (by rw [← hw7]; exact hS) (fun _ => ?_)
        rw [← hw7]
        clear hw7
        refine wpAnyH_take (i := 0) (v := .agg (fC A n c r nu B m d).toArray) rfl (by kernel_rfl) (by kernel_rfl) (by kernel_rfl) (fun _ _ _ h => h) (Or.inl ⟨by rfl, fun w' hSw => exec_load_at w' 35 _ rfl ⟨w.heap.size, 0, none⟩ rfl (fC A n c r nu B m d) _ (HSW.out w' hSw) Tryz.underlying35 rfl size_kf⟩) hS ?_
        simp only [List.getElem_toArray, List.getElem_cons_succ, List.getElem_cons_zero, Act.put, List.setIfInBounds_toArray, List.set_cons_zero, List.set_cons_succ]
        refine wpAnyH_take (i := 2) (v := .agg (fC A n c r nu B m d).toArray) rfl (by kernel_rfl) (by kernel_rfl) (by kernel_rfl) (fun _ _ _ h => h) (Or.inl ⟨by rfl, fun w' hSw => exec_load_at w' 35 _ rfl ⟨w.heap.size, 0, none⟩ rfl (fC A n c r nu B m d) _ (HSW.out w' hSw) Tryz.underlying35 rfl size_kf⟩) hS ?_
        simp only [List.getElem_toArray, List.getElem_cons_succ, List.getElem_cons_zero, Act.put, List.setIfInBounds_toArray, List.set_cons_zero, List.set_cons_succ]
        refine wpAnyH_take (i := 4) (v := (.pointer (some ⟨w.heap.size, 3, none⟩))) rfl (by kernel_rfl) (by kernel_rfl) (by kernel_rfl) (fun _ _ _ h => h) (Or.inl ⟨by rfl, fun _ hSw => by go_simp⟩) hS ?_
        simp only [List.getElem_toArray, List.getElem_cons_succ, List.getElem_cons_zero, Act.put, List.setIfInBounds_toArray, List.set_cons_zero, List.set_cons_succ]
        refine wpAnyH_take (i := 5) (v := (.slice B m d)) rfl (by kernel_rfl) (by kernel_rfl) (by kernel_rfl) (fun _ _ _ h => h) (Or.inl ⟨by rfl, fun w' hSw => by have hq := HS3.out w' hSw; go_simp⟩) hS ?_
        simp only [List.getElem_toArray, List.getElem_cons_succ, List.getElem_cons_zero, Act.put, List.setIfInBounds_toArray, List.set_cons_zero, List.set_cons_succ]
        refine wpAnyH_take (i := 6) (v := (.int .i64 (m : Int))) rfl (by kernel_rfl) (by kernel_rfl) (by kernel_rfl) (fun _ _ _ h => h) (Or.inl ⟨by rfl, fun _ hSw => by go_simp⟩) hS ?_
        simp only [List.getElem_toArray, List.getElem_cons_succ, List.getElem_cons_zero, Act.put, List.setIfInBounds_toArray, List.set_cons_zero, List.set_cons_succ]
        refine wpAnyH_ready (rs := [1]) (by kernel_rfl) (by simp) (AllReadyH.cons rfl (fun K hK => ?_) AllReadyH.nil)
        simp only [List.getElem_toArray, List.getElem_cons_succ, List.getElem_cons_zero, Act.put, List.setIfInBounds_toArray, List.set_cons_zero, List.set_cons_succ]
        go_simp
        refine (fright_any A n c r nu B m d w7 (by omega) (by omega)).mono ?_
        rw [HKK.out]
        rintro e w8 ⟨rfl, hbn⟩
        replace bf := bf.next hbn
        replace ff := ff.nx hbn
        replace y := y.nx hbn
        replace hb := next hb hbn
        replace cq := cq.next hbn
        clear hbn
        replace hS := HSI.out _ bf
        refine hK.out _ _ hS (fun _ => ?_)
        clear hK K
        refine wpAnyH_ready (rs := [3]) (by kernel_rfl) (by simp) (AllReadyH.cons rfl (fun K hK => ?_) AllReadyH.nil)
        simp only [List.getElem_toArray, List.getElem_cons_succ, List.getElem_cons_zero, Act.put, List.setIfInBounds_toArray, List.set_cons_zero, List.set_cons_succ]
        go_simp
        refine (of_any11 A n c r nu B m d w8).mono ?_
        rintro e w9 ⟨rfl, hbn⟩
        replace bf := bf.next hbn
        replace ff := ff.nx hbn
        replace y := y.nx hbn
        replace hb := next hb hbn
        replace cq := cq.next hbn
        clear hbn
        replace hS := HSI.out _ bf
        refine hK.out _ _ hS (fun _ => ?_)
        clear hK K
        refine wpAnyH_ready (rs := [7]) (by kernel_rfl) (by simp) (AllReadyH.cons rfl (fun K hK => ?_) AllReadyH.nil)
        simp only [List.getElem_toArray, List.getElem_cons_succ, List.getElem_cons_zero, Act.put, List.setIfInBounds_toArray, List.set_cons_zero, List.set_cons_succ]
        go_simp
        refine (named_any A n c r nu B m d m w9 (by omega)).mono ?_
        rw [HKK.out]
        rintro e w10 ⟨rfl, hbn⟩
        replace bf := bf.next hbn
        replace ff := ff.nx hbn
        replace y := y.nx hbn
        replace hb := next hb hbn
        replace cq := cq.next hbn
        clear hbn
        replace hS := HSI.out _ bf
        refine hK.out _ _ hS (fun _ => ?_)
        clear hK K
        refine wpAnyH_take (i := 8) (v := (.bool false)) rfl (by kernel_rfl) (by kernel_rfl) (by kernel_rfl) (fun _ _ _ h => h) (Or.inl ⟨by rfl, fun _ hSw => by go_simp⟩) hS ?_
        simp only [List.getElem_toArray, List.getElem_cons_succ, List.getElem_cons_zero, Act.put, List.setIfInBounds_toArray, List.set_cons_zero, List.set_cons_succ]
        refine wpAnyH_take (i := 9) (v := (.bool false)) rfl (by kernel_rfl) (by kernel_rfl) (by kernel_rfl) (fun _ _ _ h => h) (Or.inl ⟨by rfl, fun _ hSw => by go_simp⟩) hS ?_
        simp only [List.getElem_toArray, List.getElem_cons_succ, List.getElem_cons_zero, Act.put, List.setIfInBounds_toArray, List.set_cons_zero, List.set_cons_succ]
        refine wpAnyH_take (i := 10) (v := .agg (fC A n c r nu B m d).toArray) rfl (by kernel_rfl) (by kernel_rfl) (by kernel_rfl) (fun _ _ _ h => h) (Or.inl ⟨by rfl, fun w' hSw => exec_load_at w' 35 _ rfl ⟨w.heap.size, 0, none⟩ rfl (fC A n c r nu B m d) _ (HSW.out w' hSw) Tryz.underlying35 rfl size_kf⟩) hS ?_
        simp only [List.getElem_toArray, List.getElem_cons_succ, List.getElem_cons_zero, Act.put, List.setIfInBounds_toArray, List.set_cons_zero, List.set_cons_succ]
        refine wpAnyH_take (i := 13) (v := .agg (fC A n c r nu B m d).toArray) rfl (by kernel_rfl) (by kernel_rfl) (by kernel_rfl) (fun _ _ _ h => h) (Or.inl ⟨by rfl, fun w' hSw => exec_load_at w' 35 _ rfl ⟨w.heap.size, 0, none⟩ rfl (fC A n c r nu B m d) _ (HSW.out w' hSw) Tryz.underlying35 rfl size_kf⟩) hS ?_
        simp only [List.getElem_toArray, List.getElem_cons_succ, List.getElem_cons_zero, Act.put, List.setIfInBounds_toArray, List.set_cons_zero, List.set_cons_succ]
        refine wpAnyH_ready (rs := [11]) (by kernel_rfl) (by simp) (AllReadyH.cons rfl (fun K hK => ?_) AllReadyH.nil)
        simp only [List.getElem_toArray, List.getElem_cons_succ, List.getElem_cons_zero, Act.put, List.setIfInBounds_toArray, List.set_cons_zero, List.set_cons_succ]
        go_simp
        refine (put_any11 S X A n c r nu B m d w10 ff hn hm).mono ?_
        rw [HP.out]
        rintro e w11 ⟨X11, c11, rfl, x11⟩
        have hbn := x11.below
        have y11 := x11.bys
        clear x11
        replace bf := bf.next hbn
        replace ff := ff.nx hbn
        replace y := y.nx hbn
        replace hb := next hb hbn
        replace cq := cq.next hbn
        clear hbn
        replace hS := HSI.out _ bf
        refine hK.out _ _ hS (fun _ => ?_)
        clear hK K
        obtain ⟨S2, hS2d⟩ : ∃ S2 : World → Prop, S2 = fun w' => SF w' ∧ (convert 22 9 (.slice X11 P.length c11)).run Tryz.prog w' = .ok (.string ⟨P.toArray⟩) w' := ⟨_, rfl⟩
        have HS2a : Hid (∀ w', S2 w' → SF w') := by unfold Hid; intro w' h; rw [hS2d] at h; exact h.1
        have HS2b : Hid (∀ w', S2 w' → (convert 22 9 (.slice X11 P.length c11)).run Tryz.prog w' = .ok (.string ⟨P.toArray⟩) w') := by unfold Hid; intro w' h; rw [hS2d] at h; exact h.2
        have HS2I : Hid (∀ w', Bl w' w.heap.size (fC A n c r nu B m d) 35 → Below w11.heap.size w11 w' → S2 w') := by unfold Hid; intro w' h hb; rw [hS2d]; exact ⟨HSI.out _ h, u8_str (y11.nx hb).sl c11⟩
        clear hS2d hS
        have hS : S2 w11 := HS2I.out _ bf (Below.refl _ _)
        refine wpAnyH_mono (S' := S2) (fun w' h => HS2a.out w' h) _ _ _ _ ?_
        refine wpAnyH_take (i := 12) (v := .string ⟨P.toArray⟩) rfl (by kernel_rfl) (by kernel_rfl) (by kernel_rfl) (fun _ _ _ h => h) (Or.inl ⟨by rfl, fun w' hw' => exec_convert w' _ _ _ rfl _ _ rfl (HS2b.out w' hw')⟩) hS ?_
        simp only [List.getElem_toArray, List.getElem_cons_succ, List.getElem_cons_zero, Act.put, List.setIfInBounds_toArray, List.set_cons_zero, List.set_cons_succ]
        refine wpAnyH_ready (rs := [14]) (by kernel_rfl) (by simp) (AllReadyH.cons rfl (fun K hK => ?_) AllReadyH.nil)
        simp only [List.getElem_toArray, List.getElem_cons_succ, List.getElem_cons_zero, Act.put, List.setIfInBounds_toArray, List.set_cons_zero, List.set_cons_succ]
        go_simp
        refine (of_any11 A n c r nu B m d w11).mono ?_
        rintro e w12 ⟨rfl, hbn⟩
        have h1112 := hbn
        replace bf := bf.next hbn
        replace ff := ff.nx hbn
        replace y := y.nx hbn
        replace hb := next hb hbn
        replace cq := cq.next hbn
        clear hbn
        replace hS := HS2I.out _ bf h1112
        refine hK.out _ _ hS (fun _ => ?_)
        clear hK K
        refine wpAnyH_ready (rs := [15]) (by kernel_rfl) (by simp) (AllReadyH.cons rfl (fun K hK => ?_) AllReadyH.nil)
        simp only [List.getElem_toArray, List.getElem_cons_succ, List.getElem_cons_zero, Act.put, List.setIfInBounds_toArray, List.set_cons_zero, List.set_cons_succ]
        go_simp
        refine (rput_any11 S X A n c r nu B m d w12 ff hn hm).mono ?_
        rw [HP.out]
        rintro e w13 ⟨X13, c13, rfl, x13⟩
        have hbn := x13.below
        have y13 := x13.bys
        have h1113 := next h1112 hbn
        clear x13
        replace bf := bf.next hbn
        replace ff := ff.nx hbn
        replace y := y.nx hbn
        replace hb := next hb hbn
        replace cq := cq.next hbn
        clear hbn
        replace hS := HS2I.out _ bf h1113
        refine hK.out _ _ hS (fun _ => ?_)
        clear hK K
        obtain ⟨S4, hS4d⟩ : ∃ S4 : World → Prop, S4 = fun w' => S2 w' ∧ (convert 22 9 (.slice X13 P.length c13)).run Tryz.prog w' = .ok (.string ⟨P.toArray⟩) w' := ⟨_, rfl⟩
        have HS4a : Hid (∀ w', S4 w' → S2 w') := by unfold Hid; intro w' h; rw [hS4d] at h; exact h.1
        have HS4b : Hid (∀ w', S4 w' → (convert 22 9 (.slice X13 P.length c13)).run Tryz.prog w' = .ok (.string ⟨P.toArray⟩) w') := by unfold Hid; intro w' h; rw [hS4d] at h; exact h.2
        have HS4I : Hid (S4 w13) := by unfold Hid; rw [hS4d]; exact ⟨hS, u8_str y13.sl c13⟩
        clear hS4d hS
        have hS : S4 w13 := HS4I.out
        refine wpAnyH_mono (S' := S4) (fun w' h => HS4a.out w' h) _ _ _ _ ?_
        refine wpAnyH_take (i := 16) (v := .string ⟨P.toArray⟩) rfl (by kernel_rfl) (by kernel_rfl) (by kernel_rfl) (fun _ _ _ h => h) (Or.inl ⟨by rfl, fun w' hw' => exec_convert w' _ _ _ rfl _ _ rfl (HS4b.out w' hw')⟩) hS ?_
        simp only [List.getElem_toArray, List.getElem_cons_succ, List.getElem_cons_zero, Act.put, List.setIfInBounds_toArray, List.set_cons_zero, List.set_cons_succ]
        refine wpAnyH_take (i := 17) (v := (.bool false)) rfl (by kernel_rfl) (by kernel_rfl) (by kernel_rfl) (fun _ _ _ h => h) (Or.inl ⟨by rfl, fun _ hSw => by go_simp⟩) hS ?_
        simp only [List.getElem_toArray, List.getElem_cons_succ, List.getElem_cons_zero, Act.put, List.setIfInBounds_toArray, List.set_cons_zero, List.set_cons_succ]
        refine wpAnyH_take (i := 18) (v := (.bool false)) rfl (by kernel_rfl) (by kernel_rfl) (by kernel_rfl) (fun _ _ _ h => h) (Or.inl ⟨by rfl, fun _ hSw => by go_simp⟩) hS ?_
        simp only [List.getElem_toArray, List.getElem_cons_succ, List.getElem_cons_zero, Act.put, List.setIfInBounds_toArray, List.set_cons_zero, List.set_cons_succ]
        refine wpAnyH_take (i := 19) (v := (.bool false)) rfl (by kernel_rfl) (by kernel_rfl) (by kernel_rfl) (fun _ _ _ h => h) (Or.inl ⟨by rfl, fun _ hSw => by go_simp⟩) hS ?_
        simp only [List.getElem_toArray, List.getElem_cons_succ, List.getElem_cons_zero, Act.put, List.setIfInBounds_toArray, List.set_cons_zero, List.set_cons_succ]
        refine wpAnyH_take (i := 20) (v := (.int .i64 E)) rfl (by kernel_rfl) (by kernel_rfl) (by kernel_rfl) (fun _ _ _ h => h) (Or.inl ⟨by rfl, fun _ hSw => by go_simp⟩) hS ?_
        simp only [List.getElem_toArray, List.getElem_cons_succ, List.getElem_cons_zero, Act.put, List.setIfInBounds_toArray, List.set_cons_zero, List.set_cons_succ]
        refine wpAnyH_take (i := 21) (v := (.int .i64 E)) rfl (by kernel_rfl) (by kernel_rfl) (by kernel_rfl) (fun _ _ _ h => h) (Or.inl ⟨by rfl, fun _ hSw => by go_simp⟩) hS ?_
        simp only [List.getElem_toArray, List.getElem_cons_succ, List.getElem_cons_zero, Act.put, List.setIfInBounds_toArray, List.set_cons_zero, List.set_cons_succ]
        refine wpAnyH_take (i := 22) (v := (.bool false)) rfl (by kernel_rfl) (by kernel_rfl) (by kernel_rfl) (fun _ _ _ h => h) (Or.inl ⟨by rfl, fun _ hSw => by go_simp⟩) hS ?_
        simp only [List.getElem_toArray, List.getElem_cons_succ, List.getElem_cons_zero, Act.put, List.setIfInBounds_toArray, List.set_cons_zero, List.set_cons_succ]
        refine wpAnyH_take (i := 23) (v := (.bool false)) rfl (by kernel_rfl) (by kernel_rfl) (by kernel_rfl) (fun _ _ _ h => h) (Or.inl ⟨by rfl, fun _ hSw => by go_simp⟩) hS ?_
        simp only [List.getElem_toArray, List.getElem_cons_succ, List.getElem_cons_zero, Act.put, List.setIfInBounds_toArray, List.set_cons_zero, List.set_cons_succ]
        refine wpAnyH_done (by kernel_rfl) ?_ _
        clear hS y11 y13 h1112 h1113 HS2a HS2b HS2I HS4a HS4b HS4I
        go_wp2_with (first
          | (go_at_call 10; refine (awake11_any w13 (HT.out.next hb)).mono ?_; rintro e w15 ⟨rfl, hb15⟩)
          | fail)
        go_ret
        exact ⟨rfl, next hb hb15⟩

end Go.Proofs.YtlnoopmblmkgkaaGreatDoor
