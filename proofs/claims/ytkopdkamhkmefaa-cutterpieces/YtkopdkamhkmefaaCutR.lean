/- all, First, Lengths, Same, Right of the reference of package cutter. -/
import Derived.Test.YtkopdkamhkmefaaCutG
import Derived.Test.YtkopdkamhkmefaaRolR
import Derived.OrdersHeld
namespace Go.Proofs.Ytkopdkamhkmefaa
set_option maxRecDepth 100000
open Go Go.RowKit
set_option linter.unusedVariables false
set_option linter.unusedSimpArgs false

/-- The cells of a Cut. -/
def cutC (p k : Nat) (mn mx : Int) : List Value := [.int .u64 (p : Int), .int .u64 (k : Int), .int .i64 mn, .int .i64 mx]
theorem cutC_one (p k : Nat) (mn mx : Int) : ∀ v ∈ cutC p k mn mx, v.oneCell' = true := by
  intro v hv
  simp only [cutC, List.mem_cons, List.not_mem_nil, or_false] at hv
  rcases hv with rfl | rfl | rfl | rfl <;> rfl
theorem size_cut : (Try.prog.info? 24).map (·.size) = some 4 := by kernel_rfl
/-- May a cut be? -/
def cutOk (p : Nat) (mn mx : Int) : Bool := rolOk p && decide (1 ≤ mn) && decide (mn ≤ mx) && decide (mx ≤ 4096)
theorem cutOk_of {p : Nat} {mn mx : Int} (h : cutOk p mn mx = true) : rolOk p = true ∧ 1 ≤ mn ∧ mn ≤ mx ∧ mx ≤ 4096 := by
  unfold cutOk at h
  simp only [Bool.and_eq_true, decide_eq_true_eq] at h
  obtain ⟨⟨⟨h1, h2⟩, h3⟩, h4⟩ := h
  exact ⟨h1, h2, h3, h4⟩

theorem all14_any (x mask : Nat) (w : World) (hx : x < 18446744073709551616) (hm : mask < 18446744073709551616) :
    Calls Try.prog 34 #[.int .u64 x, .int .u64 mask] w fun e w' => e = .returned (.bool (allB x mask)) ∧ w = w' := by
  obtain ⟨r, hr⟩ : ∃ r, r = allB x mask := ⟨_, rfl⟩
  rw [← hr]
  have HR := Lib.hid hr
  clear hr
  go_enter Try.func34, Try.ntmps34
  go_wp2
  go_loop [0, 1] (fun a b => ∃ y k : Nat, a = .int .u64 (y : Int) ∧ b = .int .u64 (k : Int) ∧ y < 18446744073709551616 ∧ k < 18446744073709551616 ∧ r = allB y k) (fun _ b => (intOf b).toNat)
  case atStart => exact ⟨x, mask, rfl, rfl, hx, hm, HR.out⟩
  case round =>
    obtain ⟨y, k, rfl, rfl, hy, hk, hrr⟩ := hrel
    rcases Nat.eq_zero_or_pos k with h0 | h0
    · subst h0
      rw [allB_zero] at hrr
      subst hrr
      go_wp2
      go_ret
      exact ⟨rfl, rfl⟩
    · have HRR := Lib.hid hrr
      clear hrr
      obtain ⟨a, ha⟩ : ∃ a, a = k % 2 := ⟨_, rfl⟩
      obtain ⟨b, hb⟩ : ∃ b, b = y % 2 := ⟨_, rfl⟩
      have ea : (k : Int) % 2 = (a : Int) := by omega
      have eb : (y : Int) % 2 = (b : Int) := by omega
      obtain ⟨k2, hk2⟩ : ∃ a, a = k / 2 := ⟨_, rfl⟩
      obtain ⟨y2, hy2⟩ : ∃ a, a = y / 2 := ⟨_, rfl⟩
      have ek : (k : Int) / 2 = (k2 : Int) := by omega
      have ey : (y : Int) / 2 = (y2 : Int) := by omega
      by_cases h1 : a = 1 ∧ b = 0
      · have HF : Hid (r = false) := by unfold Hid; rw [HRR.out]; exact allB_no (by omega) (by omega)
        obtain ⟨rfl, rfl⟩ := h1
        clear ha hb hk2 hy2
        go_wp2
        go_ret
        exact ⟨ret_bool (by rw [HF.out]), rfl⟩
      · have HN : Hid (r = allB y2 k2) := by unfold Hid; rw [HRR.out, allB_next (by omega), ← hk2, ← hy2]
        have hkl : k2 < k := by omega
        have hyl : y2 < 18446744073709551616 := by omega
        rcases (show a = 0 ∨ (a = 1 ∧ b = 1) by omega) with rfl | ⟨rfl, rfl⟩
        all_goals
          clear ha hb hk2 hy2 h1
          go_wp2
          go_round
          case rel => exact ⟨y2, k2, rfl, rfl, hyl, by omega, HN.out⟩
          case measure => simp [intOf]; omega

set_option maxRecDepth 100000 in
set_option maxHeartbeats 2000000 in
theorem first14_any (p k mn mx d : Nat) (l : List UInt8) (w : World) (A : Option Addr) (n c : Nat) (h : By w A n c l) (hn : n ≤ 1000000) (h0 : 0 < n) (hp : p < 18446744073709551616) (hk : k < 18446744073709551616) (hd : Deg p d) (hd53 : d ≤ 53) (hmn : 1 ≤ mn) (hmx : mn ≤ mx) (hmx2 : mx ≤ 4096) :
    Calls Try.prog 22 #[.agg (cutC p k mn mx).toArray, .slice A n c] w fun e w' => e = .returned (.int .i64 (cutF p d k mn mx l : Nat)) ∧ Below w.heap.size w w' := by
  obtain ⟨V, hV⟩ : ∃ V, V = cutF p d k mn mx l := ⟨_, rfl⟩
  rw [← hV]
  have HV : Hid (fstN (cutP p d k mn mx l) l.length 1 = V) := hV.symm
  have HNL := Lib.hid h.len
  have HD := Lib.hid hd
  obtain ⟨W0, HW0, b0, hb0, hsz0⟩ := put_f w (cutC p k mn mx) 24
  have y0 := h.nx hb0
  clear hV hd h hsz0
  go_enter Try.func22, Try.ntmps22
  go_wp2_with (first
    | (refine wpList_box_agg rfl 24 _ rfl (cutC p k mn mx) rfl ?_; rw [HW0.out])
    | fail)
  go_loopw [5] (fun t wr => ∃ j : Nat, 1 ≤ j ∧ j ≤ n ∧ t = .int .i64 (j : Int) ∧ fstN (cutP p d k mn mx l) l.length j = V ∧ Bl wr w.heap.size (cutC p k mn mx) 24 ∧ By wr A n c l ∧ Below w.heap.size w wr) (fun t _ => n - (intOf t).toNat)
  case atStart => exact ⟨1, Nat.le_refl _, h0, rfl, HV.out, b0, y0, hb0⟩
  case round =>
    clear b0 y0 hb0
    obtain ⟨j, hj1, hjn, rfl, hfst, b, y, hb⟩ := hrel
    by_cases hlt : j < n
    · have hjl : j < l.length := by rw [← HNL.out]; exact hlt
      have c1 : wr.cell? ⟨w.heap.size, 3, none⟩ = some (.int .i64 (mx : Int)) := b.cell 3
      have c2 : wr.cell? ⟨w.heap.size, 2, none⟩ = some (.int .i64 (mn : Int)) := b.cell 2
      by_cases hjm : j = mx
      · have HVV : Hid (V = j) := by
          unfold Hid
          rw [← hfst]
          exact fstN_yes hjl (by unfold cutP; rw [decide_eq_true hjm]; rfl)
        subst hjm
        clear hfst
        go_wp2
        go_quiet (fail)
        obtain ⟨W3, hW3⟩ : ∃ W, W = wr.drewN nq := ⟨_, rfl⟩
        replace hb : Below w.heap.size w (wr.drewN nq) := hb.trans (Drew.below ⟨_, rfl⟩ _)
        rw [← hW3] at hb ⊢
        go_wp2
        go_ret
        exact ⟨ret_int (by rw [HVV.out]), hb⟩
      · have hjne : ((j : Int) == (mx : Int)) = false := by simp; omega
        by_cases hjmn : j < mn
        · have HNX : Hid (fstN (cutP p d k mn mx l) l.length (j + 1) = V) := by
            unfold Hid
            rw [← hfst, fstN_no hjl (by unfold cutP; rw [decide_eq_false hjm, decide_eq_false (by omega)]; rfl)]
          have q1 : ¬ (mn : Int) ≤ (j : Int) := by omega
          have q2 : decide (mn ≤ j) = false := decide_eq_false (by omega)
          clear hfst hjm
          go_wp2
          go_quiet (fail)
          obtain ⟨W3, hW3⟩ : ∃ W, W = wr.drewN nq := ⟨_, rfl⟩
          replace hb : Below w.heap.size w (wr.drewN nq) := hb.trans (Drew.below ⟨_, rfl⟩ _)
          replace b := b.drewN nq
          replace y : By (wr.drewN nq) A n c l := y.nx (Drew.below ⟨_, rfl⟩ _)
          rw [← hW3] at hb b y ⊢
          clear hW3 c1 c2
          go_wp2
          go_roundw
          case rel => exact ⟨j + 1, by omega, by omega, by go_num, HNX.out, b, y, hb⟩
          case measure => simp [intOf]; omega
        · have q1 : (mn : Int) ≤ (j : Int) := by omega
          have q2 : decide (mn ≤ j) = true := decide_eq_true (by omega)
          obtain ⟨r, hr⟩ : ∃ r, r = allB (fpr p d (l.take j)) k := ⟨_, rfl⟩
          have HP : Hid (cutP p d k mn mx l j = r) := by unfold Hid cutP; rw [decide_eq_false hjm, decide_eq_true (show mn ≤ j by omega), hr]; rfl
          have HRR := Lib.hid hr
          have HF := Lib.hid hfst
          obtain ⟨x, hx⟩ : ∃ x, x = fpr p d (l.take j) := ⟨_, rfl⟩
          have HX : Hid (fpr p d (l.take j) = x) := hx.symm
          have hxl : x < 18446744073709551616 := by rw [hx]; exact pow_lt64 (pr_lt HD.out _) (by omega)
          rw [← hx] at HRR
          clear hr hfst hx hjm
          obtain ⟨S, hSd⟩ : ∃ S : World → Prop, S = fun w' => Bl w' w.heap.size (cutC p k mn mx) 24 := ⟨_, rfl⟩
          have HSI : Hid (∀ w', Bl w' w.heap.size (cutC p k mn mx) 24 → S w') := by unfold Hid; intro w' h; rw [hSd]; exact h
          have HS0 : Hid (∀ w', S w' → w'.cell? ⟨w.heap.size, 0, none⟩ = some (.int .u64 (p : Int))) := by unfold Hid; intro w' h; rw [hSd] at h; exact h.cell 0
          have HS1 : Hid (∀ w', S w' → w'.cell? ⟨w.heap.size, 1, none⟩ = some (.int .u64 (k : Int))) := by unfold Hid; intro w' h; rw [hSd] at h; exact h.cell 1
          have HS2 : Hid (∀ w', S w' → w'.cell? ⟨w.heap.size, 2, none⟩ = some (.int .i64 (mn : Int))) := by unfold Hid; intro w' h; rw [hSd] at h; exact h.cell 2
          have HS3 : Hid (∀ w', S w' → w'.cell? ⟨w.heap.size, 3, none⟩ = some (.int .i64 (mx : Int))) := by unfold Hid; intro w' h; rw [hSd] at h; exact h.cell 3
          clear hSd c1 c2
          go_wp2_with fail
          obtain ⟨w1, hw1⟩ : ∃ W', W' = wr.drew := ⟨_, rfl⟩
          have hbn : Below wr.heap.size wr w1 := by rw [hw1]; exact (Below.refl _ wr).drew
          replace b := b.next hbn
          replace y := y.nx hbn
          replace hb := next hb hbn
          clear hbn
          have hS := HSI.out _ b
          refine wp_region_held_drew (S := S) (by kernel_rfl) (by rw [← hw1]; exact hS) (fun _ => ?_)
          rw [← hw1]
          clear hw1
          refine wpAnyH_take (i := 0) (v := (.int .i64 (j : Int))) rfl (by kernel_rfl) (by kernel_rfl) (by kernel_rfl) (fun _ _ _ h => h) (Or.inl ⟨by rfl, fun _ hSw => by go_simp⟩) hS ?_
          simp only [List.getElem_toArray, List.getElem_cons_succ, List.getElem_cons_zero, Act.put, List.setIfInBounds_toArray, List.set_cons_zero, List.set_cons_succ]
          refine wpAnyH_take (i := 1) (v := (.pointer (some ⟨w.heap.size, 3, none⟩))) rfl (by kernel_rfl) (by kernel_rfl) (by kernel_rfl) (fun _ _ _ h => h) (Or.inl ⟨by rfl, fun _ hSw => by go_simp⟩) hS ?_
          simp only [List.getElem_toArray, List.getElem_cons_succ, List.getElem_cons_zero, Act.put, List.setIfInBounds_toArray, List.set_cons_zero, List.set_cons_succ]
          refine wpAnyH_take (i := 2) (v := (.int .i64 (mx : Int))) rfl (by kernel_rfl) (by kernel_rfl) (by kernel_rfl) (fun _ _ _ h => h) (Or.inl ⟨by rfl, fun w' hSw => by have hq := HS3.out w' hSw; go_simp⟩) hS ?_
          simp only [List.getElem_toArray, List.getElem_cons_succ, List.getElem_cons_zero, Act.put, List.setIfInBounds_toArray, List.set_cons_zero, List.set_cons_succ]
          refine wpAnyH_take (i := 3) (v := (.bool false)) rfl (by kernel_rfl) (by kernel_rfl) (by kernel_rfl) (fun _ _ _ h => h) (Or.inl ⟨by rfl, fun _ hSw => by go_simp⟩) hS ?_
          simp only [List.getElem_toArray, List.getElem_cons_succ, List.getElem_cons_zero, Act.put, List.setIfInBounds_toArray, List.set_cons_zero, List.set_cons_succ]
          refine wpAnyH_take (i := 4) (v := (.bool false)) rfl (by kernel_rfl) (by kernel_rfl) (by kernel_rfl) (fun _ _ _ h => h) (Or.inl ⟨by rfl, fun _ hSw => by go_simp⟩) hS ?_
          simp only [List.getElem_toArray, List.getElem_cons_succ, List.getElem_cons_zero, Act.put, List.setIfInBounds_toArray, List.set_cons_zero, List.set_cons_succ]
          refine wpAnyH_take (i := 5) (v := (.int .i64 (j : Int))) rfl (by kernel_rfl) (by kernel_rfl) (by kernel_rfl) (fun _ _ _ h => h) (Or.inl ⟨by rfl, fun _ hSw => by go_simp⟩) hS ?_
          simp only [List.getElem_toArray, List.getElem_cons_succ, List.getElem_cons_zero, Act.put, List.setIfInBounds_toArray, List.set_cons_zero, List.set_cons_succ]
          refine wpAnyH_take (i := 6) (v := (.pointer (some ⟨w.heap.size, 2, none⟩))) rfl (by kernel_rfl) (by kernel_rfl) (by kernel_rfl) (fun _ _ _ h => h) (Or.inl ⟨by rfl, fun _ hSw => by go_simp⟩) hS ?_
          simp only [List.getElem_toArray, List.getElem_cons_succ, List.getElem_cons_zero, Act.put, List.setIfInBounds_toArray, List.set_cons_zero, List.set_cons_succ]
          refine wpAnyH_take (i := 7) (v := (.int .i64 (mn : Int))) rfl (by kernel_rfl) (by kernel_rfl) (by kernel_rfl) (fun _ _ _ h => h) (Or.inl ⟨by rfl, fun w' hSw => by have hq := HS2.out w' hSw; go_simp⟩) hS ?_
          simp only [List.getElem_toArray, List.getElem_cons_succ, List.getElem_cons_zero, Act.put, List.setIfInBounds_toArray, List.set_cons_zero, List.set_cons_succ]
          refine wpAnyH_take (i := 8) (v := (.bool true)) rfl (by kernel_rfl) (by kernel_rfl) (by kernel_rfl) (fun _ _ _ h => h) (Or.inl ⟨by rfl, fun _ hSw => by go_simp⟩) hS ?_
          simp only [List.getElem_toArray, List.getElem_cons_succ, List.getElem_cons_zero, Act.put, List.setIfInBounds_toArray, List.set_cons_zero, List.set_cons_succ]
          refine wpAnyH_take (i := 9) (v := (.bool true)) rfl (by kernel_rfl) (by kernel_rfl) (by kernel_rfl) (fun _ _ _ h => h) (Or.inl ⟨by rfl, fun _ hSw => by go_simp⟩) hS ?_
          simp only [List.getElem_toArray, List.getElem_cons_succ, List.getElem_cons_zero, Act.put, List.setIfInBounds_toArray, List.set_cons_zero, List.set_cons_succ]
          refine wpAnyH_take (i := 10) (v := (.pointer (some ⟨w.heap.size, 0, none⟩))) rfl (by kernel_rfl) (by kernel_rfl) (by kernel_rfl) (fun _ _ _ h => h) (Or.inl ⟨by rfl, fun _ hSw => by go_simp⟩) hS ?_
          simp only [List.getElem_toArray, List.getElem_cons_succ, List.getElem_cons_zero, Act.put, List.setIfInBounds_toArray, List.set_cons_zero, List.set_cons_succ]
          refine wpAnyH_take (i := 11) (v := (.int .u64 (p : Int))) rfl (by kernel_rfl) (by kernel_rfl) (by kernel_rfl) (fun _ _ _ h => h) (Or.inl ⟨by rfl, fun w' hSw => by have hq := HS0.out w' hSw; go_simp⟩) hS ?_
          simp only [List.getElem_toArray, List.getElem_cons_succ, List.getElem_cons_zero, Act.put, List.setIfInBounds_toArray, List.set_cons_zero, List.set_cons_succ]
          refine wpAnyH_take (i := 12) (v := (.slice A n c)) rfl (by kernel_rfl) (by kernel_rfl) (by kernel_rfl) (fun _ _ _ h => h) (Or.inl ⟨by rfl, fun _ hSw => by go_simp⟩) hS ?_
          simp only [List.getElem_toArray, List.getElem_cons_succ, List.getElem_cons_zero, Act.put, List.setIfInBounds_toArray, List.set_cons_zero, List.set_cons_succ]
          refine wpAnyH_take (i := 13) (v := (.int .i64 (j : Int))) rfl (by kernel_rfl) (by kernel_rfl) (by kernel_rfl) (fun _ _ _ h => h) (Or.inl ⟨by rfl, fun _ hSw => by go_simp⟩) hS ?_
          simp only [List.getElem_toArray, List.getElem_cons_succ, List.getElem_cons_zero, Act.put, List.setIfInBounds_toArray, List.set_cons_zero, List.set_cons_succ]
          refine wpAnyH_take (i := 14) (v := .slice A j c) rfl (by kernel_rfl) (by kernel_rfl) (by kernel_rfl) (fun _ _ _ h => h) (Or.inl ⟨by rfl, fun w' _ => exec_slice_to w' 25 5 _ _ rfl Try.underlying25 u8_size A n c j .i64 _ rfl rfl rfl (by have := y.cap; omega) y.none_⟩) hS ?_
          simp only [List.getElem_toArray, List.getElem_cons_succ, List.getElem_cons_zero, Act.put, List.setIfInBounds_toArray, List.set_cons_zero, List.set_cons_succ]
          refine wpAnyH_take (i := 16) (v := (.pointer (some ⟨w.heap.size, 1, none⟩))) rfl (by kernel_rfl) (by kernel_rfl) (by kernel_rfl) (fun _ _ _ h => h) (Or.inl ⟨by rfl, fun _ hSw => by go_simp⟩) hS ?_
          simp only [List.getElem_toArray, List.getElem_cons_succ, List.getElem_cons_zero, Act.put, List.setIfInBounds_toArray, List.set_cons_zero, List.set_cons_succ]
          refine wpAnyH_take (i := 17) (v := (.int .u64 (k : Int))) rfl (by kernel_rfl) (by kernel_rfl) (by kernel_rfl) (fun _ _ _ h => h) (Or.inl ⟨by rfl, fun w' hSw => by have hq := HS1.out w' hSw; go_simp⟩) hS ?_
          simp only [List.getElem_toArray, List.getElem_cons_succ, List.getElem_cons_zero, Act.put, List.setIfInBounds_toArray, List.set_cons_zero, List.set_cons_succ]
          have ys := sl_take (h := j) y.sl (by omega)
          rw [show (cb l).take j = cb (l.take j) by simp [cb]] at ys
          refine wpAnyH_ready (rs := [15]) (by kernel_rfl) (by simp) (AllReadyH.cons rfl (fun K hK => ?_) AllReadyH.nil)
          simp only [List.getElem_toArray, List.getElem_cons_succ, List.getElem_cons_zero, Act.put, List.setIfInBounds_toArray, List.set_cons_zero, List.set_cons_succ]
          go_simp
          refine (rof13_any p (l.take j) w1 _ A j c d ys (Nat.le_refl _) (by omega) hp HD.out hd53).mono ?_
          rw [HX.out]
          rintro e w2 ⟨rfl, hbn⟩
          replace b := b.next hbn
          replace y := y.nx hbn
          replace hb := next hb hbn
          clear hbn ys
          replace hS := HSI.out _ b
          refine hK.out _ _ hS (fun _ => ?_)
          clear hK K
          refine wpAnyH_ready (rs := [18]) (by kernel_rfl) (by simp) (AllReadyH.cons rfl (fun K hK => ?_) AllReadyH.nil)
          simp only [List.getElem_toArray, List.getElem_cons_succ, List.getElem_cons_zero, Act.put, List.setIfInBounds_toArray, List.set_cons_zero, List.set_cons_succ]
          go_simp
          refine (all14_any x k w2 hxl hk).mono ?_
          rw [← HRR.out]
          rintro e w3 ⟨rfl, rfl⟩
          refine hK.out _ _ hS (fun _ => ?_)
          clear hK K
          refine wpAnyH_take (i := 19) (v := (.bool r)) rfl (by kernel_rfl) (by kernel_rfl) (by kernel_rfl) (fun _ _ _ h => h) (Or.inl ⟨by rfl, fun _ hSw => by go_simp⟩) hS ?_
          simp only [List.getElem_toArray, List.getElem_cons_succ, List.getElem_cons_zero, Act.put, List.setIfInBounds_toArray, List.set_cons_zero, List.set_cons_succ]
          refine wpAnyH_take (i := 20) (v := (.bool r)) rfl (by kernel_rfl) (by kernel_rfl) (by kernel_rfl) (fun _ _ _ h => h) (Or.inl ⟨by rfl, fun _ hSw => by go_simp⟩) hS ?_
          simp only [List.getElem_toArray, List.getElem_cons_succ, List.getElem_cons_zero, Act.put, List.setIfInBounds_toArray, List.set_cons_zero, List.set_cons_succ]
          refine wpAnyH_done (by kernel_rfl) ?_ _
          clear hS HSI HS0 HS1 HS2 HS3
          cases r with
          | true =>
            have HVV : Hid (V = j) := by unfold Hid; rw [← HF.out]; exact fstN_yes hjl HP.out
            go_wp2
            go_ret
            exact ⟨ret_int (by rw [HVV.out]), hb⟩
          | false =>
            have HNX : Hid (fstN (cutP p d k mn mx l) l.length (j + 1) = V) := by unfold Hid; rw [← HF.out, fstN_no hjl HP.out]
            go_wp2
            go_roundw
            case rel => exact ⟨j + 1, by omega, by omega, by go_num, HNX.out, b, y, hb⟩
            case measure => simp [intOf]; omega
    · have hjn2 : j = n := by omega
      have HVV : Hid (V = n) := by unfold Hid; rw [← hfst, hjn2, fstN_end (by rw [← HNL.out]; exact Nat.le_refl _), HNL.out]
      have q1 : ¬ (j : Int) < (n : Int) := by omega
      clear hfst hjn2
      go_wp2
      go_ret
      exact ⟨ret_int (by rw [HVV.out]), hb⟩

theorem cutL_sum (m d mask mn mx : Nat) (l : List UInt8) : (cutL m d mask mn mx l).length ≤ l.length := by
  induction hn : l.length using Nat.strongRecOn generalizing l with
  | ind n ih =>
    rcases Nat.eq_zero_or_pos l.length with h | h
    · rw [List.eq_nil_of_length_eq_zero h, cutL_nil]; simp
    · have hf := cutF_le m d mask mn mx h
      rw [cutL_step _ _ _ _ _ h, List.length_cons]
      have := ih (l.drop (cutF m d mask mn mx l)).length (by rw [List.length_drop]; omega) _ rfl
      rw [List.length_drop] at this
      omega

set_option maxRecDepth 100000 in
set_option maxHeartbeats 2000000 in
theorem lengths14_any (p k mn mx d : Nat) (l : List UInt8) (w : World) (A : Option Addr) (n c : Nat) (h : By w A n c l) (hn : n ≤ 1000000) (hp : p < 18446744073709551616) (hk : k < 18446744073709551616) (hd : Deg p d) (hd53 : d ≤ 53) (hmn : 1 ≤ mn) (hmx : mn ≤ mx) (hmx2 : mx ≤ 4096) :
    Calls Try.prog 14 #[.agg (cutC p k mn mx).toArray, .slice A n c] w (RetRow 3 w (cutL p d k mn mx l).length (is (cutL p d k mn mx l))) := by
  obtain ⟨i0, hi, hz0, hz1, hz2⟩ := info_parts int_inf
  obtain ⟨V, hV⟩ : ∃ V, V = cutL p d k mn mx l := ⟨_, rfl⟩
  have hVl : V.length ≤ 1000000 := by rw [hV]; have := cutL_sum p d k mn mx l; have := h.len; omega
  rw [← hV]
  have HV : Hid (cutL p d k mn mx l = V) := hV.symm
  have HD := Lib.hid hd
  obtain ⟨W0, HW0, b0, hb0, hsz0⟩ := put_f w (cutC p k mn mx) 24
  have y0 := h.nx hb0
  have hle : w.heap.size ≤ W0.heap.size := hb0.size
  clear hV hd h hsz0
  go_enter Try.func14, Try.ntmps14
  go_wp2_with (first
    | (refine wpList_box_agg rfl 24 _ rfl (cutC p k mn mx) rfl ?_; rw [HW0.out])
    | fail)
  go_loopw [1, 5] (fun s v wr => ∃ (o : List UInt8) (A1 : Option Addr) (n1 c1 q : Nat) (z : List Nat), s = .slice A1 n1 c1 ∧ n1 ≤ n ∧ z.length = q ∧ z ++ cutL p d k mn mx o = V ∧ By W0 A1 n1 c1 o ∧ wr.ownsRow W0.heap.size 3 1 v q (is z) ∧ Below W0.heap.size W0 wr) (fun s _ _ => match s with | .slice _ n _ => n | _ => 0)
  case atStart => exact ⟨l, A, n, c, 0, [], rfl, Nat.le_refl _, rfl, by rw [HV.out]; rfl, y0, World.ownsRow_nil _ _ _ _, Below.refl _ _⟩
  case round =>
    clear y0
    obtain ⟨o, A1, n1, c1, q, z, rfl, hn1, hzl, hzV, y, hown, hb⟩ := hrel
    rcases Nat.eq_zero_or_pos n1 with h0 | h0
    · subst h0
      have ho : o = [] := List.eq_nil_of_length_eq_zero y.len.symm
      subst ho
      rw [cutL_nil, List.append_nil] at hzV
      have HZ := Lib.hid hzV
      have HZL := Lib.hid hzl
      clear hzV hzl
      go_wp2
      go_ret
      exact retRow (by rw [← HZL.out, HZ.out]) (by rw [HZ.out]) (own_down hown hle) (next hb0 hb)
    · have h0l : 0 < o.length := by rw [← y.len]; exact h0
      have hf := cutF_le p d k mn mx h0l
      obtain ⟨f, hff⟩ : ∃ f, f = cutF p d k mn mx o := ⟨_, rfl⟩
      have hst := cutL_step p d k mn mx h0l
      rw [← hff] at hst hf
      rw [← y.len] at hf
      obtain ⟨hf1, hf2⟩ := hf
      rw [hst] at hzV
      have HZ : Hid (z ++ [f] ++ cutL p d k mn mx (o.drop f) = V) := by unfold Hid; rw [List.append_assoc]; exact hzV
      have hqV : q < V.length := by
        have h1 := congrArg List.length hzV
        simp only [List.length_append, List.length_cons] at h1
        omega
      have HFF : Hid (cutF p d k mn mx o = f) := hff.symm
      have HZL := Lib.hid hzl
      have wh := (b0.next hb).whole
      clear hst hzV hff hzl h0l
      go_wp2_with (first
        | (refine wpList_load_mid rfl 24 _ rfl _ _ rfl (cutC p k mn mx) _ wh Try.underlying24 rfl size_cut ?_)
        | fail)
      refine (first14_any p k mn mx d o wr A1 n1 c1 (y.nx hb) (by omega) h0 hp hk HD.out hd53 hmn hmx hmx2).mono ?_
      rw [HFF.out]
      rintro e w2 ⟨rfl, hbn⟩
      replace hown := own_below hown hbn
      replace hb := next hb hbn
      clear hbn wh
      have hsz := hb.size
      have ycut := fun A' hA => By.cut (A' := A') (k := f) y hf2 hA
      have YC := Lib.hid ycut
      have yc := y.cap
      have yn := y.none_
      clear ycut
      go_wp2_with (at_builtin; refine wpList_append_own_at _ rfl _ _ 28 rfl W0.heap.size 3 i0 (.int .i64 0) 1 8 Try.underlying28 hi hz0 hz1 hz2 rfl (by decide) _ _ _ rfl (hown.alloc _) ⟨w2.heap.size, 0, none⟩ 1 1 _ rfl rfl (cell_one_new _ _ _) (by simp [Value.oneCell']) (by unfold maxLen; omega) (by omega) (by simp; omega) ?_; intro v' w3 hown' hgrow hnil hat)
      have hb3 := below_app1 hb (Nat.le_refl _) hown hgrow
      have hq : q + 1 = (z ++ [f]).length := by rw [List.length_append, HZL.out]; rfl
      refine ⟨⟨o.drop f, _, n1 - f, c1 - f, q + 1, z ++ [f], rfl, by omega, hq.symm, HZ.out, YC.out _ rfl, by rw [is_append]; exact hown', hb3⟩, ?_⟩
      show n1 - f < n1
      omega

set_option maxHeartbeats 1000000 in
theorem same14_any (a b : List Nat) (r : Bool) (hr : r = decide (a = b)) (w : World) (B B' : Nat) (A A' : Option Addr) (n m c c' : Nat) (ha : Sl w B A n (is a)) (hb : Sl w B' A' m (is b)) (hB : B ≤ w.heap.size) (hB' : B' ≤ w.heap.size) (hn : n ≤ 1000000) (hm : m ≤ 1000000) :
    Calls Try.prog 13 #[.slice A n c, .slice A' m c'] w fun e w' => e = .returned (.bool r) ∧ Below w.heap.size w w' := by
  have hnl : n = a.length := by rw [← ha.1, is_len]
  have hml : m = b.length := by rw [← hb.1, is_len]
  have HR := Lib.hid hr
  by_cases hne : n = m
  · subst hne
    have HAL := Lib.hid hnl
    have HBL := Lib.hid hml
    have HA := Lib.hid ha
    have HB := Lib.hid hb
    clear ha hb hr hnl hml
    go_enter Try.func13, Try.ntmps13
    go_wp2
    go_loopw [5] (fun t wr => ∃ j : Nat, j ≤ n ∧ t = .int .i64 (j : Int) ∧ a.take j = b.take j ∧ Below w.heap.size w wr) (fun t _ => n - (intOf t).toNat)
    case atStart => exact ⟨0, Nat.zero_le _, rfl, rfl, Below.refl _ _⟩
    case round =>
      obtain ⟨j, hj, rfl, heq, hbw⟩ := hrel
      by_cases hlt : j < n
      · obtain ⟨ad, rfl, hab, hac⟩ := HA.out.2 (by omega)
        obtain ⟨ad2, rfl, hab2, hac2⟩ := HB.out.2 (by omega)
        have hja : j < a.length := by have := HAL.out; omega
        have hjb : j < b.length := by have := HBL.out; omega
        obtain ⟨x, hx⟩ : ∃ x, x = a[j] := ⟨_, rfl⟩
        obtain ⟨y, hy⟩ : ∃ y, y = b[j] := ⟨_, rfl⟩
        have c1 : wr.cell? (ad.add j) = some (.int .i64 (x : Int)) := (hbw.cell (by rw [add_block]; omega)).trans (by rw [hac j _ (is_at hja), hx])
        have c2 : wr.cell? (ad2.add j) = some (.int .i64 (y : Int)) := (hbw.cell (by rw [add_block]; omega)).trans (by rw [hac2 j _ (is_at hjb), hy])
        have j0 : (0 : Int) ≤ (j : Int) := by omega
        have j1 : (j : Int) < (n : Int) := by omega
        by_cases hxy : x = y
        · have HNX : Hid (a.take (j + 1) = b.take (j + 1)) := by
            unfold Hid
            rw [List.take_succ_eq_append_getElem hja, List.take_succ_eq_append_getElem hjb, heq, ← hx, ← hy, hxy]
          subst hxy
          clear hac hac2 hx hy heq hja hjb
          go_wp2
          go_quiet (fail)
          obtain ⟨W3, hW3⟩ : ∃ W, W = wr.drewN nq := ⟨_, rfl⟩
          replace hbw : Below w.heap.size w (wr.drewN nq) := hbw.trans (Drew.below ⟨_, rfl⟩ _)
          rw [← hW3] at hbw ⊢
          clear hW3 c1 c2
          go_wp2
          go_roundw
          case rel => exact ⟨j + 1, by omega, by go_num, HNX.out, hbw⟩
          case measure => simp [intOf]; omega
        · have HF : Hid (r = false) := by
            unfold Hid
            rw [HR.out]
            refine decide_eq_false fun e => hxy ?_
            rw [hx, hy]
            simp only [e]
          have q3 : ((x : Int) != (y : Int)) = true := by simp; omega
          clear hac hac2 hx hy heq hja hjb
          go_wp2
          go_quiet (fail)
          obtain ⟨W3, hW3⟩ : ∃ W, W = wr.drewN nq := ⟨_, rfl⟩
          replace hbw : Below w.heap.size w (wr.drewN nq) := hbw.trans (Drew.below ⟨_, rfl⟩ _)
          rw [← hW3] at hbw ⊢
          clear hW3 c1 c2
          go_wp2
          go_ret
          exact ⟨ret_bool (by rw [HF.out]), hbw⟩
      · have HT : Hid (r = true) := by
          unfold Hid
          rw [HR.out]
          refine decide_eq_true ?_
          rwa [List.take_of_length_le (by have := HAL.out; omega), List.take_of_length_le (by have := HBL.out; omega)] at heq
        have q4 : ¬ (j : Int) < (n : Int) := by omega
        clear heq
        go_wp2
        go_ret
        exact ⟨ret_bool (by rw [HT.out]), hbw⟩
  · have HF : Hid (r = false) := by
      unfold Hid
      rw [HR.out]
      refine decide_eq_false fun e => hne ?_
      rw [hnl, hml, e]
    have q1 : ((n : Int) != (m : Int)) = true := by simp; omega
    clear hnl hml hr
    go_enter Try.func13, Try.ntmps13
    go_wp2
    go_ret
    exact ⟨ret_bool (by rw [HF.out]), Below.refl _ _⟩

set_option maxHeartbeats 1000000 in
theorem rright14_any (p k : Nat) (mn mx : Int) (w : World) (hp : p < 18446744073709551616) :
    Calls Try.prog 12 #[.agg (cutC p k mn mx).toArray] w fun e w' => e = .returned (.bool (cutOk p mn mx)) ∧ Below w.heap.size w w' := by
  obtain ⟨W0, HW0, b0, hb0, hsz0⟩ := put_f w (cutC p k mn mx) 24
  have HR := Lib.hid (rright13_any p W0 hp)
  have HC : Hid (cutOk p mn mx = (rolOk p && decide (1 ≤ mn) && decide (mn ≤ mx) && decide (mx ≤ 4096))) := rfl
  obtain ⟨r, hr⟩ : ∃ r, r = rolOk p := ⟨_, rfl⟩
  rw [← hr] at HR HC
  rw [HC.out]
  have c0 : W0.cell? ⟨w.heap.size, 0, none⟩ = some (.int .u64 (p : Int)) := b0.cell 0
  have c2 : W0.cell? ⟨w.heap.size, 2, none⟩ = some (.int .i64 mn) := b0.cell 2
  have c3 : W0.cell? ⟨w.heap.size, 3, none⟩ = some (.int .i64 mx) := b0.cell 3
  clear hr HC hsz0
  go_enter Try.func12, Try.ntmps12
  go_wp2_with (first
    | (refine wpList_box_agg rfl 24 _ rfl (cutC p k mn mx) rfl ?_; rw [HW0.out])
    | (go_at_call 21; refine HR.out.mono ?_; rintro e w1 ⟨rfl, rfl⟩)
    | fail)
  all_goals go_ret
  all_goals refine ⟨ret_bool ?_, hb0⟩
  all_goals first | (simp [*]; done) | (simp_all; done) | (simp_all; omega)

end Go.Proofs.Ytkopdkamhkmefaa
