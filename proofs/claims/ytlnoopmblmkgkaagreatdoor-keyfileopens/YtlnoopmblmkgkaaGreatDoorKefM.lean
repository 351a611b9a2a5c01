/- Layer 11, keyfile, the document's: Text. -/
import Derived.Test.YtlnoopmblmkgkaaGreatDoorKefG
import Derived.Test.YtlnoopmblmkgkaaGreatDoorLJ
import Derived.OrdersHeld
namespace Go.Proofs.YtlnoopmblmkgkaaGreatDoor
set_option maxRecDepth 100000
open Go Go.RowKit
set_option linter.unusedVariables false
set_option linter.unusedSimpArgs false

theorem rowT_zero (m : RM) (e : Nat) : rowT (m.take 0) e = [] := rfl
theorem rowT_all (m : RM) (e : Nat) : rowT (m.take m.length) e = rowT m e := by rw [List.take_length]
theorem rowT_len {m : RM} (ok : RingOk m) (e k : Nat) : (rowT (m.take k) e).length ≤ 33 * k := by
  induction k with
  | zero => simp [rowT]
  | succ k ih =>
    by_cases hk : k < m.length
    · rw [rowT_succ m e k hk, List.length_append]
      have := (ok.each _ (List.getElem_mem hk)).2.2
      split
      · simp only [List.length_cons]; omega
      · simp; omega
    · rw [List.take_of_length_le (by omega)] at ih ⊢
      omega
theorem outT_le {m : RM} (ok : RingOk m) (k : Nat) : (outT m k).length ≤ 33 * m.length * k := by
  induction k with
  | zero => simp [outT]
  | succ k ih =>
    rw [outT_succ, List.length_append]
    have h := rowT_len ok (k + 1) m.length
    rw [rowT_all] at h
    have : 33 * m.length * (k + 1) = 33 * m.length * k + 33 * m.length := by rw [Nat.mul_add, Nat.mul_one]
    omega

theorem outT_few {m : RM} (ok : RingOk m) {k : Nat} (hk : k ≤ 64) : (outT m k).length ≤ 135168 := by
  refine Nat.le_trans (outT_le ok k) ?_
  have h1 : 33 * m.length ≤ 33 * 64 := Nat.mul_le_mul_left _ (ring_le ok)
  exact Nat.mul_le_mul h1 hk
theorem rowT_few {m : RM} (ok : RingOk m) (e j : Nat) (hj : j ≤ m.length) : (rowT (m.take j) e).length ≤ 2112 := by
  have h1 := rowT_len ok e j
  have h2 := ring_le ok
  omega

set_option maxHeartbeats 4000000 in
theorem rtext_any11 (m : RM) (ok : RingOk m) (w : World) (A : Option Addr) (n c : Nat) (h : Rr w w.heap.size A n c m) :
    Calls Tryz.prog 38 #[.agg #[.slice A n c]] w (RetBytes 5 w (textR m).length (textR m)) := by
  obtain ⟨i0, hi, hz0, hz1, hz2⟩ := info_parts u8_info
  have hm64 := ring_le ok
  have HALL : Hid (outT m 64 = textR m) := outT_all ok
  have b0 := Bl.newA w #[.slice A n c] 30
  have hb0 : Below w.heap.size w (w.alloc (.cells #[.slice A n c] 30)) := (Below.refl _ w).alloc (Nat.le_refl _) _
  obtain ⟨W0, hW0⟩ : ∃ W, W = w.alloc (.cells #[.slice A n c] 30) := ⟨_, rfl⟩
  rw [← hW0] at b0 hb0
  have HW0 : Hid (w.alloc (.cells #[.slice A n c] 30) = W0) := hW0.symm
  obtain ⟨rfl, hnc, hA, xs, hs, h1, hx⟩ := h.next (Nat.le_refl _) hb0
  have HX := Lib.hid hx
  have HS := Lib.hid hs
  have hgl := b0.lt
  have HLEN : Hid (∀ k, k ≤ 64 → (outT m k).length ≤ 135168) := fun k hk => outT_few ok hk
  have HROW : Hid (∀ e j, j ≤ m.length → (rowT (m.take j) e).length ≤ 2112) := fun e j hj => rowT_few ok e j hj
  have HSUC := Lib.hid (fun k (hk : k < m.length) e => rowT_succ m e k hk)
  have HOS := Lib.hid (outT_succ m)
  have hok32 : ∀ k (hk : k < m.length), m[k].2.length = 32 := fun k hk => (ok.each _ (List.getElem_mem hk)).2.2
  have H32 := Lib.hid hok32
  clear hW0 hx hs h1 hok32 h
  go_enter Tryz.func38, Tryz.ntmps38
  go_wp2_with (rw [HW0.out])
  go_loopw [3, 4] (fun v i wr => ∃ k : Nat, k ≤ 64 ∧ i = .int .i64 ((k : Int) + 1) ∧ wr.ownsRow W0.heap.size 5 1 v (outT m k).length (cb (outT m k)) ∧ Below W0.heap.size W0 wr) (fun _ i _ => 65 - (Go.RowKit.intOf i).toNat)
  case atStart => exact ⟨0, by omega, rfl, World.ownsRow_nil _ _ _ _, Below.refl _ _⟩
  case round =>
    obtain ⟨k, hk, rfl, hown, hb⟩ := hrel
    by_cases hlt : k < 64
    · have hlt1 : (k : Int) + 1 ≤ 64 := by omega
      obtain ⟨L, hL⟩ : ∃ L, L = outT m k := ⟨_, rfl⟩
      have hLl := HLEN.out k hk
      rw [← hL] at hown hLl
      have HL := Lib.hid hL
      have HLl := Lib.hid hLl
      clear hL hLl
      obtain ⟨wq, hwq⟩ : ∃ x, x = wr := ⟨wr, rfl⟩
      subst hwq
      go_wp2
      go_loopw [3, 5] (fun v i wr => ∃ j : Nat, j ≤ m.length ∧ i = .int .i64 j ∧ wr.ownsRow W0.heap.size 5 1 v (L ++ rowT (m.take j) (k + 1)).length (cb (L ++ rowT (m.take j) (k + 1))) ∧ Below W0.heap.size W0 wr) (fun _ i _ => m.length - (Go.RowKit.intOf i).toNat)
      case atStart => exact ⟨0, by omega, rfl, by rw [rowT_zero, List.append_nil]; exact hown, hb⟩
      case round =>
        clear hown hb
        obtain ⟨j, hj, rfl, hown, hb⟩ := hrel
        have b1 := b0.next hb
        have q0 : wr.cell? ⟨w.heap.size, 0, none⟩ = some (.slice A m.length c) := b1.cell 0
        by_cases hjl : j < m.length
        · obtain ⟨x1, Ka, d, x2, hKa, hd⟩ := HX.out j hjl
          obtain ⟨ad, rfl, hadB, hcl⟩ := HS.out.2 (by omega)
          have hv1 : wr.cell? (ad.add (j * 2)) = some (.int .i64 (m[j].1 : Int)) := by rw [hb.cell (by rw [add_block]; omega)]; exact hcl _ _ x1
          have hv2 : wr.cell? ⟨(ad.add (j * 2)).block, (ad.add (j * 2)).off + 1, none⟩ = some (.slice Ka 32 d) := by
            have e1 : (⟨(ad.add (j * 2)).block, (ad.add (j * 2)).off + 1, none⟩ : Addr) = (ad.add (j * 2)).add 1 := by simp [Addr.add]
            rw [e1, add_add, hb.cell (by rw [add_block]; omega)]; exact hcl _ _ x2
          have hsq := HSUC.out j hjl (k + 1)
          by_cases he : m[j].1 = k + 1
          · have hq : ((m[j].1 : Int) == (k : Int) + 1) = true := by simp; omega
            rw [if_pos he] at hsq
            obtain ⟨P, hP⟩ : ∃ P, P = L ++ rowT (m.take j) (k + 1) := ⟨_, rfl⟩
            obtain ⟨l, hl⟩ : ∃ l, l = m[j].2 := ⟨_, rfl⟩
            have hl32 := H32.out j hjl
            rw [← hl] at hl32 hsq hKa
            rw [← hP] at hown
            have HR : Hid (L ++ rowT (m.take (j + 1)) (k + 1) = P ++ [UInt8.ofNat (k + 1)] ++ l) := by unfold Hid; rw [hsq, hP]; simp
            obtain ⟨N, hN⟩ : ∃ N, N = P.length := ⟨_, rfl⟩
            have hNb : N ≤ 137280 := by rw [hN, hP, List.length_append]; have h1 := HLl.out; have h2 := HROW.out (k + 1) j hj; omega
            have HRL : Hid ((L ++ rowT (m.take (j + 1)) (k + 1)).length = N + 1 + 32) := by unfold Hid; rw [HR.out, List.length_append, List.length_append, hl32, ← hN]; rfl
            rw [← hN] at hown
            obtain ⟨Xv, cv, rfl⟩ := own_form hown
            have HQ0 : Hid (∀ w', Below W0.heap.size W0 w' → w'.cell? ⟨w.heap.size, 0, none⟩ = some (.slice (some ad) m.length c)) := fun w' hb' => (hb'.cell hgl).trans (b0.cell 0)
            have hadB0 : (ad.add (j * 2)).block < W0.heap.size := by rw [add_block]; omega
            have hv20 := hv2
            have HQ2 : Hid (∀ w', Below W0.heap.size W0 w' → w'.cell? ⟨(ad.add (j * 2)).block, (ad.add (j * 2)).off + 1, none⟩ = some (.slice Ka 32 d)) := by
              unfold Hid
              intro w' hb'
              have e3 := hb.cell (p := ⟨(ad.add (j * 2)).block, (ad.add (j * 2)).off + 1, none⟩) hadB0
              have e4 := hb'.cell (p := ⟨(ad.add (j * 2)).block, (ad.add (j * 2)).off + 1, none⟩) hadB0
              rw [e4, ← e3]; exact hv20
            have HBY : Hid (((k : Int) + 1) = ((UInt8.ofNat (k + 1)).toNat : Int)) := by unfold Hid; simp; omega
            have hwb : IntKind.u8.wrap ((k : Int) + 1) = (k : Int) + 1 := by simp only [IntKind.wrap_u8]; omega
            have HWB := Lib.hid hwb
            have HKS := Lib.hid hKa
            obtain ⟨S, hSd⟩ : ∃ S : World → Prop, S = fun w' => Below W0.heap.size W0 w' := ⟨_, rfl⟩
            have HSI : Hid (∀ w', Below W0.heap.size W0 w' → S w') := by unfold Hid; intro w' h; rw [hSd]; exact h
            have HSO : Hid (∀ w', S w' → Below W0.heap.size W0 w') := by unfold Hid; intro w' h; rw [hSd] at h; exact h
            clear hsq hP hl hl32 he hN hwb hSd hKa x1 x2 hcl
            go_wp2_with fail
            obtain ⟨W2, hW2⟩ : ∃ W', W' = wr.drew := ⟨_, rfl⟩
            have hbd : Below wr.heap.size wr W2 := by rw [hW2]; exact (Below.refl _ wr).drew
            have hz := hb.size
            have hb2 : Below W0.heap.size W0 W2 := hb.trans (hbd.mono hz)
            have own2 := own_below hown hbd
            have hS := HSI.out _ hb2
            refine wp_region_held_drew (S := S) (by kernel_rfl) (by rw [← hW2]; exact hS) (fun _ => ?_)
            rw [← hW2]
            clear hW2 hbd q0 hv1 hv2 hv20
            refine wpAnyH_take (i := 0) (v := (.slice Xv N cv)) rfl (by kernel_rfl) (by kernel_rfl) (by kernel_rfl) (fun _ _ _ h => h) (Or.inl ⟨by rfl, fun _ hSw => by go_simp⟩) hS ?_
            simp only [List.getElem_toArray, List.getElem_cons_succ, List.getElem_cons_zero, Act.put, List.setIfInBounds_toArray, List.set_cons_zero, List.set_cons_succ]
            refine wpAnyH_take (i := 1) (v := (.int .i64 ((k : Int) + 1))) rfl (by kernel_rfl) (by kernel_rfl) (by kernel_rfl) (fun _ _ _ h => h) (Or.inl ⟨by rfl, fun _ hSw => by go_simp⟩) hS ?_
            simp only [List.getElem_toArray, List.getElem_cons_succ, List.getElem_cons_zero, Act.put, List.setIfInBounds_toArray, List.set_cons_zero, List.set_cons_succ]
            refine wpAnyH_take (i := 2) (v := (.int .u8 ((k : Int) + 1))) rfl (by kernel_rfl) (by kernel_rfl) (by kernel_rfl) (fun _ _ _ h => h) (Or.inl ⟨by rfl, fun _ hSw => by go_simp; exact HWB.out⟩) hS ?_
            simp only [List.getElem_toArray, List.getElem_cons_succ, List.getElem_cons_zero, Act.put, List.setIfInBounds_toArray, List.set_cons_zero, List.set_cons_succ]
            refine wpAnyH_take (i := 5) (v := (.pointer (some ⟨w.heap.size, 0, none⟩))) rfl (by kernel_rfl) (by kernel_rfl) (by kernel_rfl) (fun _ _ _ h => h) (Or.inl ⟨by rfl, fun _ hSw => by go_simp⟩) hS ?_
            simp only [List.getElem_toArray, List.getElem_cons_succ, List.getElem_cons_zero, Act.put, List.setIfInBounds_toArray, List.set_cons_zero, List.set_cons_succ]
            refine wpAnyH_take (i := 6) (v := .slice (some ad) m.length c) rfl (by kernel_rfl) (by kernel_rfl) (by kernel_rfl) (fun _ _ _ h => h) (Or.inl ⟨by rfl, fun w' hSw => by have hq := HQ0.out w' (HSO.out w' hSw); go_simp⟩) hS ?_
            simp only [List.getElem_toArray, List.getElem_cons_succ, List.getElem_cons_zero, Act.put, List.setIfInBounds_toArray, List.set_cons_zero, List.set_cons_succ]
            refine wpAnyH_take (i := 7) (v := (.int .i64 (j : Int))) rfl (by kernel_rfl) (by kernel_rfl) (by kernel_rfl) (fun _ _ _ h => h) (Or.inl ⟨by rfl, fun _ hSw => by go_simp⟩) hS ?_
            simp only [List.getElem_toArray, List.getElem_cons_succ, List.getElem_cons_zero, Act.put, List.setIfInBounds_toArray, List.set_cons_zero, List.set_cons_succ]
            refine wpAnyH_take (i := 8) (v := (.pointer (some (ad.add (j * 2))))) rfl (by kernel_rfl) (by kernel_rfl) (by kernel_rfl) (fun _ _ _ h => h) (Or.inl ⟨by rfl, fun _ hSw => by go_simp⟩) hS ?_
            simp only [List.getElem_toArray, List.getElem_cons_succ, List.getElem_cons_zero, Act.put, List.setIfInBounds_toArray, List.set_cons_zero, List.set_cons_succ]
            refine wpAnyH_take (i := 9) (v := (.pointer (some ⟨(ad.add (j * 2)).block, (ad.add (j * 2)).off + 1, none⟩))) rfl (by kernel_rfl) (by kernel_rfl) (by kernel_rfl) (fun _ _ _ h => h) (Or.inl ⟨by rfl, fun _ hSw => by go_simp⟩) hS ?_
            simp only [List.getElem_toArray, List.getElem_cons_succ, List.getElem_cons_zero, Act.put, List.setIfInBounds_toArray, List.set_cons_zero, List.set_cons_succ]
            refine wpAnyH_take (i := 10) (v := .slice Ka 32 d) rfl (by kernel_rfl) (by kernel_rfl) (by kernel_rfl) (fun _ _ _ h => h) (Or.inl ⟨by rfl, fun w' hSw => by have hq := HQ2.out w' (HSO.out w' hSw); go_simp⟩) hS ?_
            simp only [List.getElem_toArray, List.getElem_cons_succ, List.getElem_cons_zero, Act.put, List.setIfInBounds_toArray, List.set_cons_zero, List.set_cons_succ]
            refine wpAnyH_ready (rs := [3]) (by kernel_rfl) (by simp) (AllReadyH.cons rfl (fun K hK => ?_) AllReadyH.nil)
            simp only [List.getElem_toArray, List.getElem_cons_succ, List.getElem_cons_zero, Act.put, List.setIfInBounds_toArray, List.set_cons_zero, List.set_cons_succ]
            go_simp
            obtain ⟨Wa, hWa⟩ : ∃ W', W' = W2.alloc (.cells #[.int .u8 ((k : Int) + 1)] 5) := ⟨_, rfl⟩
            have hba : Below W2.heap.size W2 Wa := by rw [hWa]; exact (Below.refl _ W2).alloc (Nat.le_refl _) _
            have sp : Sl Wa Wa.heap.size (some ⟨W2.heap.size, 0, none⟩) 1 (cb [UInt8.ofNat (k + 1)]) := by
              rw [hWa]
              have := (Sl.new W2 #[.int .u8 ((k : Int) + 1)] 5).up (B' := (W2.alloc (.cells #[.int .u8 ((k : Int) + 1)] 5)).heap.size) (by simp)
              rw [show cb [UInt8.ofNat (k + 1)] = [.int .u8 ((k : Int) + 1)] by simp only [cb, bc, List.map_cons, List.map_nil]; rw [← HBY.out]]
              exact this
            rw [← hWa]
            clear hWa
            have own3 := own_below own2 hba
            have hba2 := hb2.trans (hba.mono hb2.size)
            replace hS := HSI.out _ hba2
            refine hK.out _ _ hS (fun _ => ?_)
            clear hK K
            refine wpAnyH_ready (rs := [4]) (by kernel_rfl) (by simp) (AllReadyH.cons rfl (fun K hK => ?_) AllReadyH.nil)
            simp only [List.getElem_toArray, List.getElem_cons_succ, List.getElem_cons_zero, Act.put, List.setIfInBounds_toArray, List.set_cons_zero, List.set_cons_succ]
            rw [if_pos (by rfl)]
            refine wp_appendS _ _ 22 rfl W0.heap.size 5 i0 (.int .u8 0) 1 Tryz.underlying22 hi hz0 hz1 hz2 rfl (.slice Xv N cv) N (cb P) rfl own3 Wa.heap.size (some ⟨W2.heap.size, 0, none⟩) 1 1 (cb [UInt8.ofNat (k + 1)]) rfl sp (by intro h; cases h) (cb_one _) (by unfold maxLen; omega) (by omega) hba2.size ?_
            intro v4 w4 own4 hg4 hat4
            have hb4 := hba2.grown hg4 hba2.size (fun i hi => own_blk own3 hi)
            rw [← cb_append] at own4
            obtain ⟨X4, c4, rfl⟩ := own_form own4
            replace hS := HSI.out _ hb4
            refine hK.out _ _ hS (fun _ => ?_)
            clear hK K own3 hg4 hat4
            refine wpAnyH_ready (rs := [11]) (by kernel_rfl) (by simp) (AllReadyH.cons rfl (fun K hK => ?_) AllReadyH.nil)
            simp only [List.getElem_toArray, List.getElem_cons_succ, List.getElem_cons_zero, Act.put, List.setIfInBounds_toArray, List.set_cons_zero, List.set_cons_succ]
            rw [if_pos (by rfl)]
            refine wp_appendS _ _ 22 rfl W0.heap.size 5 i0 (.int .u8 0) 1 Tryz.underlying22 hi hz0 hz1 hz2 rfl (.slice X4 (N + 1) c4) (N + 1) (cb (P ++ [UInt8.ofNat (k + 1)])) rfl own4 w.heap.size Ka 32 d (cb l) rfl (HKS.out.below ((hb4).mono hb0.size)) (by intro h; obtain ⟨_, h', _⟩ := HKS.out.2 (by decide); rw [h] at h'; cases h') (cb_one _) (by unfold maxLen; omega) (by omega) hb4.size ?_
            intro v5 w5 own5 hg5 hat5
            have hb5 := hb4.grown hg5 hb4.size (fun i hi => own_blk own4 hi)
            rw [← cb_append] at own5
            obtain ⟨X5, c5, rfl⟩ := own_form own5
            replace hS := HSI.out _ hb5
            refine hK.out _ _ hS (fun _ => ?_)
            clear hK K own4 hg5 hat5
            refine wpAnyH_take (i := 12) (v := (.slice X5 (N + 1 + 32) c5)) rfl (by kernel_rfl) (by kernel_rfl) (by kernel_rfl) (fun _ _ _ h => h) (Or.inl ⟨by rfl, fun _ hSw => by go_simp⟩) hS ?_
            simp only [List.getElem_toArray, List.getElem_cons_succ, List.getElem_cons_zero, Act.put, List.setIfInBounds_toArray, List.set_cons_zero, List.set_cons_succ]
            refine wpAnyH_done (by kernel_rfl) ?_ _
            clear hown hb own2
            go_wp2
            go_roundw
            case rel => exact ⟨j + 1, by omega, by go_num, by rw [HRL.out, HR.out]; exact own5, hb5⟩
            case measure => simp [Go.RowKit.intOf]; omega
          · have hq : ((m[j].1 : Int) == (k : Int) + 1) = false := by simp; omega
            rw [if_neg he, List.append_nil] at hsq
            have HR := Lib.hid hsq
            clear hsq he x1 x2 hcl hKa
            go_wp2
            go_roundw
            case rel => exact ⟨j + 1, by omega, by go_num, by rw [HR.out]; exact hown, hb⟩
            case measure => simp [Go.RowKit.intOf]; omega
        · obtain rfl : j = m.length := by omega
          have HO : Hid (outT m (k + 1) = L ++ rowT (m.take m.length) (k + 1)) := by unfold Hid; rw [HOS.out, HL.out, rowT_all]
          go_wp2
          go_roundw
          case rel => exact ⟨k + 1, by omega, by go_num, by rw [HO.out]; exact hown, hb⟩
          case measure => simp [Go.RowKit.intOf]; omega
    · obtain rfl : k = 64 := by omega
      have hz := hb.size
      go_wp2
      go_ret
      exact retBytes (by rw [HALL.out]) HALL.out (own_down hown hb0.size) (hb0.trans (hb.mono hb0.size))

end Go.Proofs.YtlnoopmblmkgkaaGreatDoor
