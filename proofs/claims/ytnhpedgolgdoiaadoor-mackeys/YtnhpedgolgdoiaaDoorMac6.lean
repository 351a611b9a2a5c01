/- The walk of the law MacKeys. -/
import Derived.Test.YtnhpedgolgdoiaaDoorMac3
namespace Go.Proofs.YtnhpedgolgdoiaaDoor
open Go.RowKit
set_option linter.unusedVariables false
set_option linter.unusedSimpArgs false

theorem flat32_at : ∀ (ts : List (List UInt8)), (∀ t ∈ ts, t.length = 32) → ∀ k (h : k < ts.length), (ts.flatten.drop (32 * k)).take 32 = ts[k]
  | [], _, k, h => absurd h (by simp)
  | t :: ts, ht, 0, h => by
    have h1 : t.length = 32 := ht t (by simp)
    rw [Nat.mul_zero, List.drop_zero, List.flatten_cons, List.take_append_of_le_length (by omega), List.take_of_length_le (by omega)]
    rfl
  | t :: ts, ht, k + 1, h => by
    have h1 : t.length = 32 := ht t (by simp)
    rw [List.flatten_cons, List.drop_append, List.drop_of_length_le (by omega), List.nil_append, h1, show 32 * (k + 1) - 32 = 32 * k by omega, flat32_at ts (fun x hx => ht x (by simp [hx])) k (by simpa using h)]
    rfl

set_option maxRecDepth 100000 in
set_option maxHeartbeats 2000000 in
theorem macKeys_walk (A0 : Option Addr) (n0 c0 : Nat) (l0 : List UInt8) (A1 : Option Addr) (n1 c1 : Nat) (l1 : List (List UInt8)) (w : World) (hT : Tabs w)
    (s0 : InBytes w A0 n0 c0 l0) (s1 : InParts w A1 n1 c1 l1) :
    Calls Tryd.prog 4 #[.slice A0 n0 c0, .slice A1 n1 c1] w fun e w' => e = .returned (.bool true) ∧ Below w.heap.size w w' := by
  obtain ⟨i1, hinf, hy0, hy1, hy2⟩ := info_parts bytes_info
  have y0 := s0.sl
  have z0 := s0.none_
  have e0 := s0.len
  have r0 := s0.room
  have p0 := s0.cap
  have hp := s1.parts
  have r1 := s1.room
  have p1 := s1.cap
  have HE := Lib.hid s1.each
  have hpl := hp.len
  clear s0 s1
  subst e0; subst hpl
  have HT := Lib.hid hT
  clear hT
  have hm1 : l1.length ≤ maxLen := by omega
  unfold maxLen at hm1 r1
  by_cases hbig : l1.length ≤ 20 ∧ l0.length ≤ 4000
  · obtain ⟨b1, b0⟩ := hbig
    have q1 : decide (20 < (l1.length : Int)) = false := by simp; omega
    have q0 : decide (4000 < (l0.length : Int)) = false := by simp; omega
    go_enter Tryd.func4, Tryd.ntmps4
    go_wp2
    go_loop [27] (fun i => ∃ k : Nat, k ≤ l1.length ∧ i = .int .i64 k ∧ Hid (∀ j (hj : j < l1.length), j < k → l1[j].length ≤ 400)) (fun i => l1.length - (intOf i).toNat)
    case atStart => exact ⟨0, by omega, rfl, fun j _ h => absurd h (by omega)⟩
    case round =>
      obtain ⟨k, hk, rfl, HH⟩ := hrel
      by_cases hlt : k < l1.length
      · obtain ⟨ad, A', c', rfl, hcell, _, hcc, _⟩ := hp.at_ hlt
        have hel : l1[k].length ≤ maxLen := HE.out _ (List.getElem_mem hlt)
        unfold maxLen at hel
        by_cases h4 : l1[k].length ≤ 400
        · go_wp2
          go_round
          case rel => exact ⟨k + 1, by omega, by go_num, fun j hj hjk => by rcases (show j < k ∨ j = k by omega) with h | rfl; exact HH.out j hj h; exact h4⟩
          case measure => simp [intOf]; omega
        · go_wp2_with (go_at_call 9; refine (awake3_any _ HT.out).mono ?_; rintro e w' ⟨rfl, hb⟩)
          go_ret
          exact ⟨rfl, hb⟩
      · have h400 : ∀ l ∈ l1, l.length ≤ 400 := by
          intro l hl
          obtain ⟨j, hj, rfl⟩ := List.getElem_of_mem hl
          exact HH.out j hj (by omega)
        have H400 := Lib.hid h400
        clear h400 HH
        go_wp2_with fail
        refine (own_any l0 _ _ _ _ _ y0 z0 (by omega) (Nat.le_refl _)).mono ?_
        rintro e w1 ⟨X1, d1, rfl, h1⟩
        have hb1 := h1.below
        have lt1 : ∀ x, (Value.slice X1 l0.length d1).ownBlock = some x → x < w1.heap.size := fun x hx => own_lt h1.own hx
        go_wp2_with fail
        refine (mnew_any l0 _ _ _ _ _ h1.sl (own_cap h1.own) h1.none_ (Nat.le_refl _) (HT.out.next hb1) (by omega)).mono ?_
        rintro e w2 ⟨gk, rfl, hgk, hky, hbp⟩
        have hb2 := next hb1 hbp
        have own2 := own_below h1.own hbp
        have HLT1 := Lib.hid lt1
        clear h1 hb1 hbp lt1
        go_wp2
        go_loopw [42] (fun i wr => ∃ (j : Nat) (xs : List UInt8), j ≤ l0.length ∧ i = .int .i64 j ∧ Hid (xs.length = l0.length) ∧ wr.ownsRow w.heap.size 5 1 (.slice X1 l0.length d1) l0.length (cb xs) ∧ Ky wr gk l0 ∧ Below w.heap.size w wr) (fun i _ => l0.length - (intOf i).toNat)
        case atStart => exact ⟨0, l0, by omega, rfl, (rfl : _ = _), own2, hky, hb2⟩
        case round =>
          clear own2 hky hb2
          obtain ⟨j, xs, hj, rfl, HXL, hxo, hky, hb⟩ := hrel
          by_cases hjl : j < l0.length
          · obtain ⟨gx, cx, ex, hgx, hgxl⟩ := hxo.form (by omega)
            have hgk2 : gx < w1.heap.size := HLT1.out gx (by rw [ex]; rfl)
            injection ex with ex _ ecx
            subst ex; subst ecx
            have hjx : j < xs.length := by rw [HXL.out]; exact hjl
            have hcl : wr.cell? ⟨gx, j, none⟩ = some (.int .u8 (xs[j].toNat : Int)) := by rw [hxo.cellAt j (by omega), cb_at hjx]
            have hfz := hxo.frozenAt j
            have HB := Lib.hid (byte_up xs[j])
            have HS := Lib.hid (hxo.stored j (bc (UInt8.ofNat ((xs[j].toNat + 1) % 256)))).1
            have hb8 : xs[j].toNat < 256 := xs[j].toNat_lt
            clear hxo
            go_wp2
            go_roundw
            case rel => exact ⟨j + 1, xs.set j (UInt8.ofNat ((xs[j].toNat + 1) % 256)), by omega, by go_num, by unfold Hid; rw [List.length_set]; exact HXL.out, by rw [HB.out]; have := HS.out; rwa [← cb_set] at this, hky.keep (heap_setCell_other _ _ _ _ (by simp; omega)), hb.setCell (by simp; omega) _⟩
            case measure => simp [intOf]; omega
          · obtain ⟨w3, hw3⟩ : ∃ x, x = wr := ⟨wr, rfl⟩
            subst hw3
            clear hxo HXL
            go_wp2
            go_loopw [10, 54] (fun vp i wr => ∃ (k : Nat) (vs : List Value), k ≤ l1.length ∧ i = .int .i64 k ∧ wr.ownsRow w.heap.size 22 1 vp k vs ∧ vp.ownBlock ≠ some gk ∧ PInv l1 wr none vp.ownBlock k vs ∧ Ky wr gk l0 ∧ Below w.heap.size w wr) (fun _ i _ => l1.length - (intOf i).toNat)
            case atStart => exact ⟨0, [], by omega, rfl, World.ownsRow_nil _ _ _ _, (fun h => by cases h), fun j _ h => absurd h (by omega), hky, hb⟩
            case round =>
              clear hky hb
              obtain ⟨k, vs, hk, rfl, hpar, hne, hpi, hky, hb⟩ := hrel
              obtain ⟨Ap, cp, rfl⟩ := own_form hpar
              obtain ⟨w4, hw4⟩ : ∃ x, x = wr := ⟨wr, rfl⟩
              subst hw4
              by_cases hlt : k < l1.length
              · have hp2 := hp.below hb
                obtain ⟨ad, A', c', rfl, hcell, hsl, hcc, hnn⟩ := hp2.at_ hlt
                have hl4 : l1[k].length ≤ 400 := H400.out _ (List.getElem_mem hlt)
                have HM := Lib.hid (hmac_len l0 l1[k])
                obtain ⟨M, hM⟩ : ∃ M, M = hmac l0 l1[k] := ⟨_, rfl⟩
                rw [← hM] at HM
                have HMM := Lib.hid hM
                clear hM hp2
                have hbs := hb.size
                have ltp : ∀ x, (Value.slice Ap k cp).ownBlock = some x → x < w4.heap.size := fun x hx => own_lt hpar hx
                have hsw := hsl.up hbs
                go_wp2_with fail
                refine (own_any l1[k] _ _ _ _ _ hsw hnn (by omega) (Nat.le_refl _)).mono ?_
                rintro e w5 ⟨X5, d5, rfl, h5⟩
                have hb5 := h5.below
                go_wp2_with fail
                obtain ⟨hq, hbp⟩ := list_one 22 h5.sl (own_cap h5.own) h5.none_
                replace hb5 := next hb5 hbp
                have hky5 := hky.next hb5
                clear h5 hbp
                refine (ktag_any gk l0 [l1[k]] _ _ _ _ _ hky5 hq (Nat.le_refl _) (by omega) (HT.out.next (next hb hb5)) (by simp; omega)).mono ?_
                rintro e w6 ⟨rfl, hbp⟩
                rw [show [l1[k]].flatten = l1[k] by simp, ← HMM.out]
                have hb6 := next hb5 hbp
                clear hq hbp hb5 hky5
                go_wp2_with fail
                refine (rtag_any l0 l1[k] _ _ _ _ _ _ _ _ ((y0.nx hb).nx hb6) z0 (by omega) (hsw.nx hb6) hnn (by omega) (Nat.le_refl _)).mono ?_
                rintro e w7 ⟨X7, d7, rfl, h7⟩
                rw [← HMM.out] at h7
                have hb7 := next hb6 h7.below
                go_wp2_with fail
                refine (is_any M M _ _ _ _ _ HM.out h7.sl (Nat.le_refl _)).mono ?_
                rintro e w8 ⟨rfl, hbp⟩
                rw [same_self]
                have hb8 := next hb7 hbp
                clear hb6 hb7 h7 hbp
                go_wp2_with fail
                refine (own_any l1[k] _ _ _ _ _ (hsw.nx hb8) hnn (by omega) (Nat.le_refl _)).mono ?_
                rintro e w9 ⟨X9, d9, rfl, h9⟩
                have hb9 := next hb8 h9.below
                have hpar9 := own_below hpar hb9
                have hpi9 := hpi.next hb9
                have hky9 := hky.next hb9
                have hbw9 := next hb hb9
                have hbs9 := hbw9.size
                have hlt9 : w4.heap.size ≤ w8.heap.size := hb8.size
                have HPI := Lib.hid hpi9
                clear hpar hpi hky hb8 hsl hsw hpi9 hcell
                go_wp2_with (at_builtin; refine wpList_append_own_at _ rfl _ _ 31 rfl w.heap.size 22 i1 (.slice none 0 0) 1 24 Tryd.underlying31 hinf hy0 hy1 hy2 rfl (by decide) _ _ _ rfl (hpar9.alloc _) ⟨w9.heap.size, 0, none⟩ 1 1 _ rfl rfl (cell_one_new _ _ _) (by simp [Value.oneCell']) (by unfold maxLen; omega) (by omega) (by simp; omega) ?_; intro v10 w10 hpar10 hgrow10 hnil10 hat10)
                have hba : Below w9.heap.size w9 (w9.alloc (.cells #[.slice X9 l1[k].length d9] 22)) := (Below.refl _ w9).alloc (Nat.le_refl _) _
                have hb10 := below_app1 hbw9 (Nat.le_refl _) hpar9 hgrow10
                have hpi10 := (HPI.out.next hba).turn2 hgrow10 hat10
                have hx10 : Sl w10 w10.heap.size X9 l1[k].length (cb l1[k]) := sl_row (h9.sl.nx hba) hgrow10 (fun hn ad e => by have h6 := (own_where h9.own e).1; intro e2; have := ltp _ e2; omega)
                have hky10 : Ky w10 gk l0 := (hky9.next hba).keep (hgrow10.block gk (hky9.next hba).lt (fun e => hne e.symm))
                have hne10 : v10.ownBlock ≠ some gk := by
                  rcases hat10 with h | h
                  · rw [h]; exact hne
                  · rw [h]; intro e; injection e with e; have h6 := hky9.lt; have h7 := hba.size; omega
                have hvl : vs.length = k := by have := hpar9.1; omega
                have hpi11 := hpi10.snoc hlt hvl hx10 (own_cap h9.own) h9.none_ (fun hn ad e => by
                  obtain ⟨h6, h7⟩ := own_where h9.own e
                  refine ⟨fun e2 => (by cases e2), fun e2 => ?_⟩
                  rcases hat10 with h | h
                  · rw [h] at e2; have := ltp _ e2; omega
                  · rw [h] at e2; injection e2 with e2; have h8 := hba.size; omega)
                have HP11 := Lib.hid hpi11
                have HPR := Lib.hid hpar10
                clear hgrow10 hnil10 hat10 hba hpi10 hx10 hpar9 h9 hpi11 hpar10 hvl hky9 HPI hb9 hbw9 hb
                go_wp2
                go_roundw
                case rel => exact ⟨k + 1, _, by omega, by go_num, HPR.out, hne10, HP11.out, hky10, hb10⟩
                case measure => simp [intOf]; omega
              · obtain rfl : k = l1.length := by omega
                have hparts := hpi.parts hpar
                clear hpi hpar hne
                have h400' : ∀ l ∈ l1, l.length ≤ 10000000 := fun l hl => by have := H400.out l hl; omega
                have H40 := Lib.hid h400'
                clear h400'
                go_wp2_with fail
                refine (many_any (some ⟨gk, 0, none⟩) l0 l1 _ _ _ _ _ (.inl ⟨gk, rfl, hky⟩) hparts (Nat.le_refl _) (by omega) (HT.out.next hb) H40.out).mono ?_
                rintro e w5 ⟨gs, rfl, hgs, hbl, hbp⟩
                have hb5 := next hb hbp
                obtain ⟨ts, hts⟩ : ∃ ts, ts = l1.map (hmac l0) := ⟨_, rfl⟩
                have htl : ts.length = l1.length := by rw [hts]; simp
                have ht32 : ∀ t ∈ ts, t.length = 32 := by
                  intro t ht
                  rw [hts] at ht
                  obtain ⟨l, _, rfl⟩ := List.mem_map.1 ht
                  exact hmac_len _ _
                have htk : ∀ k (h : k < l1.length) (h' : k < ts.length), ts[k] = hmac l0 l1[k] := by
                  intro k h h'
                  subst hts
                  simp
                rw [← hts] at hbl
                have HTL := Lib.hid htl
                have HT32 := Lib.hid ht32
                have HTK := Lib.hid htk
                clear hts htl ht32 htk hparts hky hbp hb
                go_wp2
                go_loopw [84] (fun i wr => ∃ k : Nat, k ≤ l1.length ∧ i = .int .i64 k ∧ Bl wr gs (cb ts.flatten) 28 ∧ Below w.heap.size w wr) (fun i _ => l1.length - (intOf i).toNat)
                case atStart => exact ⟨0, by omega, rfl, hbl, hb5⟩
                case round =>
                  clear hbl hb5
                  obtain ⟨k, hk, rfl, hbl, hb⟩ := hrel
                  by_cases hlt : k < l1.length
                  · have hp2 := hp.below hb
                    obtain ⟨ad, A', c', rfl, hcell, hsl, hcc, hnn⟩ := hp2.at_ hlt
                    have hl4 : l1[k].length ≤ 400 := H400.out _ (List.getElem_mem hlt)
                    have HM := Lib.hid (hmac_len l0 l1[k])
                    obtain ⟨M, hM⟩ : ∃ M, M = hmac l0 l1[k] := ⟨_, rfl⟩
                    have hMk : (ts.flatten.drop (32 * k)).take 32 = M := by rw [flat32_at ts HT32.out k (by rw [HTL.out]; exact hlt), hM]; exact HTK.out k hlt _
                    rw [← hM] at HM
                    have HMM := Lib.hid hM
                    have HMK := Lib.hid hMk
                    clear hM hp2 hMk
                    have hbs := hb.size
                    have hsw := hsl.up hbs
                    obtain ⟨S, hSd⟩ : ∃ S : World → Prop, S = fun w' => w'.rangeAt gs (k * 32) (cb M) := ⟨_, rfl⟩
                    have HSI : Hid (∀ w', Below wr.heap.size wr w' → S w') := by unfold Hid; intro w' hb; rw [hSd, ← HMK.out]; exact (hbl.next hb).sum k
                    have HS1 : Hid (∀ w', S w' → w'.rangeAt gs (k * 32) (cb M)) := by unfold Hid; intro w' h; rw [hSd] at h; exact h
                    clear hSd
                    have hi0 : (0 : Int) ≤ (k : Int) := by omega
                    have hi1 : (k : Int) < (l1.length : Int) := by omega
                    go_wp2_with fail
                    have hbd : Below wr.heap.size wr wr.drew := (Below.refl _ wr).drew
                    have hS := HSI.out _ hbd
                    refine wp_region_held_drew (S := S) (by kernel_rfl) hS (fun _ => ?_)
                    refine wpAnyH_take (i := 0) (v := (.slice (some ⟨gs, 0, none⟩) l1.length l1.length)) rfl (by kernel_rfl) (by kernel_rfl) (by kernel_rfl) (fun _ _ _ h => h) (Or.inl ⟨by rfl, fun _ hSw => by go_simp⟩) hS ?_
                    simp only [List.getElem_toArray, List.getElem_cons_succ, List.getElem_cons_zero, Act.put, List.setIfInBounds_toArray, List.set_cons_zero, List.set_cons_succ]
                    refine wpAnyH_take (i := 1) (v := (.int .i64 (k : Int))) rfl (by kernel_rfl) (by kernel_rfl) (by kernel_rfl) (fun _ _ _ h => h) (Or.inl ⟨by rfl, fun _ hSw => by go_simp⟩) hS ?_
                    simp only [List.getElem_toArray, List.getElem_cons_succ, List.getElem_cons_zero, Act.put, List.setIfInBounds_toArray, List.set_cons_zero, List.set_cons_succ]
                    refine wpAnyH_take (i := 2) (v := (.pointer (some ⟨gs, k * 32, none⟩))) rfl (by kernel_rfl) (by kernel_rfl) (by kernel_rfl) (fun _ _ _ h => h) (Or.inl ⟨by rfl, fun _ hSw => by go_simp⟩) hS ?_
                    simp only [List.getElem_toArray, List.getElem_cons_succ, List.getElem_cons_zero, Act.put, List.setIfInBounds_toArray, List.set_cons_zero, List.set_cons_succ]
                    refine wpAnyH_take (i := 4) (v := (.slice A0 l0.length c0)) rfl (by kernel_rfl) (by kernel_rfl) (by kernel_rfl) (fun _ _ _ h => h) (Or.inl ⟨by rfl, fun _ hSw => by go_simp⟩) hS ?_
                    simp only [List.getElem_toArray, List.getElem_cons_succ, List.getElem_cons_zero, Act.put, List.setIfInBounds_toArray, List.set_cons_zero, List.set_cons_succ]
                    refine wpAnyH_take (i := 5) (v := (.slice A' l1[k].length c')) rfl (by kernel_rfl) (by kernel_rfl) (by kernel_rfl) (fun _ _ _ h => h) (Or.inl ⟨by rfl, fun _ hSw => by go_simp⟩) hS ?_
                    simp only [List.getElem_toArray, List.getElem_cons_succ, List.getElem_cons_zero, Act.put, List.setIfInBounds_toArray, List.set_cons_zero, List.set_cons_succ]
                    refine wpAnyH_take (i := 3) (v := .agg (cb M).toArray) rfl (by kernel_rfl) (by kernel_rfl) (by kernel_rfl) (fun _ _ _ h => h) (yieldsIf_load_mid (by rfl) 28 _ rfl gs (k * 32) rfl (cb M) _ HS1.out Tryd.underlying28 rfl (by rw [size_sum, cb_len, HM.out])) hS ?_
                    simp only [List.getElem_toArray, List.getElem_cons_succ, List.getElem_cons_zero, Act.put, List.setIfInBounds_toArray, List.set_cons_zero, List.set_cons_succ]
                    clear hi0 hi1
                    refine wpAnyH_ready (rs := [6]) (by kernel_rfl) (by simp) (AllReadyH.cons rfl (fun K hK => ?_) AllReadyH.nil)
                    simp only [List.getElem_toArray, List.getElem_cons_succ, List.getElem_cons_zero, Act.put, List.setIfInBounds_toArray, List.set_cons_zero, List.set_cons_succ]
                    go_simp
                    refine (rtag_any l0 l1[k] _ _ _ _ _ _ _ _ ((y0.nx hb).nx hbd) z0 (by omega) (hsw.nx hbd) hnn (by omega) (Nat.le_refl _)).mono ?_
                    rintro e w7 ⟨X7, d7, rfl, h7⟩
                    rw [← HMM.out] at h7
                    have hb7 := next hbd h7.below
                    replace hS := HSI.out _ hb7
                    refine hK.out _ _ hS (fun _ => ?_)
                    clear hK K
                    refine wpAnyH_ready (rs := [7]) (by kernel_rfl) (by simp) (AllReadyH.cons rfl (fun K hK => ?_) AllReadyH.nil)
                    simp only [List.getElem_toArray, List.getElem_cons_succ, List.getElem_cons_zero, Act.put, List.setIfInBounds_toArray, List.set_cons_zero, List.set_cons_succ]
                    go_simp
                    refine (is_any M M _ _ _ _ _ HM.out h7.sl (Nat.le_refl _)).mono ?_
                    rintro e w8 ⟨rfl, hbp⟩
                    rw [same_self]
                    have hb8 := next hb7 hbp
                    replace hS := HSI.out _ hb8
                    refine hK.out _ _ hS (fun _ => ?_)
                    clear hK K h7 hbp hb7
                    refine wpAnyH_take (i := 8) (v := (.bool false)) rfl (by kernel_rfl) (by kernel_rfl) (by kernel_rfl) (fun _ _ _ h => h) (Or.inl ⟨by rfl, fun _ hSw => by go_simp⟩) hS ?_
                    simp only [List.getElem_toArray, List.getElem_cons_succ, List.getElem_cons_zero, Act.put, List.setIfInBounds_toArray, List.set_cons_zero, List.set_cons_succ]
                    have hbl8 := hbl.next hb8
                    have hbw8 := next hb hb8
                    clear hbl hb hS HSI HS1 hsl hsw hcell hb8 hbd
                    refine wpAnyH_done (by kernel_rfl) ?_ _
                    go_wp2
                    go_roundw
                    case rel => exact ⟨k + 1, by omega, by go_num, hbl8, hbw8⟩
                    case measure => simp [intOf]; omega
                  · go_wp2_with (go_at_call 9; refine (awake3_any _ (HT.out.next hb)).mono ?_; rintro e w' ⟨rfl, hb9⟩)
                    go_ret
                    exact ⟨rfl, next hb hb9⟩
  · rcases (show 20 < l1.length ∨ (l1.length ≤ 20 ∧ 4000 < l0.length) by omega) with q0 | ⟨q0, q1⟩
    · have k0 : decide (20 < (l1.length : Int)) = true := by simp; omega
      clear hbig
      go_enter Tryd.func4, Tryd.ntmps4
      go_wp2_with (go_at_call 9; refine (awake3_any _ HT.out).mono ?_; rintro e w' ⟨rfl, hb⟩)
      go_ret
      exact ⟨rfl, hb⟩
    · have k0 : decide (20 < (l1.length : Int)) = false := by simp; omega
      have k1 : decide (4000 < (l0.length : Int)) = true := by simp; omega
      clear hbig
      go_enter Tryd.func4, Tryd.ntmps4
      go_wp2_with (go_at_call 9; refine (awake3_any _ HT.out).mono ?_; rintro e w' ⟨rfl, hb⟩)
      go_ret
      exact ⟨rfl, hb⟩

end Go.Proofs.YtnhpedgolgdoiaaDoor

