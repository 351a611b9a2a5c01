/- The walk of the law OnetimeAdds. -/
import Derived.Test.YtckbogdgiieddaaLP
namespace Go.Proofs.Ytckbogdgiieddaa
open Go.RowKit
set_option linter.unusedVariables false
set_option linter.unusedSimpArgs false

set_option maxRecDepth 100000 in
set_option maxHeartbeats 4000000 in
theorem onetimeAdds_walk (A0 : Option Addr) (n0 c0 : Nat) (l0 : List UInt8) (A1 : Option Addr) (n1 c1 : Nat) (l1 : List (List UInt8)) (w : World) (s0 : InBytes w A0 n0 c0 l0) (s1 : InParts w A1 n1 c1 l1) :
    Calls Try.prog 4 #[.slice A0 n0 c0, .slice A1 n1 c1] w fun e w' => e = .returned (.bool true) ∧ Below w.heap.size w w' := by
  obtain ⟨i0, hi, hz0, hz1, hz2⟩ := info_parts u8_info
  have y0 := s0.sl
  have z0 := s0.none_
  have r0 := s0.room
  have p0 := s0.cap
  have e0 := s0.len
  have hp := s1.parts
  have r1 := s1.room
  have p1 := s1.cap
  have HE := Lib.hid s1.each
  have hpl := hp.len
  clear s0 s1
  have HN0 := Lib.hid e0
  clear e0
  subst hpl
  unfold maxLen at r1
  by_cases h20 : l1.length ≤ 20
  · have q20 : ¬ (20 : Int) < (l1.length : Int) := by omega
    go_enter Try.func4, Try.ntmps4
    go_wp2
    go_loop [22] (fun i => ∃ k : Nat, k ≤ l1.length ∧ i = .int .i64 k ∧ Hid (∀ j (hj : j < l1.length), j < k → l1[j].length ≤ 100)) (fun i => l1.length - (intOf i).toNat)
    case atStart => exact ⟨0, by omega, rfl, fun j _ h => absurd h (by omega)⟩
    case round =>
      obtain ⟨k, hk, rfl, HH⟩ := hrel
      by_cases hlt : k < l1.length
      · obtain ⟨ad, A', c', rfl, hcell, _, hcc, _⟩ := hp.at_ hlt
        have hel : l1[k].length ≤ maxLen := HE.out _ (List.getElem_mem hlt)
        unfold maxLen at hel
        by_cases h4 : l1[k].length ≤ 100
        · have hq : ¬ (100 : Int) < (l1[k].length : Int) := by omega
          go_wp2
          go_round
          case rel => exact ⟨k + 1, by omega, by go_num, fun j hj hjk => by rcases (show j < k ∨ j = k by omega) with h | rfl; exact HH.out j hj h; exact h4⟩
          case measure => simp [intOf]; omega
        · have hq : (100 : Int) < (l1[k].length : Int) := by omega
          go_wp2_with fail
          refine (awake6_any _).mono ?_
          rintro e w5 ⟨rfl, hb5⟩
          go_wp2
          go_ret
          exact ⟨rfl, hb5⟩
      · have H100 : Hid (∀ j (hj : j < l1.length), l1[j].length ≤ 100) := fun j hj => HH.out j hj (by omega)
        clear HH
        go_wp2_with fail
        refine (own_any l0 _ _ _ _ _ y0 z0 (by omega) (Nat.le_refl _)).mono ?_
        rintro e w1 ⟨X0, d0, rfl, h1⟩
        have hb1 := h1.below
        have x0 := h1.sl
        have f0 := h1.none_
        have g0 := own_cap h1.own
        clear h1
        go_wp2_with fail
        refine (onew_any l0 w1 X0 n0 d0 x0 g0 f0 (by unfold maxLen; omega)).mono ?_
        rintro e w2 (⟨hk32, g, rfl, hg, hst, hb2⟩ | ⟨hk32, rfl, rfl⟩)
        · have HK := Lib.hid hk32
          have q32 : ((n0 : Int) != 32) = false := by simp; have := HN0.out; omega
          have hgw : w.heap.size ≤ g := Nat.le_trans hb1.size hg
          replace hb1 := next hb1 hb2
          clear hk32 x0 f0 g0 hb2 hg
          go_wp2
          go_loopw [9, 57] (fun va i wr => ∃ (k N : Nat) (F : List UInt8), k ≤ l1.length ∧ i = .int .i64 k ∧ Hid (N = F.length) ∧ N ≤ 100 * k ∧ wr.ownsRow w.heap.size 5 1 va N (cb F) ∧ Ad wr g l0 F ∧ va.ownBlock ≠ some g ∧ Below w.heap.size w wr) (fun _ i _ => l1.length - (intOf i).toNat)
          case atStart => exact ⟨0, 0, [], by omega, rfl, (rfl : _ = _), by omega, World.ownsRow_nil _ _ _ _, hst, (fun h => by cases h), hb1⟩
          case round =>
            clear hst hb1
            obtain ⟨k2, N, F, hk2, rfl, HN, hN, hown, st, hne, hb⟩ := hrel
            obtain ⟨Aa, ca, rfl⟩ := own_form hown
            obtain ⟨w0, hw0⟩ : ∃ x, x = wr := ⟨wr, rfl⟩
            subst hw0
            by_cases hlt2 : k2 < l1.length
            · have hp2 := hp.below hb
              obtain ⟨ad, A', c', rfl, hcell, hsl, hcc, hnn⟩ := hp2.at_ hlt2
              have hl4 : l1[k2].length ≤ 100 := H100.out k2 hlt2
              obtain ⟨l, hl⟩ : ∃ l, l = l1[k2] := ⟨_, rfl⟩
              rw [← hl] at hcell hsl hcc hl4
              clear hl hp2
              go_wp2_with fail
              refine (own_any l _ _ _ _ _ hsl hnn (by omega) hb.size).mono ?_
              rintro e w2 ⟨A2, c2, rfl, h1⟩
              have st2 := st.next h1.below
              have hb2 := next hb h1.below
              have hoff : Off g l.length A2 := own_off h1.own st.lt
              have hall2 := own_below hown h1.below
              go_wp2_with fail
              refine (oadd_any g l0 F l _ _ _ _ _ st2 h1.sl (Nat.le_refl _) hoff (own_cap h1.own) h1.none_ (by unfold maxLen; omega)).mono ?_
              rintro e w3 ⟨rfl, st3, hgr3⟩
              have hb3 := below_but hb2 hgr3 hb2.size hgw
              have hall3 := hall2.kept hgr3 (.inr hne)
              have hx3 := own_keep h1.own (w' := w3) (fun gx hgx => hgr3.block gx (own_lt h1.own hgx) (fun e => by have h5 := (h1.own.lt gx hgx).1; have h6 := st.lt; injection e with e; omega))
              have hgs := st.lt
              have hva : ∀ ga, (Value.slice Aa N ca).ownBlock = some ga → ga < w0.heap.size := fun ga h => own_lt hown h
              have HVA := Lib.hid hva
              clear st2 hoff hall2 hown st hgr3 hb2 hva
              go_wp2
              go_loopw [68] (fun i wr => ∃ (j : Nat) (xs : List UInt8), j ≤ l.length ∧ i = .int .i64 j ∧ Hid (xs.length = l.length) ∧ wr.ownsRow w0.heap.size 5 1 (.slice A2 l.length c2) l.length (cb xs) ∧ Below w0.heap.size w3 wr) (fun i _ => l.length - (intOf i).toNat)
              case atStart => exact ⟨0, l, by omega, rfl, (rfl : _ = _), hx3, Below.refl _ _⟩
              case round =>
                obtain ⟨j, xs, hj, rfl, HXL, hxo, hbx⟩ := hrel
                by_cases hjl : j < l.length
                · obtain ⟨gx, cx, ex, hgx, hgxl⟩ := hxo.form (by omega)
                  injection ex with ex _ ecx
                  subst ex; subst ecx
                  have hjx : j < xs.length := by rw [HXL.out]; exact hjl
                  have hcl : wr.cell? ⟨gx, j, none⟩ = some (.int .u8 (xs[j].toNat : Int)) := by rw [hxo.cellAt j (by omega), cb_at hjx]
                  have hfz := hxo.frozenAt j
                  have HB := Lib.hid (byte_up xs[j])
                  have HS := Lib.hid (hxo.stored j (bc (UInt8.ofNat ((xs[j].toNat + 1) % 256)))).1
                  have hb8 : xs[j].toNat < 256 := xs[j].toNat_lt
                  clear hxo hcell
                  go_wp2
                  go_roundw
                  case rel => exact ⟨j + 1, xs.set j (UInt8.ofNat ((xs[j].toNat + 1) % 256)), by omega, by go_num, by unfold Hid; rw [List.length_set]; exact HXL.out, by rw [HB.out]; have := HS.out; rwa [← cb_set] at this, hbx.setCell (by simp; omega) _⟩
                  case measure => simp [intOf]; omega
                · obtain ⟨w4, hw4⟩ : ∃ x, x = wr := ⟨wr, rfl⟩
                  subst hw4
                  have hb4 : Below w.heap.size w w4 := hb3.trans (hbx.mono hb.size)
                  have st4 := st3.keep (hbx.block g hgs)
                  have hall4 := own_keep hall3 (w' := w4) (fun ga hga => hbx.block ga (HVA.out ga hga))
                  have hsl4 : Sl w4 w.heap.size A' l.length (cb l) := (hsl.map_ fun p hpp => (hb4.cell hpp).trans (hb.cell hpp).symm)
                  have hg4 : g < w4.heap.size := st4.lt
                  have hjI : ¬ (j : Int) < (l.length : Int) := by omega
                  clear st3 hall3 hxo hbx hx3 hb3 hsl h1
                  go_wp2_with (at_builtin; refine wpList_append_sl _ rfl _ _ 22 rfl w.heap.size 5 i0 (.int .u8 0) 1 Try.underlying22 hi hz0 hz1 hz2 rfl _ N _ rfl hall4 _ A' l.length c' (cb l) rfl hsl4 hnn (cb_one _) (by unfold maxLen; omega) (by omega) hb4.size ?_; intro v5 w5 hown5 hgrow5 hat5; obtain ⟨A5, c5, rfl⟩ := own_form hown5)
                  have hb5 := below_app hb4 (Nat.le_refl _) hall4 hgrow5
                  rw [← cb_append] at hown5
                  have st5 : Ad w5 g l0 (F ++ l) := st4.keep (hgrow5.block g hg4 (fun e => hne e.symm))
                  have hne5 : (Value.slice A5 (N + l.length) c5).ownBlock ≠ some g := by
                    rcases hat5 with h | h
                    · rw [h]; exact hne
                    · rw [h]; intro e; injection e with e; omega
                  have HFl : Hid ((F ++ l).length = N + l.length) := by unfold Hid; rw [List.length_append, HN.out]
                  clear hgrow5 hat5 hall4 hsl4 st4 hb4 hg4
                  obtain ⟨FL, hFL⟩ : ∃ x, x = F ++ l := ⟨_, rfl⟩
                  rw [← hFL] at hown5 st5 HFl
                  obtain ⟨T, hT⟩ : ∃ T, T = tagR l0 FL := ⟨_, rfl⟩
                  have HTT := Lib.hid hT
                  have HTL : Hid (T = tagL l0 FL) := by unfold Hid; rw [hT, tagR, if_pos HK.out]
                  have HFL := Lib.hid hFL
                  clear hT hFL
                  refine (rtag6_any l0 FL w5 _ _ _ _ _ _ (y0.nx hb5) p0 z0 (by unfold maxLen; omega) (Sl.own hown5) (own_cap hown5) (own_none hown5) (by omega)).mono ?_
                  rintro e w6 ⟨A6, n6, c6, rfl, h6⟩
                  rw [← HTT.out] at h6
                  have hown6 := own_below hown5 h6.below
                  have st6 := st5.next h6.below
                  have hb6 := next hb5 h6.below
                  have hsT := h6.sl
                  clear hown5 st5 hb5 h6
                  go_wp2_with fail
                  obtain ⟨W7, hW7⟩ : ∃ W, W = w6.drew := ⟨_, rfl⟩
                  have hbd : Below w6.heap.size w6 W7 := by rw [hW7]; exact (Below.refl _ w6).drew
                  have HW7 := Lib.hid hW7
                  have hsT7 := hsT.nx hbd
                  have st7 := st6.next hbd
                  obtain ⟨S, hSd⟩ : ∃ S : World → Prop, S = fun w' => Sl w' w'.heap.size A6 n6 (cb T) := ⟨_, rfl⟩
                  have hS : S W7 := by rw [hSd]; exact hsT7
                  have HSN : Hid (∀ w', Below W7.heap.size W7 w' → S w') := by unfold Hid; intro w' hb; rw [hSd]; exact hsT7.nx hb
                  have HS1 : Hid (∀ w', S w' → (convert 22 9 (.slice A6 n6 c6)).run Try.prog w' = .ok (.string ⟨T.toArray⟩) w') := by unfold Hid; intro w' h; rw [hSd] at h; exact u8_str h c6
                  clear hSd hW7 hsT7
                  refine wp_region_held_drew (S := S) (by kernel_rfl) (by rw [← HW7.out]; exact hS) (fun _ => ?_)
                  rw [← HW7.out]
                  refine wpAnyH_take (i := 0) (v := (.pointer (some ⟨g, 0, none⟩))) rfl (by kernel_rfl) (by kernel_rfl) (by kernel_rfl) (fun _ _ _ h => h) (Or.inl ⟨by rfl, fun _ hSw => by go_simp⟩) hS ?_
                  simp only [List.getElem_toArray, List.getElem_cons_succ, List.getElem_cons_zero, Act.put, List.setIfInBounds_toArray, List.set_cons_zero, List.set_cons_succ]
                  refine wpAnyH_take (i := 3) (v := (.slice A6 n6 c6)) rfl (by kernel_rfl) (by kernel_rfl) (by kernel_rfl) (fun _ _ _ h => h) (Or.inl ⟨by rfl, fun _ hSw => by go_simp⟩) hS ?_
                  simp only [List.getElem_toArray, List.getElem_cons_succ, List.getElem_cons_zero, Act.put, List.setIfInBounds_toArray, List.set_cons_zero, List.set_cons_succ]
                  refine wpAnyH_take (i := 4) (v := .string ⟨T.toArray⟩) rfl (by kernel_rfl) (by kernel_rfl) (by kernel_rfl) (fun _ _ _ h => h) (Or.inl ⟨by rfl, fun w' hw' => exec_convert w' _ _ _ rfl _ _ rfl (HS1.out w' hw')⟩) hS ?_
                  simp only [List.getElem_toArray, List.getElem_cons_succ, List.getElem_cons_zero, Act.put, List.setIfInBounds_toArray, List.set_cons_zero, List.set_cons_succ]
                  refine wpAnyH_ready (rs := [1]) (by kernel_rfl) (by simp) (AllReadyH.cons rfl (fun K hK => ?_) AllReadyH.nil)
                  simp only [List.getElem_toArray, List.getElem_cons_succ, List.getElem_cons_zero, Act.put, List.setIfInBounds_toArray, List.set_cons_zero, List.set_cons_succ]
                  go_simp
                  refine (otag_any g l0 FL W7 st7 HK.out).mono ?_
                  rintro e w8 ⟨A8, c8, rfl, h8⟩
                  rw [← HTL.out] at h8
                  have hq := u8_str h8.sl c8
                  have hb8 := next hbd h8.below
                  replace hS := HSN.out _ h8.below
                  have hown8 := own_below hown6 hb8
                  have st8 := st6.next hb8
                  replace hb6 := next hb6 hb8
                  refine hK.out _ _ hS (fun _ => ?_)
                  clear hK K h8 st7 hb8 hown6 st6
                  refine wpAnyH_ready (rs := [2]) (by kernel_rfl) (by simp) (AllReadyH.cons rfl (fun K hK => ?_) AllReadyH.nil)
                  simp only [List.getElem_toArray, List.getElem_cons_succ, List.getElem_cons_zero, Act.put, List.setIfInBounds_toArray, List.set_cons_zero, List.set_cons_succ]
                  rw [if_pos (by rfl)]
                  refine wp_convert _ _ _ rfl _ _ rfl hq ?_
                  refine hK.out _ _ hS (fun _ => ?_)
                  clear hK K hq
                  simp only [List.getElem_toArray, List.getElem_cons_succ, List.getElem_cons_zero, Act.put, List.setIfInBounds_toArray, List.set_cons_zero, List.set_cons_succ]
                  refine wpAnyH_take (i := 5) (v := (.bool false)) rfl (by kernel_rfl) (by kernel_rfl) (by kernel_rfl) (fun _ _ _ h => h) (Or.inl ⟨by rfl, fun _ hSw => by go_simp⟩) hS ?_
                  simp only [List.getElem_toArray, List.getElem_cons_succ, List.getElem_cons_zero, Act.put, List.setIfInBounds_toArray, List.set_cons_zero, List.set_cons_succ]
                  refine wpAnyH_done (by kernel_rfl) ?_ _
                  go_wp2
                  go_roundw
                  case rel => exact ⟨k2 + 1, N + l.length, FL, by omega, by go_num, by unfold Hid; rw [HFl.out], by omega, hown8, st8, hne5, hb6⟩
                  case measure => simp [intOf]; omega
            · have hk2I : ¬ (k2 : Int) < (l1.length : Int) := by omega
              go_wp2_with fail
              refine (awake6_any _).mono ?_
              rintro e w5 ⟨rfl, hb5⟩
              go_wp2
              go_ret
              exact ⟨rfl, next hb hb5⟩
        · have q32 : ((n0 : Int) != 32) = true := by simp; have := HN0.out; omega
          clear hk32 x0 f0 g0
          go_wp2_with fail
          refine (awake6_any _).mono ?_
          rintro e w5 ⟨rfl, hb5⟩
          go_wp2
          go_ret
          exact ⟨rfl, next hb1 hb5⟩
  · have q20 : (20 : Int) < (l1.length : Int) := by omega
    go_enter Try.func4, Try.ntmps4
    go_wp2_with fail
    refine (awake6_any _).mono ?_
    rintro e w5 ⟨rfl, hb5⟩
    go_wp2
    go_ret
    exact ⟨rfl, hb5⟩

end Go.Proofs.Ytckbogdgiieddaa
