/- The walk of the law LabelRings. -/
import Derived.Test.YtkkpdeembndneaaDoorLabY
import Derived.Deep.RegionHeld3
import Derived.BigQuiet
namespace Go.Proofs.YtkkpdeembndneaaDoor
set_option maxRecDepth 100000
open Go.RowKit
set_option linter.unusedVariables false
set_option linter.unusedSimpArgs false

set_option maxHeartbeats 8000000 in
theorem labelRings_walk (A0 : Option Addr) (n0 c0 : Nat) (ds : List Do9) (w : World) (hT : Tabs w) (s0 : InDo9 w A0 n0 c0 ds) :
    Calls Tryd.prog 5 #[.slice A0 n0 c0] w fun e w' => e = .returned (.bool true) ∧ Below w.heap.size w w' := by
  obtain ⟨hd, hlen, hcap, hnone⟩ := s0
  have HT := Lib.hid hT
  have HD := Lib.hid hd
  have HLEN := Lib.hid hlen
  clear hT hd hlen
  by_cases hbig : (n0 : Int) ≤ 40
  · have hbig' : ¬ (40 : Int) < (n0 : Int) := by omega
    go_enter Tryd.func5, Tryd.ntmps5
    go_wp2_with (go_at_call 13; refine (lnew_any w).mono ?_; rintro e w1 ⟨rfl, r1, hb1⟩)
    have I0 : RInv w w.heap.size w1.heap.size (w1.alloc (.cells #[.slice none 0 0] 39)) [] := by
      have hb2 : Below w1.heap.size w1 (w1.alloc (.cells #[.slice none 0 0] 39)) := (Below.refl _ w1).alloc (Nat.le_refl _) _
      exact ⟨(r1.next hb2).up hb2.size, ⟨none, 0, 0, Bl.newA w1 #[.slice none 0 0] _, rr_nil _ _, fun h => absurd h (by simp), fun h => absurd h (by simp)⟩, next hb1 hb2⟩
    obtain ⟨gq, hgq⟩ : ∃ gq, gq = w1.heap.size := ⟨_, rfl⟩
    obtain ⟨g, hg⟩ : ∃ g, g = w.heap.size := ⟨_, rfl⟩
    have hgl := r1.lt
    have hne : g ≠ gq := by omega
    have hwg : w.heap.size ≤ g := by omega
    have hwq : w.heap.size ≤ gq := by omega
    rw [← hgq, ← hg] at I0
    rw [← hgq, ← hg]
    obtain ⟨W0, hW0⟩ : ∃ W, W = w1.alloc (.cells #[.slice none 0 0] 39) := ⟨_, rfl⟩
    rw [← hW0] at I0
    rw [← hW0]
    clear hgq hg hgl r1 hb1 hW0
    go_loopw [28] (fun i wr => ∃ (k : Nat) (m : RM), k ≤ n0 ∧ i = .int .i64 k ∧ m.length ≤ k ∧ RInv w g gq wr m) (fun i _ => n0 - (Go.RowKit.intOf i).toNat)
    case atStart => exact ⟨0, [], by omega, rfl, Nat.le_refl _, I0⟩
    case round =>
      clear I0
      obtain ⟨k, m, hk, rfl, hml, I⟩ := hrel
      by_cases hlt : (k : Int) < (n0 : Int)
      · have hkd : k < ds.length := by have := HLEN.out; omega
        obtain ⟨ad, rfl, hat⟩ := HD.out k hkd
        have hbw := I.2.2
        obtain ⟨hpl, v0, v1, v2, v3, q0, q1, q2, q3, hv⟩ := hat.below hbw
        obtain ⟨x, hx⟩ : ∃ x, x = ds[k] := ⟨_, rfl⟩
        rw [← hx] at hv
        have hone := doV_one hv
        have hcc := doC9_at q0 q1 q2 q3
        obtain ⟨rfl, rfl, hwf, ⟨M, mn, mc, rfl, hms, hmc, hmz, hmr⟩, rfl, hpm⟩ := hv
        obtain ⟨ask, e, ml, p⟩ := x
        simp only at hwf hms hpm hone hcc q0 q1 q2 q3
        obtain ⟨b5, hb5, hs5⟩ := put_new wr doZ (doC9 (.bool ask) (.int .i64 e) (.slice M mn mc) (.string ⟨p.toArray⟩)) 41 rfl
        have ht5 : (wr.alloc (.cells doZ.toArray 41)).there wr.heap.size 0 (doC9 (.bool ask) (.int .i64 e) (.slice M mn mc) (.string ⟨p.toArray⟩)).toArray.size := (Bl.new wr doZ 41).there_ (by simp [doC9, doZ])
        obtain ⟨W5, hW5⟩ : ∃ W, W = (wr.alloc (.cells doZ.toArray 41)).setCells wr.heap.size 0 (doC9 (.bool ask) (.int .i64 e) (.slice M mn mc) (.string ⟨p.toArray⟩)) := ⟨_, rfl⟩
        rw [← hW5] at b5 hb5
        have HW5 := Lib.hid hW5
        have d0 : W5.cell? ⟨wr.heap.size, 0, none⟩ = some (.bool ask) := b5.cell 0
        have d1 : W5.cell? ⟨wr.heap.size, 1, none⟩ = some (.int .i64 e) := b5.cell 1
        have d2 : W5.cell? ⟨wr.heap.size, 2, none⟩ = some (.slice M mn mc) := b5.cell 2
        have d3 : W5.cell? ⟨wr.heap.size, 3, none⟩ = some (.string ⟨p.toArray⟩) := b5.cell 3
        have hggd := I.1.lt
        obtain ⟨A, n, c, hq⟩ := I.2.1
        have hqgd := hq.1.lt
        have HOFF : Hid (∀ j, wr.heap.size ≤ j → Off j (m.length * 2) A) := fun j hj => hq.2.1.off hj
        have hq5 := hq.next hbw.size hb5
        have I5 := I.next hb5
        have hb5w := I5.2.2
        obtain ⟨gd, hgd⟩ : ∃ gd, gd = wr.heap.size := ⟨_, rfl⟩
        rw [← hgd] at d0 d1 d2 d3 b5 hggd hqgd HOFF
        have HGD := Lib.hid hgd.symm
        have hms5 : Sl W5 w.heap.size M mn (cb ml) := hms.below ((hb5.mono hbw.size))
        have HONE := Lib.hid hone
        have HCC := Lib.hid hcc
        have hs5' : gd < W5.heap.size := b5.lt
        clear hx hat q0 q1 q2 q3 hW5 I hms hs5 hgd hone hcc hb5 hq
        have hp63 : p.length ≤ 9223372036854775807 := by unfold maxLen at hpm; omega
        have HP63 := Lib.hid hp63
        clear hp63 hpm
        cases ask with
        | true =>
          go_wp2_with (first
            | (refine wpList_load_at rfl 41 _ rfl (ad.add (k * 4)) rfl (doC9 (.bool true) (.int .i64 e) (.slice M mn mc) (.string ⟨p.toArray⟩)) _ HCC.out Tryd.underlying41 rfl size_do9 ?_)
            | (refine wpList_alloc_zero rfl 41 rfl doZ zero_do9 ?_)
            | (refine wpList_store_mid rfl 41 _ _ rfl _ _ (doC9 (.bool true) (.int .i64 e) (.slice M mn mc) (.string ⟨p.toArray⟩)).toArray rfl rfl ht5 size_do9 (all_oneCell_toArray HONE.out) ?_; rw [← HW5.out, HGD.out])
            | fail)
          obtain ⟨R, hR⟩ : ∃ R, R = rkeyR m p e := ⟨_, rfl⟩
          obtain ⟨E, hE⟩ : ∃ R, R = rkeyE m p e := ⟨_, rfl⟩
          have HR : Hid (rkeyR m p e = R) := hR.symm
          have HE : Hid (rkeyE m p e = E) := hE.symm
          have ok := I5.1.2.1
          clear hR hE
          refine (lrkey_any g W5.heap.size m p e W5 I5.1 (HT.out.next hb5w)).mono ?_
          rintro r w6 ⟨A6, n6, c6, rfl, x6⟩
          rw [HE.out]
          rw [HR.out] at x6
          have I6 := I5.next x6.below
          have b6 := b5.next x6.below
          have d16 : w6.cell? ⟨gd, 1, none⟩ = some (.int .i64 e) := b6.cell 1
          have d36 : w6.cell? ⟨gd, 3, none⟩ = some (.string ⟨p.toArray⟩) := b6.cell 3
          have hq := hq5.next hb5w.size x6.below
          have hcq : w6.cell? ⟨gq, 0, none⟩ = some (.slice A n c) := hq.1.cell 0
          clear d0 d1 d2 d3
          go_wp2_with fail
          refine (rrkey_any m ok (by omega) p HP63.out e w6 w.heap.size A n c hq.2.1 I6.2.2.size).mono ?_
          rintro r w7 ⟨A7, n7, c7, rfl, x7⟩
          rw [HE.out]
          rw [HR.out] at x7
          have u1 := u8_str (x6.sl.nx x7.below) c6
          have u2 := u8_str x7.sl c7
          have own7 := own_below x6.own x7.below
          have hb57 := next x6.below x7.below
          have hn6 : R.length = n6 := by have := x6.own.1; rw [cb_len] at this; omega
          have HN6 := Lib.hid hn6
          have hn6s : n6 ≤ 32 := by rw [← hn6, ← HR.out]; exact rkeyR_len _ _ _
          have HXB : Hid (∀ k, (Value.slice A6 n6 c6).ownBlock = some k → W5.heap.size ≤ k) := fun k hk => own_blk x6.own hk
          clear I6 hq hcq d16 d36 x6 x7 b6 hn6
          go_wp2
          obtain ⟨w4, hw4⟩ : ∃ x, x = wr := ⟨wr, rfl⟩
          subst hw4
          go_loopw [64] (fun i wr => ∃ (j : Nat) (xs : List UInt8), j ≤ n6 ∧ i = .int .i64 j ∧ Hid (xs.length = n6) ∧ wr.ownsRow W5.heap.size 55 1 (.slice A6 n6 c6) n6 (cb xs) ∧ w7.grownBy wr (Value.slice A6 n6 c6).ownBlock) (fun i _ => n6 - (Go.RowKit.intOf i).toNat)
          case atStart => exact ⟨0, R, by omega, rfl, HN6, own7, World.grownBy.refl _ _⟩
          case round =>
            obtain ⟨j, xs, hj, rfl, HXL, hxo, hgx⟩ := hrel
            by_cases hjl : (j : Int) < (n6 : Int)
            · obtain ⟨gx, cx', ex, hgx0, hgxl⟩ := hxo.form (by omega)
              injection ex with ex _ ecx
              subst ex; subst ecx
              have hjx : j < xs.length := by rw [HXL.out]; omega
              obtain ⟨hcl, hfz, HB, HS⟩ := own_up hxo hjx
              have hb8 : xs[j].toNat < 256 := xs[j].toNat_lt
              clear hxo
              go_wp2
              go_roundw
              case rel => exact ⟨j + 1, xs.set j (UInt8.ofNat ((xs[j].toNat + 1) % 256)), by omega, by go_num, by unfold Hid; rw [List.length_set]; exact HXL.out, by rw [HB.out]; exact HS.out, but_setCell hgx _ _⟩
              case measure => simp [Go.RowKit.intOf]; omega
            · have hb8 : Below W5.heap.size W5 wr := hb57.grown hgx hb57.size (fun k hk => HXB.out k hk)
              have I8 := I5.next hb8
              clear hxo hgx I5 hb57 own7
              go_wp2
              go_roundw
              case rel => exact ⟨k + 1, m, by omega, by go_num, by omega, I8⟩
              case measure => simp [Go.RowKit.intOf]; omega
        | false =>
          obtain ⟨m', hm'⟩ : ∃ x, x = putM m e ml := ⟨_, rfl⟩
          obtain ⟨E, hE⟩ : ∃ x, x = putE m e ml := ⟨_, rfl⟩
          have HM : Hid (putM m e ml = m') := hm'.symm
          have HE : Hid (putE m e ml = E) := hE.symm
          have hml' : m'.length ≤ k + 1 := by rw [hm']; exact Nat.le_trans (putM_len _ _ _) (by omega)
          have ok := I5.1.2.1
          have ok' : RingOk m' := by rw [hm']; exact putM_ok ok _ _
          have r5 := I5.1
          have HMR := Lib.hid hmr
          clear hm' hE I5 hmr
          go_wp2_with (first
            | (refine wpList_load_at rfl 41 _ rfl (ad.add (k * 4)) rfl (doC9 (.bool false) (.int .i64 e) (.slice M mn mc) (.string ⟨p.toArray⟩)) _ HCC.out Tryd.underlying41 rfl size_do9 ?_)
            | (refine wpList_alloc_zero rfl 41 rfl doZ zero_do9 ?_)
            | (refine wpList_store_mid rfl 41 _ _ rfl _ _ (doC9 (.bool false) (.int .i64 e) (.slice M mn mc) (.string ⟨p.toArray⟩)).toArray rfl rfl ht5 size_do9 (all_oneCell_toArray HONE.out) ?_; rw [← HW5.out, HGD.out])
            | fail)
          refine (own_any ml W5 w.heap.size M mn mc hms5 hmz (by have := HMR.out; omega) hb5w.size).mono ?_
          rintro r w6 ⟨X, cx, rfl, x6⟩
          have r6 := (r5.next x6.below).up x6.below.size
          have hq6 := hq5.next hb5w.size x6.below
          have b6 := b5.next x6.below
          have hb6w := next hb5w x6.below
          have d16 : w6.cell? ⟨gd, 1, none⟩ = some (.int .i64 e) := b6.cell 1
          have hms6 := hms5.below (x6.below.mono hb5w.size)
          clear d0 d1 d2 d3 r5 hq5 b5 hms5
          go_wp2_with fail
          refine (lput_any g w6.heap.size m (by omega) e ml w6 r6 X mn cx x6.sl (own_cap x6.own) (Nat.le_refl _)).mono ?_
          rintro r w7 ⟨rfl, r7, gr7⟩
          rw [HE.out]
          rw [HM.out] at r7
          have hq7 := hq6.put hb6w.size gr7 hwg hne
          have b7 := b6.grown gr7 (fun e => by injection e with e; omega)
          have hb7w := below_but hb6w gr7 hb6w.size hwg
          have hms7 := sl_but hms6 gr7 hb6w.size hwg
          have own7 := own_keep x6.own (w' := w7) (fun j hj => gr7.block j (own_lt x6.own hj) (fun e => by injection e with e; have := own_blk x6.own hj; omega))
          have hlt7 : ∀ j, (Value.slice X mn cx).ownBlock = some j → W5.heap.size ≤ j ∧ j < w7.heap.size := fun j hj => ⟨own_blk x6.own hj, Nat.lt_of_lt_of_le (own_lt x6.own hj) gr7.size⟩
          have HLT7 := Lib.hid hlt7
          have hcq7 : w7.cell? ⟨gq, 0, none⟩ = some (.slice A n c) := hq7.1.cell 0
          have d17 : w7.cell? ⟨gd, 1, none⟩ = some (.int .i64 e) := b7.cell 1
          have d27 : w7.cell? ⟨gd, 2, none⟩ = some (.slice M mn mc) := b7.cell 2
          have hg7 := r7.lt
          have hgq7 := hq7.1.lt
          clear r6 hq6 b6 hb6w d16 hms6 gr7 x6 hlt7
          go_wp2_with fail
          refine (rput_any m ok (by omega) e ml w7 w.heap.size A n c hq7.2.1 hb7w.size M mn mc hms7 hmc).mono ?_
          rintro r w8 ⟨A', n', c', rfl, rr8, off8, hb8⟩
          rw [HE.out]
          rw [HM.out] at rr8 off8
          have r8 := (r7.next hb8).up hb8.size
          have bq8 := hq7.1.next hb8
          have o1 := off8 g hg7 hq7.2.2.1
          have o2 := off8 gq hgq7 hq7.2.2.2
          have HOX : Hid (∀ j, (Value.slice X mn cx).ownBlock = some j → Off j (m'.length * 2) A') := fun j hj => off8 j (HLT7.out j hj).2 (HOFF.out j (by have := (HLT7.out j hj).1; omega))
          have b8 := b7.next hb8
          have own8 := own_below own7 hb8
          have hb8w := next hb7w hb8
          -- the new variable p
          have hb9 : Below w8.heap.size w8 (w8.alloc (.cells #[.slice A' n' c'] 39)) := (Below.refl _ w8).alloc (Nat.le_refl _) _
          have b9p := Bl.newA w8 #[.slice A' n' c'] 39
          clear r7 hq7 b7 hb7w hms7 own7 hcq7 d17 d27 off8
          have bq9 := bq8.alloc (.cells #[.slice A' n' c'] 39)
          obtain ⟨W9, hW9⟩ : ∃ W, W = w8.alloc (.cells #[.slice A' n' c'] 39) := ⟨_, rfl⟩
          rw [← hW9] at bq9 hb9 b9p
          have HW9 : Hid (w8.alloc (.cells #[.slice A' n' c'] 39) = W9) := hW9.symm
          have hcq9 : W9.cell? ⟨gq, 0, none⟩ = some (.slice A n c) := bq9.cell 0
          have hfq9 := bq9.frozen 0
          have hcp9 : W9.cell? ⟨w8.heap.size, 0, none⟩ = some (.slice A' n' c') := b9p.cell 0
          have r9 := (r8.next hb9).up hb9.size
          have rr9 := rr8.next hb8w.size hb9
          have hb9w := next hb8w hb9
          obtain ⟨r10, q10⟩ := rq_set r9 bq9 rr9 o1 o2 hb9w hwq hne
          have b9 := b8.next hb9
          have own9 := own_below own8 hb9
          have b10 := b9.set_other ⟨gq, 0, none⟩ (.slice A' n' c') (by show gd ≠ gq; omega)
          have hb10w : Below w.heap.size w (W9.setCell ⟨gq, 0, none⟩ (.slice A' n' c')) := hb9w.setCell hwq _
          have own10 := own_keep own9 (w' := W9.setCell ⟨gq, 0, none⟩ (.slice A' n' c')) (fun j hj => heap_setCell_other W9 ⟨gq, 0, none⟩ j _ (by have := (HLT7.out j hj).1; show j ≠ gq; omega))
          obtain ⟨W10, hW10⟩ : ∃ W, W = W9.setCell ⟨gq, 0, none⟩ (.slice A' n' c') := ⟨_, rfl⟩
          rw [← hW10] at r10 q10 b10 hb10w own10
          have HW10 : Hid (W9.setCell ⟨gq, 0, none⟩ (.slice A' n' c') = W10) := hW10.symm
          have HMN : Hid (ml.length = mn) := by unfold Hid; have := own10.1; rw [cb_len] at this; omega
          have HXB : Hid (∀ j, (Value.slice X mn cx).ownBlock = some j → (∃ cs t fr, W10.heap[j]? = some (.cells cs t fr)) ∧ W5.heap.size ≤ j) := by
            intro j hj
            refine ⟨?_, (HLT7.out j hj).1⟩
            rcases own10.2 with ⟨hv, _⟩ | ⟨g', cap', cur, hv, _, hh, _⟩
            · rw [hv] at hj; cases hj
            · rw [hv] at hj
              have := Option.some.inj hj
              simp at this
              subst this
              exact ⟨_, _, _, hh⟩
          have hmnr : mn ≤ 140737488351232 := by have := HMR.out; omega
          clear hW9 hW10 r8 rr8 bq8 b8 own8 hb8w r9 rr9 b9 own9 hb9w bq9 hb9 b9p o1 o2 hb8 hg7 hgq7
          go_wp2_with (first | (rw [HW9.out]) | (rw [HW10.out]))
          obtain ⟨w4, hw4⟩ : ∃ x, x = wr := ⟨wr, rfl⟩
          subst hw4
          go_loopw [94] (fun i wr => ∃ (j : Nat) (xs : List UInt8), j ≤ mn ∧ i = .int .i64 j ∧ Hid (xs.length = mn) ∧ wr.ownsRow W5.heap.size 5 1 (.slice X mn cx) mn (cb xs) ∧ W10.grownBy wr (Value.slice X mn cx).ownBlock) (fun i _ => mn - (Go.RowKit.intOf i).toNat)
          case atStart => exact ⟨0, ml, by omega, rfl, HMN, own10, World.grownBy.refl _ _⟩
          case round =>
            obtain ⟨j, xs, hj, rfl, HXL, hxo, hgx⟩ := hrel
            by_cases hjl : (j : Int) < (mn : Int)
            · obtain ⟨gx, cx', ex, hgx0, hgxl⟩ := hxo.form (by omega)
              injection ex with ex _ ecx
              subst ex; subst ecx
              have hjx : j < xs.length := by rw [HXL.out]; omega
              obtain ⟨hcl, hfz, HB, HS⟩ := own_up hxo hjx
              have hb8 : xs[j].toNat < 256 := xs[j].toNat_lt
              clear hxo
              go_wp2
              go_roundw
              case rel => exact ⟨j + 1, xs.set j (UInt8.ofNat ((xs[j].toNat + 1) % 256)), by omega, by go_num, by unfold Hid; rw [List.length_set]; exact HXL.out, by rw [HB.out]; exact HS.out, but_setCell hgx _ _⟩
              case measure => simp [Go.RowKit.intOf]; omega
            · obtain ⟨w11, hw11⟩ : ∃ x, x = wr := ⟨wr, rfl⟩
              subst hw11
              have hX : ∀ j, (Value.slice X mn cx).ownBlock = some j → j ≠ g ∧ j ≠ gq ∧ j ≠ gd ∧ w.heap.size ≤ j := fun j hj => by have := (HXB.out j hj).2; omega
              have r11 := (rg_turn r10 hgx (fun j hj => ⟨(HXB.out j hj).1, (hX j hj).1⟩)).up hgx.size
              have q11 := rq_turn q10 hb10w.size hgx (fun j hj => ⟨(hX j hj).2.1, (hX j hj).2.2.2, HOX.out j hj⟩)
              have b11 := b10.grown hgx (fun e => (hX gd e).2.2.1 rfl)
              have hb11w := hb10w.grown hgx hb10w.size (fun j hj => (hX j hj).2.2.2)
              clear hxo hgx r10 q10 b10 hb10w own10 hX HXB HOX
              obtain ⟨Es, hEs⟩ : ∃ Es, Es = repochs m' := ⟨_, rfl⟩
              obtain ⟨nE, hnE⟩ : ∃ nE, nE = Es.length := ⟨_, rfl⟩
              have HEs : Hid (repochs m' = Es) := hEs.symm
              have HnE : Hid (Es.length = nE) := hnE.symm
              have hnE64 : nE ≤ 64 := by rw [hnE, hEs]; exact repochs_len _
              clear hEs hnE
              have keepS : Hid (∀ w', Below w11.heap.size w11 w' → w'.cell? ⟨gq, 0, none⟩ = some (.slice A' n' c')) := fun w' hb => (q11.1.next hb).cell 0
              have hbd : Below w11.heap.size w11 w11.drew := (Below.refl _ w11).drew
              go_wp2_with fail
              go_region_held3 (fun w' => w'.cell? ⟨gq, 0, none⟩ = some (.slice A' n' c'))
                (first | exact keepS.out _ (by assumption))
                (first
                  | (go_at_call 18; refine (lepochs_any g w11.heap.size m' (by omega) _ (r11.next hbd)).mono ?_; rintro r w12 ⟨va, rfl, owna, hb12⟩; rw [HEs.out, HnE.out] at owna; obtain ⟨Aa, ca, rfl⟩ := own_form owna; replace hb12 := next hbd hb12)
                  | (go_at_call 19; refine (repochs_any m' ok' (by omega) _ w.heap.size A' n' c' (q11.2.1.next hb11w.size hb12) (Nat.le_trans hb11w.size hb12.size)).mono ?_; rintro r w13 ⟨vb, rfl, ownb, hb13⟩; rw [HEs.out, HnE.out] at ownb; obtain ⟨Ab, cb', rfl⟩ := own_form ownb; replace owna := own_below owna hb13; replace hb13 := next hb12 hb13))
              have r13 := (r11.next hb13).up hb13.size
              have q13 := q11.next hb11w.size hb13
              have b13 := b11.next hb13
              have hb13w := next hb11w hb13
              clear r11 q11 b11 hb11w hb12 hb13 hbd keepS
              obtain ⟨S, hSd⟩ : ∃ S : World → Prop, S = fun w' => w'.cell? ⟨gq, 0, none⟩ = some (.slice A' n' c') ∧ w'.cell? ⟨gd, 1, none⟩ = some (.int .i64 e) := ⟨_, rfl⟩
              have HS0 : Hid (∀ w', S w' → w'.cell? ⟨gq, 0, none⟩ = some (.slice A' n' c')) := by unfold Hid; intro w' h; rw [hSd] at h; exact h.1
              have HS1 : Hid (∀ w', S w' → w'.cell? ⟨gd, 1, none⟩ = some (.int .i64 e)) := by unfold Hid; intro w' h; rw [hSd] at h; exact h.2
              have HSI : Hid (∀ w', Below w13.heap.size w13 w' → S w') := by unfold Hid; intro w' hb; rw [hSd]; exact ⟨(q13.1.next hb).cell 0, (b13.next hb).cell 1⟩
              have hbd13 : Below w13.heap.size w13 w13.drew := (Below.refl _ w13).drew
              have hS : S w13.drew := HSI.out _ hbd13
              clear hSd
              go_wp2_with fail
              refine wp_region_held_drew (S := S) (by kernel_rfl) hS (fun _ => ?_)
              refine wpAnyH_take (i := 0) (v := (.int .i64 E)) rfl (by kernel_rfl) (by kernel_rfl) (by kernel_rfl) (fun _ _ _ h => h) (Or.inl ⟨by rfl, fun _ hSw => by go_simp⟩) hS ?_
              simp only [List.getElem_toArray, List.getElem_cons_succ, List.getElem_cons_zero, Act.put, List.setIfInBounds_toArray, List.set_cons_zero, List.set_cons_succ]
              refine wpAnyH_take (i := 1) (v := (.int .i64 E)) rfl (by kernel_rfl) (by kernel_rfl) (by kernel_rfl) (fun _ _ _ h => h) (Or.inl ⟨by rfl, fun _ hSw => by go_simp⟩) hS ?_
              simp only [List.getElem_toArray, List.getElem_cons_succ, List.getElem_cons_zero, Act.put, List.setIfInBounds_toArray, List.set_cons_zero, List.set_cons_succ]
              refine wpAnyH_take (i := 2) (v := (.bool false)) rfl (by kernel_rfl) (by kernel_rfl) (by kernel_rfl) (fun _ _ _ h => h) (Or.inl ⟨by rfl, fun _ hSw => by go_simp⟩) hS ?_
              simp only [List.getElem_toArray, List.getElem_cons_succ, List.getElem_cons_zero, Act.put, List.setIfInBounds_toArray, List.set_cons_zero, List.set_cons_succ]
              refine wpAnyH_take (i := 3) (v := (.bool false)) rfl (by kernel_rfl) (by kernel_rfl) (by kernel_rfl) (fun _ _ _ h => h) (Or.inl ⟨by rfl, fun _ hSw => by go_simp⟩) hS ?_
              simp only [List.getElem_toArray, List.getElem_cons_succ, List.getElem_cons_zero, Act.put, List.setIfInBounds_toArray, List.set_cons_zero, List.set_cons_succ]
              refine wpAnyH_take (i := 4) (v := (.slice Aa nE ca)) rfl (by kernel_rfl) (by kernel_rfl) (by kernel_rfl) (fun _ _ _ h => h) (Or.inl ⟨by rfl, fun _ hSw => by go_simp⟩) hS ?_
              simp only [List.getElem_toArray, List.getElem_cons_succ, List.getElem_cons_zero, Act.put, List.setIfInBounds_toArray, List.set_cons_zero, List.set_cons_succ]
              refine wpAnyH_take (i := 5) (v := (.int .i64 nE)) rfl (by kernel_rfl) (by kernel_rfl) (by kernel_rfl) (fun _ _ _ h => h) (Or.inl ⟨by rfl, fun _ hSw => by go_simp⟩) hS ?_
              simp only [List.getElem_toArray, List.getElem_cons_succ, List.getElem_cons_zero, Act.put, List.setIfInBounds_toArray, List.set_cons_zero, List.set_cons_succ]
              refine wpAnyH_take (i := 6) (v := (.slice Ab nE cb')) rfl (by kernel_rfl) (by kernel_rfl) (by kernel_rfl) (fun _ _ _ h => h) (Or.inl ⟨by rfl, fun _ hSw => by go_simp⟩) hS ?_
              simp only [List.getElem_toArray, List.getElem_cons_succ, List.getElem_cons_zero, Act.put, List.setIfInBounds_toArray, List.set_cons_zero, List.set_cons_succ]
              refine wpAnyH_take (i := 7) (v := (.int .i64 nE)) rfl (by kernel_rfl) (by kernel_rfl) (by kernel_rfl) (fun _ _ _ h => h) (Or.inl ⟨by rfl, fun _ hSw => by go_simp⟩) hS ?_
              simp only [List.getElem_toArray, List.getElem_cons_succ, List.getElem_cons_zero, Act.put, List.setIfInBounds_toArray, List.set_cons_zero, List.set_cons_succ]
              refine wpAnyH_take (i := 8) (v := (.bool false)) rfl (by kernel_rfl) (by kernel_rfl) (by kernel_rfl) (fun _ _ _ h => h) (Or.inl ⟨by rfl, fun _ hSw => by go_simp⟩) hS ?_
              simp only [List.getElem_toArray, List.getElem_cons_succ, List.getElem_cons_zero, Act.put, List.setIfInBounds_toArray, List.set_cons_zero, List.set_cons_succ]
              refine wpAnyH_take (i := 9) (v := (.bool false)) rfl (by kernel_rfl) (by kernel_rfl) (by kernel_rfl) (fun _ _ _ h => h) (Or.inl ⟨by rfl, fun _ hSw => by go_simp⟩) hS ?_
              simp only [List.getElem_toArray, List.getElem_cons_succ, List.getElem_cons_zero, Act.put, List.setIfInBounds_toArray, List.set_cons_zero, List.set_cons_succ]
              refine wpAnyH_take (i := 10) (v := (.bool false)) rfl (by kernel_rfl) (by kernel_rfl) (by kernel_rfl) (fun _ _ _ h => h) (Or.inl ⟨by rfl, fun _ hSw => by go_simp⟩) hS ?_
              simp only [List.getElem_toArray, List.getElem_cons_succ, List.getElem_cons_zero, Act.put, List.setIfInBounds_toArray, List.set_cons_zero, List.set_cons_succ]
              refine wpAnyH_take (i := 11) (v := (.pointer (some ⟨g, 0, none⟩))) rfl (by kernel_rfl) (by kernel_rfl) (by kernel_rfl) (fun _ _ _ h => h) (Or.inl ⟨by rfl, fun _ hSw => by go_simp⟩) hS ?_
              simp only [List.getElem_toArray, List.getElem_cons_succ, List.getElem_cons_zero, Act.put, List.setIfInBounds_toArray, List.set_cons_zero, List.set_cons_succ]
              refine wpAnyH_take (i := 13) (v := (.agg #[.slice A' n' c'])) rfl (by kernel_rfl) (by kernel_rfl) (by kernel_rfl) (fun _ _ _ h => h) (Or.inl ⟨by rfl, fun w' hSw => by have hq := HS0.out w' hSw; go_simp⟩) hS ?_
              simp only [List.getElem_toArray, List.getElem_cons_succ, List.getElem_cons_zero, Act.put, List.setIfInBounds_toArray, List.set_cons_zero, List.set_cons_succ]
              refine wpAnyH_ready (rs := [12]) (by kernel_rfl) (by simp) (AllReadyH.cons rfl (fun K hK => ?_) AllReadyH.nil)
              simp only [List.getElem_toArray, List.getElem_cons_succ, List.getElem_cons_zero, Act.put, List.setIfInBounds_toArray, List.set_cons_zero, List.set_cons_succ]
              go_simp
              refine (llast_any g w13.heap.size m' _ (r13.next hbd13)).mono ?_
              rintro r w14 ⟨L, rfl, hL, hb14⟩
              replace hb14 := next hbd13 hb14
              replace hS := HSI.out _ hb14
              refine hK.out _ _ hS (fun _ => ?_)
              clear hK K hbd13
              refine wpAnyH_ready (rs := [14]) (by kernel_rfl) (by simp) (AllReadyH.cons rfl (fun K hK => ?_) AllReadyH.nil)
              simp only [List.getElem_toArray, List.getElem_cons_succ, List.getElem_cons_zero, Act.put, List.setIfInBounds_toArray, List.set_cons_zero, List.set_cons_succ]
              go_simp
              refine (rlast_any m' ok' (by omega) _ w.heap.size A' n' c' (q13.2.1.next hb13w.size hb14) (Nat.le_trans hb13w.size hb14.size)).mono ?_
              rintro r w15 ⟨L', rfl, hL', hb15⟩
              obtain rfl := last_one hL' hL
              replace hb15 := next hb14 hb15
              replace hS := HSI.out _ hb15
              refine hK.out _ _ hS (fun _ => ?_)
              clear hK K hb14 hL hL'
              refine wpAnyH_take (i := 15) (v := (.bool false)) rfl (by kernel_rfl) (by kernel_rfl) (by kernel_rfl) (fun _ _ _ h => h) (Or.inl ⟨by rfl, fun _ hSw => by go_simp⟩) hS ?_
              simp only [List.getElem_toArray, List.getElem_cons_succ, List.getElem_cons_zero, Act.put, List.setIfInBounds_toArray, List.set_cons_zero, List.set_cons_succ]
              refine wpAnyH_take (i := 16) (v := (.bool false)) rfl (by kernel_rfl) (by kernel_rfl) (by kernel_rfl) (fun _ _ _ h => h) (Or.inl ⟨by rfl, fun _ hSw => by go_simp⟩) hS ?_
              simp only [List.getElem_toArray, List.getElem_cons_succ, List.getElem_cons_zero, Act.put, List.setIfInBounds_toArray, List.set_cons_zero, List.set_cons_succ]
              refine wpAnyH_take (i := 17) (v := (.bool false)) rfl (by kernel_rfl) (by kernel_rfl) (by kernel_rfl) (fun _ _ _ h => h) (Or.inl ⟨by rfl, fun _ hSw => by go_simp⟩) hS ?_
              simp only [List.getElem_toArray, List.getElem_cons_succ, List.getElem_cons_zero, Act.put, List.setIfInBounds_toArray, List.set_cons_zero, List.set_cons_succ]
              refine wpAnyH_take (i := 18) (v := (.pointer (some ⟨g, 0, none⟩))) rfl (by kernel_rfl) (by kernel_rfl) (by kernel_rfl) (fun _ _ _ h => h) (Or.inl ⟨by rfl, fun _ hSw => by go_simp⟩) hS ?_
              simp only [List.getElem_toArray, List.getElem_cons_succ, List.getElem_cons_zero, Act.put, List.setIfInBounds_toArray, List.set_cons_zero, List.set_cons_succ]
              refine wpAnyH_take (i := 19) (v := (.pointer (some ⟨gd, 1, none⟩))) rfl (by kernel_rfl) (by kernel_rfl) (by kernel_rfl) (fun _ _ _ h => h) (Or.inl ⟨by rfl, fun _ hSw => by go_simp⟩) hS ?_
              simp only [List.getElem_toArray, List.getElem_cons_succ, List.getElem_cons_zero, Act.put, List.setIfInBounds_toArray, List.set_cons_zero, List.set_cons_succ]
              refine wpAnyH_take (i := 20) (v := (.int .i64 e)) rfl (by kernel_rfl) (by kernel_rfl) (by kernel_rfl) (fun _ _ _ h => h) (Or.inl ⟨by rfl, fun w' hSw => by have hq := HS1.out w' hSw; go_simp⟩) hS ?_
              simp only [List.getElem_toArray, List.getElem_cons_succ, List.getElem_cons_zero, Act.put, List.setIfInBounds_toArray, List.set_cons_zero, List.set_cons_succ]
              refine wpAnyH_take (i := 23) (v := (.agg #[.slice A' n' c'])) rfl (by kernel_rfl) (by kernel_rfl) (by kernel_rfl) (fun _ _ _ h => h) (Or.inl ⟨by rfl, fun w' hSw => by have hq := HS0.out w' hSw; go_simp⟩) hS ?_
              simp only [List.getElem_toArray, List.getElem_cons_succ, List.getElem_cons_zero, Act.put, List.setIfInBounds_toArray, List.set_cons_zero, List.set_cons_succ]
              refine wpAnyH_take (i := 24) (v := (.pointer (some ⟨gd, 1, none⟩))) rfl (by kernel_rfl) (by kernel_rfl) (by kernel_rfl) (fun _ _ _ h => h) (Or.inl ⟨by rfl, fun _ hSw => by go_simp⟩) hS ?_
              simp only [List.getElem_toArray, List.getElem_cons_succ, List.getElem_cons_zero, Act.put, List.setIfInBounds_toArray, List.set_cons_zero, List.set_cons_succ]
              refine wpAnyH_take (i := 25) (v := (.int .i64 e)) rfl (by kernel_rfl) (by kernel_rfl) (by kernel_rfl) (fun _ _ _ h => h) (Or.inl ⟨by rfl, fun w' hSw => by have hq := HS1.out w' hSw; go_simp⟩) hS ?_
              simp only [List.getElem_toArray, List.getElem_cons_succ, List.getElem_cons_zero, Act.put, List.setIfInBounds_toArray, List.set_cons_zero, List.set_cons_succ]
              obtain ⟨ML, hML⟩ : ∃ l, l = (rfind m' e).getD [] := ⟨_, rfl⟩
              obtain ⟨nM, hnM⟩ : ∃ n, n = ML.length := ⟨_, rfl⟩
              have HML : Hid ((rfind m' e).getD [] = ML) := hML.symm
              have HnM : Hid (ML.length = nM) := hnM.symm
              clear hML hnM
              refine wpAnyH_ready (rs := [21]) (by kernel_rfl) (by simp) (AllReadyH.cons rfl (fun K hK => ?_) AllReadyH.nil)
              simp only [List.getElem_toArray, List.getElem_cons_succ, List.getElem_cons_zero, Act.put, List.setIfInBounds_toArray, List.set_cons_zero, List.set_cons_succ]
              go_simp
              refine (lmaster_any g w13.heap.size m' e w15 (r13.next hb15) hwf).mono ?_
              rintro r w16 ⟨K1, d1, rfl, x16⟩
              have x16' : NewBytes 29 w15 nM ML K1 d1 w16 := by rw [HML.out, HnM.out] at x16; exact x16
              rw [HML.out, HnM.out]
              have hb16 := next hb15 x16'.below
              replace hS := HSI.out _ hb16
              refine hK.out _ _ hS (fun _ => ?_)
              clear hK K x16
              have sK1 := x16'.sl
              clear x16' hb15
              obtain ⟨S2, hS2d⟩ : ∃ S2 : World → Prop, S2 = fun w' => S w' ∧ (convert 22 9 (.slice K1 nM d1)).run Tryd.prog w' = .ok (.string ⟨ML.toArray⟩) w' := ⟨_, rfl⟩
              have HS2a : Hid (∀ w', S2 w' → S w') := by unfold Hid; intro w' h; rw [hS2d] at h; exact h.1
              have HS2b : Hid (∀ w', S2 w' → (convert 22 9 (.slice K1 nM d1)).run Tryd.prog w' = .ok (.string ⟨ML.toArray⟩) w') := by unfold Hid; intro w' h; rw [hS2d] at h; exact h.2
              have HS2I : Hid (∀ w', Below w16.heap.size w16 w' → S2 w') := by unfold Hid; intro w' hb; rw [hS2d]; exact ⟨HSI.out _ (next hb16 hb), u8_str (sK1.nx hb) d1⟩
              clear hS2d hS
              have hS : S2 w16 := HS2I.out _ (Below.refl _ _)
              refine wpAnyH_mono (S' := S2) (fun w' h => HS2a.out w' h) _ _ _ _ ?_
              refine wpAnyH_take (i := 22) (v := .string ⟨ML.toArray⟩) rfl (by kernel_rfl) (by kernel_rfl) (by kernel_rfl) (fun _ _ _ h => h) (Or.inl ⟨by rfl, fun w' hw' => exec_convert w' _ _ _ rfl _ _ rfl (HS2b.out w' hw')⟩) hS ?_
              simp only [List.getElem_toArray, List.getElem_cons_succ, List.getElem_cons_zero, Act.put, List.setIfInBounds_toArray, List.set_cons_zero, List.set_cons_succ]
              refine wpAnyH_ready (rs := [26]) (by kernel_rfl) (by simp) (AllReadyH.cons rfl (fun K hK => ?_) AllReadyH.nil)
              simp only [List.getElem_toArray, List.getElem_cons_succ, List.getElem_cons_zero, Act.put, List.setIfInBounds_toArray, List.set_cons_zero, List.set_cons_succ]
              go_simp
              refine (rmaster_any m' ok' (by omega) e w16 w.heap.size A' n' c' (q13.2.1.next hb13w.size hb16) (Nat.le_trans hb13w.size hb16.size)).mono ?_
              rintro r w17 ⟨K2, k2, d2, rfl, sK2, hk2, hb17⟩
              rw [HML.out] at sK2
              have u2 := u8_str sK2 d2
              replace hS := HS2I.out _ hb17
              refine hK.out _ _ hS (fun _ => ?_)
              clear hK K hk2 sK1 sK2
              replace hb17 := next hb16 hb17
              refine wpAnyH_ready (rs := [27]) (by kernel_rfl) (by simp) (AllReadyH.cons rfl (fun K hK => ?_) AllReadyH.nil)
              simp only [List.getElem_toArray, List.getElem_cons_succ, List.getElem_cons_zero, Act.put, List.setIfInBounds_toArray, List.set_cons_zero, List.set_cons_succ]
              go_simp
              refine hK.out _ _ hS (fun _ => ?_)
              clear hK K
              refine wpAnyH_take (i := 28) (v := (.bool false)) rfl (by kernel_rfl) (by kernel_rfl) (by kernel_rfl) (fun _ _ _ h => h) (Or.inl ⟨by rfl, fun _ hSw => by go_simp⟩) hS ?_
              simp only [List.getElem_toArray, List.getElem_cons_succ, List.getElem_cons_zero, Act.put, List.setIfInBounds_toArray, List.set_cons_zero, List.set_cons_succ]
              refine wpAnyH_take (i := 29) (v := (.bool false)) rfl (by kernel_rfl) (by kernel_rfl) (by kernel_rfl) (fun _ _ _ h => h) (Or.inl ⟨by rfl, fun _ hSw => by go_simp⟩) hS ?_
              simp only [List.getElem_toArray, List.getElem_cons_succ, List.getElem_cons_zero, Act.put, List.setIfInBounds_toArray, List.set_cons_zero, List.set_cons_succ]
              refine wpAnyH_done (by kernel_rfl) ?_ _
              have r17 := (r13.next hb17).up hb17.size
              have q17 := q13.next hb13w.size hb17
              have hb17w := next hb13w hb17
              have owna17 := own_below owna hb17
              have ownb17 := own_below ownb hb17
              clear hS HS0 HS1 HSI HS2a HS2b HS2I r13 q13 b13 hb13w owna ownb hb17 hb16 u2
              go_wp2
              go_loopw [140] (fun i wr => ∃ (j : Nat), j ≤ nE ∧ i = .int .i64 j ∧ Below w17.heap.size w17 wr) (fun i _ => nE - (Go.RowKit.intOf i).toNat)
              case atStart => exact ⟨0, by omega, rfl, Below.refl _ _⟩
              case round =>
                obtain ⟨j, hj, rfl, hbj⟩ := hrel
                by_cases hjl : (j : Int) < (nE : Int)
                · have oa := own_below owna17 hbj
                  have ob := own_below ownb17 hbj
                  obtain ⟨ga, ca', ea, _, _⟩ := oa.form (by omega)
                  obtain ⟨gb, cb2, eb, _, _⟩ := ob.form (by omega)
                  injection ea with ea _ eca
                  injection eb with eb _ ecb
                  subst ea; subst eca; subst eb; subst ecb
                  have hjE : j < Es.length := by have := HnE.out; omega
                  have ha : wr.cell? ⟨ga, j, none⟩ = some (.int .i64 Es[j]) := by rw [oa.cellAt j (by omega)]; simp [hjE]
                  have hb : wr.cell? ⟨gb, j, none⟩ = some (.int .i64 Es[j]) := by rw [ob.cellAt j (by omega)]; simp [hjE]
                  clear oa ob
                  go_wp2
                  go_quiet (fail)
                  go_wp2
                  go_roundw
                  case rel => exact ⟨j + 1, by omega, by go_num, ⟨hbj.os, hbj.tape, hbj.output, hbj.size, hbj.block⟩⟩
                  case measure => simp [Go.RowKit.intOf]; omega
                · have I18 : RInv w g gq wr m' := ⟨(r17.next hbj).up hbj.size, ⟨A', n', c', q17.next hb17w.size hbj⟩, next hb17w hbj⟩
                  clear r17 q17 owna17 ownb17 hb17w hbj
                  go_wp2
                  go_roundw
                  case rel => exact ⟨k + 1, m', by omega, by go_num, hml', I18⟩
                  case measure => simp [Go.RowKit.intOf]; omega
      · go_wp2_with (go_at_call 10; refine (awake9_any _ (HT.out.next I.2.2)).mono ?_; rintro r w9 ⟨rfl, hb9⟩)
        go_ret
        exact ⟨rfl, next I.2.2 hb9⟩
  · have hbig' : (40 : Int) < (n0 : Int) := by omega
    go_enter Tryd.func5, Tryd.ntmps5
    go_wp2_with (go_at_call 10; refine (awake9_any w HT.out).mono ?_; rintro e w9 ⟨rfl, hb9⟩)
    go_ret
    exact ⟨rfl, hb9⟩

end Go.Proofs.YtkkpdeembndneaaDoor
