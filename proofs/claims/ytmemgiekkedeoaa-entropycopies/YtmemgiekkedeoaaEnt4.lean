/- The walk of the law EntropyCopies. -/
import Derived.Test.YtmemgiekkedeoaaEntU
namespace Go.Proofs.Ytmemgiekkedeoaa
set_option maxRecDepth 100000
open Go.RowKit
set_option linter.unusedVariables false
set_option linter.unusedSimpArgs false

set_option maxRecDepth 100000 in
set_option maxHeartbeats 4000000 in
theorem entropyCopies_walk (A0 : Option Addr) (n0 c0 : Nat) (l0 : List UInt8) (A1 : Option Addr) (n1 c1 : Nat) (l1 : List (Int × List UInt8)) (a2 : Int) (w : World) (s0 : InBytes w A0 n0 c0 l0) (s1 : InDos w A1 n1 c1 l1) (w2 : (Lit.int .u8 a2).wf = true) :
    Calls Try.prog 5 #[.slice A0 n0 c0, .slice A1 n1 c1, .int .u8 a2] w fun e w' => e = .returned (.bool true) ∧ Below w.heap.size w w' := by
  obtain ⟨i0, hi, hz0, hz1, hz2⟩ := info_parts u8_info
  have y0 := s0.sl
  have z0 := s0.none_
  have p0 := s0.cap
  have HN0 := Lib.hid s0.len
  have hd := s1.dos
  have HN1 := Lib.hid s1.len
  have hca := s1.cap
  have hna := s1.none_
  have hra := s1.room
  obtain ⟨hu0, hu1⟩ := bounds_u8 w2
  clear s0 s1 w2
  have hfew := few_any l1 w A0 A1 n0 c0 n1 c1 hd HN1.out
  cases hf : fewB n0 l1 with
  | false =>
    rw [hf] at hfew
    go_enter Try.func5, Try.ntmps5
    go_wp2_with fail
    refine hfew.mono ?_
    rintro e w1 ⟨rfl, hb1⟩
    go_wp2_with fail
    refine (awake8_any w1).mono ?_
    rintro e w2 ⟨rfl, hb2⟩
    go_wp2
    go_ret
    exact ⟨rfl, next hb1 hb2⟩
  | true =>
    rw [hf] at hfew
    obtain ⟨h30, h4000, h400⟩ := few_yes hf
    have H400 := Lib.hid h400
    rw [← HN1.out] at h30
    clear hf h400
    go_enter Try.func5, Try.ntmps5
    go_wp2_with fail
    refine hfew.mono ?_
    rintro e w1 ⟨rfl, hb1⟩
    have y1 := y0.nx hb1
    have own1 := World.ownsRow_lit (base := w1.heap.size) (e := 5) (size := 1) w1 #[] 0 (Nat.le_refl _) (by decide) rfl
    have y2 := y1.nx ((Below.refl _ w1).alloc (Nat.le_refl _) (.cells #[] 5))
    clear hfew
    go_wp2_with (at_builtin; refine wpList_append_sl _ rfl _ _ 22 rfl w1.heap.size 5 i0 (.int .u8 0) 1 Try.underlying22 hi hz0 hz1 hz2 rfl _ 0 [] rfl own1 _ A0 n0 c0 (cb l0) rfl y2 z0 (cb_one _) (by unfold maxLen; omega) (by omega) (by simp) ?_; intro v2 w2 own2 gr2 at2; obtain ⟨X, cx, rfl⟩ := own_form own2)
    rw [Nat.zero_add, List.nil_append] at own2
    have hb2 : Below w1.heap.size w1 w2 := below_app ((Below.refl w1.heap.size w1).alloc (Nat.le_refl _) _) (Nat.le_refl _) own1 gr2
    clear own1 y2 gr2 at2
    refine (enew_any l0 w2 X n0 cx (Sl.own own2) (own_cap own2) (own_none own2) (by omega)).mono ?_
    rintro e w3 ⟨g, A3, c3, rfl, hg3, s3, hnew3, hb3⟩
    have hbw2 := next hb1 hb2
    have hbw3 := next hbw2 hb3
    have y3 := y0.nx hbw3
    obtain ⟨w4, HW4, ht4, b4, hb4, hs4⟩ := put_rs w3 A0 n0 c0 0 29
    have hbw4 := next hbw3 hb4
    have hg3l := s3.lt
    obtain ⟨gr, hgr⟩ : ∃ x, x = w3.heap.size := ⟨_, rfl⟩
    obtain ⟨F, hF⟩ : ∃ F : Nat → Prop, F = fun k => k = g ∨ k = gr := ⟨_, rfl⟩
    have B4 : Both F w4 g gr A3 n0 c3 l0 0 A0 c0 := by
      refine ⟨s3.next hb4, ?_, y3.nx hb4, p0, z0, fun k hk => ?_⟩
      · rw [hgr]; exact b4
      · rw [hF] at hk
        have h1 := hbw2.size
        refine ⟨fun h0 ad e => ?_, fun h0 ad e => ?_⟩
        · rcases hk with rfl | rfl
          · exact s3.off h0 ad e
          · have := sl_lt s3.sl h0 e; omega
        · have := sl_lt y0 h0 e
          rcases hk with rfl | rfl <;> omega
    have HFg : Hid (F g) := by unfold Hid; rw [hF]; exact .inl rfl
    have HFr : Hid (F gr) := by unfold Hid; rw [hF]; exact .inr rfl
    have HFE : Hid (∀ k, F k → k = g ∨ k = gr) := by unfold Hid; intro k hk; rw [hF] at hk; exact hk
    have HG := Lib.hid hgr
    have hgw : w.heap.size ≤ g := Nat.le_trans hbw2.size hg3
    have hrw : w.heap.size ≤ gr := by rw [hgr]; exact hbw3.size
    have hne : g ≠ gr := by omega
    rw [← hgr] at HW4 ht4
    obtain ⟨u, rfl⟩ : ∃ u : Nat, a2 = (u : Int) := ⟨a2.toNat, by omega⟩
    obtain ⟨kk, hkk, hkn⟩ : ∃ kk : Nat, (u : Int) % ((n1 : Int) + 1) = (kk : Int) ∧ kk ≤ n1 := ⟨u % (n1 + 1), by simp, Nat.lt_succ_iff.1 (Nat.mod_lt _ (Nat.succ_pos _))⟩
    clear hF hgr own2 s3 b4 hb3 hb4 y3 y1 hbw2 hbw3 hnew3 hg3l hg3 hb2 hb1
    go_wp2_with (first
      | (refine wpList_slice_top rfl 23 _ _ rfl 31 2 Try.underlying23 size_do A1 n1 c1 kk .i64 _ rfl rfl rfl (by omega) ?_)
      | (refine wpList_build_to rfl 29 _ rfl (rsC A0 n0 c0 0) (built_rs0 A0 n0 c0) ?_)
      | (refine wpList_alloc_zero rfl 29 rfl (rsC none 0 0 0) zero_rs ?_; rw [← HG.out])
      | (refine wpList_store_mid rfl 29 _ _ rfl _ _ (rsC A0 n0 c0 0).toArray rfl rfl ht4 size_rs (all_oneCell_toArray (rsC_one _ _ _ _)) ?_; rw [HW4.out]))
    rw [hkk]
    clear hkk
    go_loopw [39] (fun i wr => ∃ (k n c d rc : Nat) (A R : Option Addr) (l : List UInt8), k ≤ kk ∧ i = .int .i64 k ∧ Both F wr g gr A n c l d R rc ∧ n + d ≤ 4000 + 400 * k ∧ Below w.heap.size w wr) (fun i _ => kk - (intOf i).toNat)
    case atStart => exact ⟨0, n0, c3, 0, c0, A3, A0, l0, by omega, rfl, B4, by omega, hbw4⟩
    case round =>
      clear B4 hbw4
      obtain ⟨k, n, c, d, rc, A, R, l, hk, rfl, BB, hsum, hb⟩ := hrel
      by_cases hlt : k < kk
      · have hkI : (k : Int) < (kk : Int) := by omega
        have hkd : k < l1.length := by have := HN1.out; omega
        obtain ⟨ad, rfl, hat⟩ := hd k hkd
        obtain ⟨hwf, hpl, M, mc, hq0, hq1, hms, hmc, hmz, hmm⟩ := hat.below hb
        have h4 := H400.out k hkd
        obtain ⟨x, hx⟩ : ∃ x, x = l1[k] := ⟨_, rfl⟩
        rw [← hx] at hwf hq0 hq1 hms hmc hmm h4
        have hcc := doC_at hq0 hq1
        clear hx hq0 hq1 hat hmm
        obtain ⟨W5, HW5, ht5, b5, hb5, hs5, e50, e51⟩ := put_do wr x.1 M x.2.length mc 31
        have B5 := BB.next hb5
        have hbw5 : Below w.heap.size w W5 := hb.trans (hb5.mono hb.size)
        have hms5 := ((hms.up hb.size).nx hb5)
        have hmo : Off g x.2.length M := Sl.off hms hgw
        clear BB hms hb5
        go_wp2_with (first
          | (refine wpList_load_at rfl 31 _ rfl (ad.add (k * 2)) rfl (doC x.1 M x.2.length mc) _ hcc Try.underlying31 rfl size_do ?_)
          | (refine wpList_alloc_zero rfl 31 rfl (doC 0 none 0 0) zero_do ?_)
          | (refine wpList_store_mid rfl 31 _ _ rfl _ _ (doC x.1 M x.2.length mc).toArray rfl rfl ht5 size_do (all_oneCell_toArray (doC_one _ _ _ _)) ?_; rw [HW5.out])
          | (refine wpList_load_mid rfl 29 _ rfl _ _ rfl (rsC R n rc (d : Int)) _ B5.bl.whole Try.underlying29 rfl size_rs ?_)
          | (refine wpList_load_mid rfl 31 _ rfl _ _ rfl (doC x.1 M x.2.length mc) _ b5.whole Try.underlying31 rfl size_do ?_))
        refine (does_any g l x.2 d x.1 W5 A R M n c n rc x.2.length mc B5.src B5.sl B5.cap B5.nn (B5.away g HFg.out).2 hms5 hmc hmz hmo (by omega)).mono ?_
        intro e w7 hpost
        have hg5 := B5.src.lt
        have hr5 := B5.bl.lt
        obtain ⟨A7, n7, c7, l7, d7, R7, rc7, rfl, ht7, ⟨W8, HW8, B8, g78⟩, hsum7, g57⟩ := B5.step (fun k hk => by rcases HFE.out k hk with rfl | rfl <;> assumption) HFg.out HFr.out hne hpost
        have hb8 : Below w.heap.size w W8 := below_but (below_but hbw5 g57 hbw5.size hgw) g78 (Nat.le_trans hbw5.size g57.size) hrw
        clear hpost B5 hms5 hbw5 g57 g78
        go_wp2_with (refine wpList_store_mid rfl 29 _ _ rfl _ _ (rsC R7 n7 rc7 (d7 : Int)).toArray rfl rfl ht7 size_rs (all_oneCell_toArray (rsC_one _ _ _ _)) ?_; rw [HW8.out])
        go_roundw
        case rel => exact ⟨k + 1, n7, c7, d7, rc7, A7, R7, l7, by omega, by go_num, B8, by omega, hb8⟩
        case measure => simp [intOf]; omega
      · have hkI : ¬ (k : Int) < (kk : Int) := by omega
        go_wp2_with fail
        obtain ⟨W9, hW9⟩ : ∃ W, W = wr.drew := ⟨_, rfl⟩
        have hbd : Below wr.heap.size wr W9 := by rw [hW9]; exact (Below.refl _ wr).drew
        have B9 := BB.next hbd
        have hb9 := next hb hbd
        have hg9 := B9.src.lt
        have hr9 := B9.bl.lt
        obtain ⟨S, hSd⟩ : ∃ S : World → Prop, S = fun w' => Bl w' gr (rsC R n rc (d : Int)) 29 := ⟨_, rfl⟩
        have hS : S W9 := by rw [hSd]; exact B9.bl
        have HSI : Hid (∀ w', Bl w' gr (rsC R n rc (d : Int)) 29 → S w') := by unfold Hid; intro w' h; rw [hSd]; exact h
        have HSB : Hid (∀ w', S w' → Bl w' gr (rsC R n rc (d : Int)) 29) := by unfold Hid; intro w' h; rw [hSd] at h; exact h
        clear hSd BB hb
        refine wp_region_held_drew (S := S) (by kernel_rfl) (by rw [← hW9]; exact hS) (fun _ => ?_)
        rw [← hW9]
        clear hW9 hbd
        refine wpAnyH_take (i := 0) (v := (.pointer (some ⟨g, 0, none⟩))) rfl (by kernel_rfl) (by kernel_rfl) (by kernel_rfl) (fun _ _ _ h => h) (Or.inl ⟨by rfl, fun _ hSw => by go_simp⟩) hS ?_
        simp only [List.getElem_toArray, List.getElem_cons_succ, List.getElem_cons_zero, Act.put, List.setIfInBounds_toArray, List.set_cons_zero, List.set_cons_succ]
        refine wpAnyH_take (i := 2) (v := .agg (rsC R n rc (d : Int)).toArray) rfl (by kernel_rfl) (by kernel_rfl) (by kernel_rfl) (fun _ _ _ h => h) (yieldsIf_load_mid (by rfl) 29 _ rfl _ _ rfl (rsC R n rc (d : Int)) _ (fun w' hw' => (HSB.out w' hw').whole) Try.underlying29 rfl size_rs) hS ?_
        simp only [List.getElem_toArray, List.getElem_cons_succ, List.getElem_cons_zero, Act.put, List.setIfInBounds_toArray, List.set_cons_zero, List.set_cons_succ]
        refine wpAnyH_ready (rs := [1, 3]) (by kernel_rfl) (by simp) (AllReadyH.cons rfl (fun K hK => ?_) (AllReadyH.cons rfl (fun K hK => ?_) AllReadyH.nil))
        simp only [List.getElem_toArray, List.getElem_cons_succ, List.getElem_cons_zero, Act.put, List.setIfInBounds_toArray, List.set_cons_zero, List.set_cons_succ]
        go_simp
        refine (ecopy_any g l d W9 A n c B9.src (by omega)).mono ?_
        rintro e w10 ⟨h, A10, c10, rfl, hh, s10, hnA, hb10⟩
        have b10 := B9.bl.next hb10
        replace hS := HSI.out _ b10
        refine hK.out _ _ hS (fun _ => ?_)
        clear hK K
        refine wpAnyH_ready (rs := [3]) (by kernel_rfl) (by simp) (AllReadyH.cons rfl (fun K hK => ?_) AllReadyH.nil)
        simp only [List.getElem_toArray, List.getElem_cons_succ, List.getElem_cons_zero, Act.put, List.setIfInBounds_toArray, List.set_cons_zero, List.set_cons_succ]
        rw [if_pos (by rfl)]
        refine wp_alloc_zero 29 rfl (rsC none 0 0 0) zero_rs ?_
        obtain ⟨W12, HW12, ht12, b12, hb12, hs12⟩ := put_rs w10 R n rc (d : Int) 29
        replace hS := HSI.out _ (b10.alloc (.cells (rsC none 0 0 0).toArray 29))
        refine hK.out _ _ hS (fun _ => ?_)
        clear hK K
        simp only [List.getElem_toArray, List.getElem_cons_succ, List.getElem_cons_zero, Act.put, List.setIfInBounds_toArray, List.set_cons_zero, List.set_cons_succ]
        refine wpAnyH_take (i := 4) (v := (.pointer (some ⟨h, 0, none⟩))) rfl (by kernel_rfl) (by kernel_rfl) (by kernel_rfl) (fun _ _ _ h => h) (Or.inl ⟨by rfl, fun _ hSw => by go_simp⟩) hS ?_
        simp only [List.getElem_toArray, List.getElem_cons_succ, List.getElem_cons_zero, Act.put, List.setIfInBounds_toArray, List.set_cons_zero, List.set_cons_succ]
        refine wpAnyH_ready (rs := [5]) (by kernel_rfl) (by simp) (AllReadyH.cons rfl (fun K hK => ?_) AllReadyH.nil)
        simp only [List.getElem_toArray, List.getElem_cons_succ, List.getElem_cons_zero, Act.put, List.setIfInBounds_toArray, List.set_cons_zero, List.set_cons_succ]
        rw [if_pos (by rfl)]
        refine wp_store_mid 29 _ _ rfl _ _ (rsC R n rc (d : Int)).toArray rfl rfl ht12 size_rs (all_oneCell_toArray (rsC_one _ _ _ _)) ?_
        have s12 := s10.next hb12
        have hoA : Off w10.heap.size n A10 := Sl.off s10.sl (Nat.le_refl _)
        have hb912 := next hb10 hb12
        replace hS := HSI.out _ (B9.bl.next hb912)
        refine hK.out _ _ (by rw [HW12.out]; exact hS) (fun _ => ?_)
        clear hK K
        simp only [List.getElem_toArray, List.getElem_cons_succ, List.getElem_cons_zero, Act.put, List.setIfInBounds_toArray, List.set_cons_zero, List.set_cons_succ]
        rw [HW12.out]
        refine wpAnyH_done (by kernel_rfl) ?_ _
        have hhr : W9.heap.size ≤ w10.heap.size := hb10.size
        have hhne : h ≠ w10.heap.size := by have := s10.lt; omega
        obtain ⟨hr, ehr⟩ : ∃ x, x = w10.heap.size := ⟨_, rfl⟩
        rw [← ehr] at b12 hoA hhr hhne ⊢
        clear ehr s10 b10 hb10 hb12 hs12 ht12 HW12
        rotate_left 1
        simp only [List.getElem_toArray, List.getElem_cons_succ, List.getElem_cons_zero, Act.put, List.setIfInBounds_toArray, List.set_cons_zero, List.set_cons_succ]
        rw [if_pos (by rfl)]
        refine wp_alloc_zero 29 rfl (rsC none 0 0 0) zero_rs ?_
        have hba : Below W9.heap.size W9 (W9.alloc (.cells (rsC none 0 0 0).toArray 29)) := (Below.refl _ W9).alloc (Nat.le_refl _) _
        have bn := Bl.new W9 (rsC none 0 0 0) 29
        have hsa : (W9.alloc (.cells (rsC none 0 0 0).toArray 29)).heap.size = W9.heap.size + 1 := by simp
        obtain ⟨Wa, hWa⟩ : ∃ W, W = W9.alloc (.cells (rsC none 0 0 0).toArray 29) := ⟨_, rfl⟩
        rw [← hWa] at hba bn hsa ⊢
        clear hWa
        have Ba := B9.next hba
        replace hS := HSI.out _ Ba.bl
        refine hK.out _ _ hS (fun _ => ?_)
        clear hK K
        simp only [List.getElem_toArray, List.getElem_cons_succ, List.getElem_cons_zero, Act.put, List.setIfInBounds_toArray, List.set_cons_zero, List.set_cons_succ]
        refine wpAnyH_ready (rs := [1]) (by kernel_rfl) (by simp) (AllReadyH.cons rfl (fun K hK => ?_) AllReadyH.nil)
        simp only [List.getElem_toArray, List.getElem_cons_succ, List.getElem_cons_zero, Act.put, List.setIfInBounds_toArray, List.set_cons_zero, List.set_cons_succ]
        go_simp
        refine (ecopy_any g l d Wa A n c Ba.src (by omega)).mono ?_
        rintro e w10 ⟨h, A10, c10, rfl, hh, s10, hnA, hb10⟩
        replace hS := HSI.out _ (Ba.bl.next hb10)
        refine hK.out _ _ hS (fun _ => ?_)
        clear hK K
        refine wpAnyH_take (i := 4) (v := (.pointer (some ⟨h, 0, none⟩))) rfl (by kernel_rfl) (by kernel_rfl) (by kernel_rfl) (fun _ _ _ h => h) (Or.inl ⟨by rfl, fun _ hSw => by go_simp⟩) hS ?_
        simp only [List.getElem_toArray, List.getElem_cons_succ, List.getElem_cons_zero, Act.put, List.setIfInBounds_toArray, List.set_cons_zero, List.set_cons_succ]
        replace bn := bn.next hb10
        refine wpAnyH_ready (rs := [5]) (by kernel_rfl) (by simp) (AllReadyH.cons rfl (fun K hK => ?_) AllReadyH.nil)
        simp only [List.getElem_toArray, List.getElem_cons_succ, List.getElem_cons_zero, Act.put, List.setIfInBounds_toArray, List.set_cons_zero, List.set_cons_succ]
        rw [if_pos (by rfl)]
        refine wp_store_mid 29 _ _ rfl _ _ (rsC R n rc (d : Int)).toArray rfl rfl (bn.there_ (by simp [rsC])) size_rs (all_oneCell_toArray (rsC_one _ _ _ _)) ?_
        have b12 := bn.over (vs := rsC R n rc (d : Int)) rfl
        have gs : w10.grownBy (w10.setCells W9.heap.size 0 (rsC R n rc (d : Int))) (some W9.heap.size) := but_setCells (but_refl w10 _) 0 _
        have hhne : h ≠ W9.heap.size := by omega
        have hoA : Off W9.heap.size n A10 := fun h0 ad e => by have := hnA ad e; omega
        have s12 := s10.but gs (Ne.symm hhne) hoA
        have hb912 : Below W9.heap.size W9 (w10.setCells W9.heap.size 0 (rsC R n rc (d : Int))) := below_setCells (next hba hb10) (Nat.le_refl _) 0 _
        obtain ⟨W12, HW12⟩ : ∃ W, Hid (w10.setCells W9.heap.size 0 (rsC R n rc (d : Int)).toArray.toList = W) := ⟨_, (rfl : _ = _)⟩
        have HW12' : w10.setCells W9.heap.size 0 (rsC R n rc (d : Int)) = W12 := HW12.out
        rw [HW12'] at b12 s12 hb912
        replace hS := HSI.out _ (B9.bl.next hb912)
        refine hK.out _ _ (by rw [HW12.out]; exact hS) (fun _ => ?_)
        clear hK K
        simp only [List.getElem_toArray, List.getElem_cons_succ, List.getElem_cons_zero, Act.put, List.setIfInBounds_toArray, List.set_cons_zero, List.set_cons_succ]
        rw [HW12.out]
        refine wpAnyH_done (by kernel_rfl) ?_ _
        have hhr : W9.heap.size ≤ W9.heap.size := Nat.le_refl _
        replace hh : W9.heap.size ≤ h := by omega
        replace hnA : ∀ ad, A10 = some ad → W9.heap.size ≤ ad.block := fun ad e => by have := hnA ad e; omega
        obtain ⟨hr, ehr⟩ : ∃ x, x = W9.heap.size := ⟨_, rfl⟩
        have b12' : Bl W12 hr (rsC R n rc (d : Int)) 29 := by rw [ehr]; exact b12
        replace b12 := b12'
        replace hoA : Off hr n A10 := by rw [ehr]; exact hoA
        replace hhr : W9.heap.size ≤ hr := by omega
        replace hhne : h ≠ hr := by omega
        rw [← ehr]
        clear ehr hba bn hsa Ba hb10 s10 gs HW12 HW12' b12'
        all_goals
          obtain ⟨F2, hF2⟩ : ∃ F2 : Nat → Prop, F2 = fun k => F k ∨ k = h ∨ k = hr := ⟨_, rfl⟩
          obtain ⟨B12, C12⟩ := both_pair (F2 := F2) B9 hb912 s12 b12 hh hhr hnA hoA (fun k hk => by rcases HFE.out k hk with rfl | rfl <;> assumption) (fun k hk => by rw [hF2] at hk; exact hk)
          have H2g : Hid (F2 g) := by unfold Hid; rw [hF2]; exact .inl HFg.out
          have H2r : Hid (F2 gr) := by unfold Hid; rw [hF2]; exact .inl HFr.out
          have H2h : Hid (F2 h) := by unfold Hid; rw [hF2]; exact .inr (.inl rfl)
          have H2q : Hid (F2 hr) := by unfold Hid; rw [hF2]; exact .inr (.inr rfl)
          have H2E : Hid (∀ k, F2 k → k = g ∨ k = gr ∨ k = h ∨ k = hr) := by
            unfold Hid; intro k hk; rw [hF2] at hk
            rcases hk with h1 | h1 | h1
            · rcases HFE.out k h1 with h2 | h2
              · exact .inl h2
              · exact .inr (.inl h2)
            · exact .inr (.inr (.inl h1))
            · exact .inr (.inr (.inr h1))
          have hb12 := next hb9 hb912
          have hhw : w.heap.size ≤ h := Nat.le_trans hb9.size hh
          have hqw : w.heap.size ≤ hr := Nat.le_trans hb9.size hhr
          have ngh : g ≠ h := by omega
          have ngq : g ≠ hr := by omega
          have nrh : gr ≠ h := by omega
          have nrq : gr ≠ hr := by omega
          have hd2 : Dos w w.heap.size (if c1 = kk then A1 else A1.map (·.add (kk * 2))) (l1.drop kk) := hd.drop kk (by rw [← HN1.out]; exact hca)
          obtain ⟨A13, hA13⟩ : ∃ X, X = if c1 = kk then A1 else A1.map (·.add (kk * 2)) := ⟨_, rfl⟩
          rw [← hA13] at hd2
          have HA13 := Lib.hid hA13
          have hsum2 : n + d ≤ 4000 + 400 * kk := by omega
          clear hF2 hA13 B9 hb9 hb912 s12 b12 hh hhr hnA hoA hS HSI HSB hg9 hr9 hsum hkI
          go_wp2_with (refine wpList_slice_end rfl 23 _ _ rfl 31 2 Try.underlying23 size_do A1 n1 c1 kk .i64 _ rfl rfl rfl hkn hca hna A13 HA13.out ?_)
          go_loopw [58] (fun i wr => ∃ (k2 n2 c2 d2 rc2 : Nat) (A2 R2 : Option Addr) (l2 : List UInt8), k2 ≤ n1 - kk ∧ i = .int .i64 k2 ∧ Both F2 wr g gr A2 n2 c2 l2 d2 R2 rc2 ∧ Both F2 wr h hr A10 n c10 l d R rc ∧ n2 + d2 ≤ 4000 + 400 * (kk + k2) ∧ Below w.heap.size w wr) (fun i _ => (n1 - kk) - (intOf i).toNat)
          case atStart => exact ⟨0, n, c, d, rc, A, R, l, by omega, rfl, B12, C12, by omega, hb12⟩
          case round =>
            clear B12 C12 hb12
            obtain ⟨k2, n2, c2, d2, rc2, A2, R2, l2, hk2, rfl, BB, CC, hsum, hb⟩ := hrel
            by_cases hlt2 : k2 < n1 - kk
            · have hkI : (k2 : Int) < ((n1 - kk : Nat) : Int) := by omega
              have hkd : k2 < (l1.drop kk).length := by have := HN1.out; rw [List.length_drop]; omega
              obtain ⟨ad, rfl, hat⟩ := hd2 k2 hkd
              obtain ⟨hwf, hpl, M, mc, hq0, hq1, hms, hmc, hmz, hmm⟩ := hat.below hb
              have h4 := H400.out (kk + k2) (by have := HN1.out; omega)
              rw [← List.getElem_drop (i := kk) (j := k2) (h := hkd)] at h4
              obtain ⟨x, hx⟩ : ∃ x, x = (l1.drop kk)[k2] := ⟨_, rfl⟩
              rw [← hx] at hwf hq0 hq1 hms hmc hmm h4
              have hcc := doC_at hq0 hq1
              clear hx hq0 hq1 hat hmm
              obtain ⟨W5, HW5, ht5, b5, hb5, hs5, e50, e51⟩ := put_do wr x.1 M x.2.length mc 31
              have B5 := BB.next hb5
              have C5 := CC.next hb5
              have hbw5 : Below w.heap.size w W5 := hb.trans (hb5.mono hb.size)
              have hms5 := ((hms.up hb.size).nx hb5)
              have hmo : Off g x.2.length M := Sl.off hms hgw
              clear BB CC hms hb5
              go_wp2_with (first
                | (refine wpList_load_at rfl 31 _ rfl (ad.add (k2 * 2)) rfl (doC x.1 M x.2.length mc) _ hcc Try.underlying31 rfl size_do ?_)
                | (refine wpList_alloc_zero rfl 31 rfl (doC 0 none 0 0) zero_do ?_)
                | (refine wpList_store_mid rfl 31 _ _ rfl _ _ (doC x.1 M x.2.length mc).toArray rfl rfl ht5 size_do (all_oneCell_toArray (doC_one _ _ _ _)) ?_; rw [HW5.out])
                | (refine wpList_load_mid rfl 29 _ rfl _ _ rfl (rsC R2 n2 rc2 (d2 : Int)) _ B5.bl.whole Try.underlying29 rfl size_rs ?_)
                | (refine wpList_load_mid rfl 31 _ rfl _ _ rfl (doC x.1 M x.2.length mc) _ b5.whole Try.underlying31 rfl size_do ?_))
              refine (does_any g l2 x.2 d2 x.1 W5 A2 R2 M n2 c2 n2 rc2 x.2.length mc B5.src B5.sl B5.cap B5.nn (B5.away g H2g.out).2 hms5 hmc hmz hmo (by omega)).mono ?_
              intro e w7 hpost
              have hg5 := B5.src.lt
              have hr5 := B5.bl.lt
              have hh5 := C5.src.lt
              have hq5 := C5.bl.lt
              obtain ⟨A7, n7, c7, l7, d7, R7, rc7, rfl, ht7, ⟨W8, HW8, B8, g78⟩, hsum7, g57⟩ := B5.step (fun k hk => by rcases H2E.out k hk with rfl | rfl | rfl | rfl <;> assumption) H2g.out H2r.out hne hpost
              have C8 := (C5.other g57 H2g.out ngh ngq).other g78 H2r.out nrh nrq
              have hb8 : Below w.heap.size w W8 := below_but (below_but hbw5 g57 hbw5.size hgw) g78 (Nat.le_trans hbw5.size g57.size) hrw
              clear hpost B5 C5 hms5 hbw5 g57 g78
              go_wp2_with (refine wpList_store_mid rfl 29 _ _ rfl _ _ (rsC R7 n7 rc7 (d7 : Int)).toArray rfl rfl ht7 size_rs (all_oneCell_toArray (rsC_one _ _ _ _)) ?_; rw [HW8.out])
              go_roundw
              case rel => exact ⟨k2 + 1, n7, c7, d7, rc7, A7, R7, l7, by omega, by go_num, B8, C8, by omega, hb8⟩
              case measure => simp [intOf]; omega
            · have hkI : ¬ (k2 : Int) < ((n1 - kk : Nat) : Int) := by omega
              go_wp2_with fail
              go_loopw [17] (fun i wr => ∃ (m n3 c3 d3 rc3 : Nat) (A4 R3 : Option Addr) (l3 : List UInt8), kk ≤ m ∧ m ≤ n1 ∧ i = .int .i64 ((m : Int) - 1) ∧ Both F2 wr h hr A4 n3 c3 l3 d3 R3 rc3 ∧ Both F2 wr g gr A2 n2 c2 l2 d2 R2 rc2 ∧ n3 + d3 ≤ 4000 + 400 * (kk + (n1 - m)) ∧ Below w.heap.size w wr) (fun i _ => (intOf i + 1).toNat - kk)
              case atStart => exact ⟨n1, n, c10, d, rc, A10, R, l, hkn, Nat.le_refl _, rfl, CC, BB, by omega, hb⟩
              case round =>
                clear BB CC hb
                obtain ⟨m, n3, c3', d3, rc3, A4, R3, l3, hm1, hm2, rfl, CC, BB, hsum3, hb⟩ := hrel
                by_cases hlt3 : kk < m
                · obtain ⟨p, rfl⟩ : ∃ p, m = p + 1 := ⟨m - 1, by omega⟩
                  have ep : (((p + 1 : Nat) : Int) - 1) = (p : Int) := by omega
                  rw [ep]
                  have hpI : (kk : Int) ≤ (p : Int) := by omega
                  have hpN : (p : Int) < (n1 : Int) := by omega
                  have hkd : p < l1.length := by have := HN1.out; omega
                  obtain ⟨ad, rfl, hat⟩ := hd p hkd
                  go_wp2_with fail
                  obtain ⟨W9, hW9⟩ : ∃ W, W = wr.drew := ⟨_, rfl⟩
                  have hbd : Below wr.heap.size wr W9 := by rw [hW9]; exact (Below.refl _ wr).drew
                  have B9 := BB.next hbd
                  have C9 := CC.next hbd
                  have hb9 := next hb hbd
                  obtain ⟨hwf, hpl, M, mc, hq0, hq1, hms, hmc, hmz, hmm⟩ := hat.below hb9
                  have h4 := H400.out p hkd
                  obtain ⟨x, hx⟩ : ∃ x, x = l1[p] := ⟨_, rfl⟩
                  rw [← hx] at hwf hq0 hq1 hms hmc hmm h4
                  have hcc := doC_at hq0 hq1
                  have HCC := Lib.hid hcc
                  have hmo : Off h x.2.length M := Sl.off hms hhw
                  have hms9 := hms.up hb9.size
                  obtain ⟨S, hSd⟩ : ∃ S : World → Prop, S = fun w' => w' = W9 := ⟨_, rfl⟩
                  have hS : S W9 := by rw [hSd]
                  have HSE : Hid (∀ w', S w' → w' = W9) := by unfold Hid; intro w' h; rw [hSd] at h; exact h
                  clear hSd hx hq0 hq1 hat hmm hcc BB CC hb hms
                  refine wp_region_K 6 S (by kernel_rfl) (by rw [← hW9]; exact hS) (fun _ => ?_)
                  rw [← hW9]
                  clear hW9 hbd
                  refine wpAnyK_take0 (i := 0) (v := (.pointer (some ⟨h, 0, none⟩))) rfl (by kernel_rfl) (by kernel_rfl) (by kernel_rfl) (by kernel_rfl) (fun _ _ _ h => h) (Or.inl ⟨by rfl, fun _ => by go_simp⟩) hS ?_
                  simp only [List.getElem_toArray, List.getElem_cons_succ, List.getElem_cons_zero, Act.put, List.setIfInBounds_toArray, List.set_cons_zero, List.set_cons_succ]
                  refine wpAnyK_take (i := 1) (v := .agg (rsC R3 n3 rc3 (d3 : Int)).toArray) rfl (by kernel_rfl) (by kernel_rfl) (by kernel_rfl) (by kernel_rfl) (fun _ _ _ h => h) (yieldsIf_load_mid (by rfl) 29 _ rfl _ _ rfl (rsC R3 n3 rc3 (d3 : Int)) _ (fun w' hw' => by rw [HSE.out w' hw']; exact C9.bl.whole) Try.underlying29 rfl size_rs) hS ?_
                  simp only [List.getElem_toArray, List.getElem_cons_succ, List.getElem_cons_zero, Act.put, List.setIfInBounds_toArray, List.set_cons_zero, List.set_cons_succ]
                  refine wpAnyK_take0 (i := 2) (v := (.slice (some ad) n1 c1)) rfl (by kernel_rfl) (by kernel_rfl) (by kernel_rfl) (by kernel_rfl) (fun _ _ _ h => h) (Or.inl ⟨by rfl, fun _ => by go_simp⟩) hS ?_
                  simp only [List.getElem_toArray, List.getElem_cons_succ, List.getElem_cons_zero, Act.put, List.setIfInBounds_toArray, List.set_cons_zero, List.set_cons_succ]
                  refine wpAnyK_take0 (i := 3) (v := (.int .i64 (p : Int))) rfl (by kernel_rfl) (by kernel_rfl) (by kernel_rfl) (by kernel_rfl) (fun _ _ _ h => h) (Or.inl ⟨by rfl, fun _ => by go_simp⟩) hS ?_
                  simp only [List.getElem_toArray, List.getElem_cons_succ, List.getElem_cons_zero, Act.put, List.setIfInBounds_toArray, List.set_cons_zero, List.set_cons_succ]
                  refine wpAnyK_take0 (i := 4) (v := (.pointer (some (ad.add (p * 2))))) rfl (by kernel_rfl) (by kernel_rfl) (by kernel_rfl) (by kernel_rfl) (fun _ _ _ h => h) (Or.inl ⟨by rfl, fun _ => by go_simp⟩) hS ?_
                  simp only [List.getElem_toArray, List.getElem_cons_succ, List.getElem_cons_zero, Act.put, List.setIfInBounds_toArray, List.set_cons_zero, List.set_cons_succ]
                  refine wpAnyK_take (i := 5) (v := .agg (doC x.1 M x.2.length mc).toArray) rfl (by kernel_rfl) (by kernel_rfl) (by kernel_rfl) (by kernel_rfl) (fun _ _ _ h => h) (Or.inl ⟨by rfl, fun w' hw' => by rw [HSE.out w' hw']; exact exec_load_at W9 31 _ rfl (ad.add (p * 2)) rfl (doC x.1 M x.2.length mc) _ HCC.out Try.underlying31 rfl size_do⟩) hS ?_
                  simp only [List.getElem_toArray, List.getElem_cons_succ, List.getElem_cons_zero, Act.put, List.setIfInBounds_toArray, List.set_cons_zero, List.set_cons_succ]
                  refine wpAnyK_K (by kernel_rfl) rfl (by rfl) (fun K hK => ?_)
                  simp only [List.getElem_toArray, List.getElem_cons_succ, List.getElem_cons_zero, Act.put, List.setIfInBounds_toArray, List.set_cons_zero, List.set_cons_succ]
                  go_simp
                  refine (does_any h l3 x.2 d3 x.1 W9 A4 R3 M n3 c3' n3 rc3 x.2.length mc C9.src C9.sl C9.cap C9.nn (C9.away h H2h.out).2 hms9 hmc hmz hmo (by omega)).mono ?_
                  intro e w7 hpost
                  have hg5 := B9.src.lt
                  have hr5 := B9.bl.lt
                  have hh5 := C9.src.lt
                  have hq5 := C9.bl.lt
                  obtain ⟨A7, n7, c7, l7, d7, R7, rc7, rfl, ht7, ⟨W8, HW8, C8, g78⟩, hsum7, g57⟩ := C9.step (fun k hk => by rcases H2E.out k hk with rfl | rfl | rfl | rfl <;> assumption) H2h.out H2q.out hhne hpost
                  have B8 := (B9.other g57 H2h.out (Ne.symm ngh) (Ne.symm nrh)).other g78 H2q.out (Ne.symm ngq) (Ne.symm nrq)
                  have hb8 : Below w.heap.size w W8 := below_but (below_but hb9 g57 hb9.size hhw) g78 (Nat.le_trans hb9.size g57.size) hqw
                  refine hK.out _ _ ?_
                  clear hK K hpost B9 C9 hms9 hb9 g57 g78 hS HSE
                  refine wpAny_take (i := 7) (v := (.tuple #[.agg (rsC R7 n7 rc7 (d7 : Int)).toArray, .bool true])) rfl (by kernel_rfl) (by kernel_rfl) (by kernel_rfl) (fun _ _ _ h => h) (Or.inl ⟨by rfl, fun _ => by go_simp⟩) ?_
                  simp only [List.getElem_toArray, List.getElem_cons_succ, List.getElem_cons_zero, Act.put, List.setIfInBounds_toArray, List.set_cons_zero, List.set_cons_succ]
                  refine wpAny_take (i := 8) (v := (.agg (rsC R7 n7 rc7 (d7 : Int)).toArray)) rfl (by kernel_rfl) (by kernel_rfl) (by kernel_rfl) (fun _ _ _ h => h) (Or.inl ⟨by rfl, fun _ => by go_simp⟩) ?_
                  simp only [List.getElem_toArray, List.getElem_cons_succ, List.getElem_cons_zero, Act.put, List.setIfInBounds_toArray, List.set_cons_zero, List.set_cons_succ]
                  refine wpAny_take (i := 9) (v := (.bool true)) rfl (by kernel_rfl) (by kernel_rfl) (by kernel_rfl) (fun _ _ _ h => h) (Or.inl ⟨by rfl, fun _ => by go_simp⟩) ?_
                  simp only [List.getElem_toArray, List.getElem_cons_succ, List.getElem_cons_zero, Act.put, List.setIfInBounds_toArray, List.set_cons_zero, List.set_cons_succ]
                  refine wpAny_one (i := 10) (by kernel_rfl) rfl (by rfl) (fun K hK => ?_)
                  simp only [List.getElem_toArray, List.getElem_cons_succ, List.getElem_cons_zero, Act.put, List.setIfInBounds_toArray, List.set_cons_zero, List.set_cons_succ]
                  refine wp_store_mid 29 _ _ rfl _ _ (rsC R7 n7 rc7 (d7 : Int)).toArray rfl rfl ht7 size_rs (all_oneCell_toArray (rsC_one _ _ _ _)) ?_
                  refine hK.out _ _ ?_
                  clear hK K
                  simp only [List.getElem_toArray, List.getElem_cons_succ, List.getElem_cons_zero, Act.put, List.setIfInBounds_toArray, List.set_cons_zero, List.set_cons_succ]
                  rw [HW8.out]
                  refine wpAny_take (i := 11) (v := (.bool true)) rfl (by kernel_rfl) (by kernel_rfl) (by kernel_rfl) (fun _ _ _ h => h) (Or.inl ⟨by rfl, fun _ => by go_simp⟩) ?_
                  simp only [List.getElem_toArray, List.getElem_cons_succ, List.getElem_cons_zero, Act.put, List.setIfInBounds_toArray, List.set_cons_zero, List.set_cons_succ]
                  refine wpAny_done (by kernel_rfl) ?_ _
                  go_wp2
                  go_roundw
                  case rel => exact ⟨p, n7, c7, d7, rc7, A7, R7, l7, by omega, by omega, by go_num, C8, B8, by omega, hb8⟩
                  case measure => simp [intOf]; omega
                · have hmI : ¬ (kk : Int) ≤ (m : Int) - 1 := by omega
                  go_wp2_with fail
                  obtain ⟨W9, hW9⟩ : ∃ W, W = wr.drew := ⟨_, rfl⟩
                  have hbd : Below wr.heap.size wr W9 := by rw [hW9]; exact (Below.refl _ wr).drew
                  have B9 := BB.next hbd
                  have C9 := CC.next hbd
                  have hb9 := next hb hbd
                  have hr0 : W9.cell? ⟨gr, 0, none⟩ = some (.slice R2 n2 rc2) := by rw [B9.bl.cell]; rfl
                  have hq0 : W9.cell? ⟨hr, 0, none⟩ = some (.slice R3 n3 rc3) := by rw [C9.bl.cell]; rfl
                  have hrl := B9.bl.lt
                  have hql := C9.bl.lt
                  obtain ⟨S, hSd⟩ : ∃ S : World → Prop, S = fun w' => Below W9.heap.size W9 w' := ⟨_, rfl⟩
                  have hS : S W9 := by rw [hSd]; exact Below.refl _ _
                  have HSI : Hid (∀ w', Below W9.heap.size W9 w' → S w') := by unfold Hid; intro w' h; rw [hSd]; exact h
                  have HS1 : Hid (∀ w', S w' → w'.cell? ⟨gr, 0, none⟩ = some (.slice R2 n2 rc2)) := by unfold Hid; intro w' h; rw [hSd] at h; rw [h.cell (p := ⟨gr, 0, none⟩) hrl]; exact hr0
                  have HS2 : Hid (∀ w', S w' → w'.cell? ⟨hr, 0, none⟩ = some (.slice R3 n3 rc3)) := by unfold Hid; intro w' h; rw [hSd] at h; rw [h.cell (p := ⟨hr, 0, none⟩) hql]; exact hq0
                  clear hSd BB CC hb hr0 hq0
                  refine wp_region_held_drew (S := S) (by kernel_rfl) (by rw [← hW9]; exact hS) (fun _ => ?_)
                  rw [← hW9]
                  clear hW9 hbd
                  refine wpAnyH_take (i := 0) (v := (.pointer (some ⟨g, 0, none⟩))) rfl (by kernel_rfl) (by kernel_rfl) (by kernel_rfl) (fun _ _ _ h => h) (Or.inl ⟨by rfl, fun _ hSw => by go_simp⟩) hS ?_
                  simp only [List.getElem_toArray, List.getElem_cons_succ, List.getElem_cons_zero, Act.put, List.setIfInBounds_toArray, List.set_cons_zero, List.set_cons_succ]
                  refine wpAnyH_take (i := 2) (v := (.pointer (some ⟨gr, 0, none⟩))) rfl (by kernel_rfl) (by kernel_rfl) (by kernel_rfl) (fun _ _ _ h => h) (Or.inl ⟨by rfl, fun _ hSw => by go_simp⟩) hS ?_
                  simp only [List.getElem_toArray, List.getElem_cons_succ, List.getElem_cons_zero, Act.put, List.setIfInBounds_toArray, List.set_cons_zero, List.set_cons_succ]
                  refine wpAnyH_take (i := 3) (v := .slice R2 n2 rc2) rfl (by kernel_rfl) (by kernel_rfl) (by kernel_rfl) (fun _ _ _ h => h) (Or.inl ⟨by rfl, fun w' hSw => by have hq := HS1.out w' hSw; go_simp⟩) hS ?_
                  simp only [List.getElem_toArray, List.getElem_cons_succ, List.getElem_cons_zero, Act.put, List.setIfInBounds_toArray, List.set_cons_zero, List.set_cons_succ]
                  refine wpAnyH_take (i := 4) (v := (.int .i64 (n2 : Int))) rfl (by kernel_rfl) (by kernel_rfl) (by kernel_rfl) (fun _ _ _ h => h) (Or.inl ⟨by rfl, fun _ hSw => by go_simp⟩) hS ?_
                  simp only [List.getElem_toArray, List.getElem_cons_succ, List.getElem_cons_zero, Act.put, List.setIfInBounds_toArray, List.set_cons_zero, List.set_cons_succ]
                  refine wpAnyH_ready (rs := [1]) (by kernel_rfl) (by simp) (AllReadyH.cons rfl (fun K hK => ?_) AllReadyH.nil)
                  simp only [List.getElem_toArray, List.getElem_cons_succ, List.getElem_cons_zero, Act.put, List.setIfInBounds_toArray, List.set_cons_zero, List.set_cons_succ]
                  go_simp
                  refine (left_any g l2 d2 W9 A2 n2 c2 B9.src).mono ?_
                  rintro e w10 ⟨rfl, rfl⟩
                  refine hK.out _ _ hS (fun _ => ?_)
                  clear hK K
                  refine wpAnyH_take (i := 5) (v := (.bool true)) rfl (by kernel_rfl) (by kernel_rfl) (by kernel_rfl) (fun _ _ _ h => h) (Or.inl ⟨by rfl, fun _ hSw => by go_simp⟩) hS ?_
                  simp only [List.getElem_toArray, List.getElem_cons_succ, List.getElem_cons_zero, Act.put, List.setIfInBounds_toArray, List.set_cons_zero, List.set_cons_succ]
                  refine wpAnyH_take (i := 6) (v := (.bool true)) rfl (by kernel_rfl) (by kernel_rfl) (by kernel_rfl) (fun _ _ _ h => h) (Or.inl ⟨by rfl, fun _ hSw => by go_simp⟩) hS ?_
                  simp only [List.getElem_toArray, List.getElem_cons_succ, List.getElem_cons_zero, Act.put, List.setIfInBounds_toArray, List.set_cons_zero, List.set_cons_succ]
                  refine wpAnyH_take (i := 7) (v := (.pointer (some ⟨h, 0, none⟩))) rfl (by kernel_rfl) (by kernel_rfl) (by kernel_rfl) (fun _ _ _ h => h) (Or.inl ⟨by rfl, fun _ hSw => by go_simp⟩) hS ?_
                  simp only [List.getElem_toArray, List.getElem_cons_succ, List.getElem_cons_zero, Act.put, List.setIfInBounds_toArray, List.set_cons_zero, List.set_cons_succ]
                  refine wpAnyH_take (i := 9) (v := (.pointer (some ⟨hr, 0, none⟩))) rfl (by kernel_rfl) (by kernel_rfl) (by kernel_rfl) (fun _ _ _ h => h) (Or.inl ⟨by rfl, fun _ hSw => by go_simp⟩) hS ?_
                  simp only [List.getElem_toArray, List.getElem_cons_succ, List.getElem_cons_zero, Act.put, List.setIfInBounds_toArray, List.set_cons_zero, List.set_cons_succ]
                  refine wpAnyH_take (i := 10) (v := .slice R3 n3 rc3) rfl (by kernel_rfl) (by kernel_rfl) (by kernel_rfl) (fun _ _ _ h => h) (Or.inl ⟨by rfl, fun w' hSw => by have hq := HS2.out w' hSw; go_simp⟩) hS ?_
                  simp only [List.getElem_toArray, List.getElem_cons_succ, List.getElem_cons_zero, Act.put, List.setIfInBounds_toArray, List.set_cons_zero, List.set_cons_succ]
                  refine wpAnyH_take (i := 11) (v := (.int .i64 (n3 : Int))) rfl (by kernel_rfl) (by kernel_rfl) (by kernel_rfl) (fun _ _ _ h => h) (Or.inl ⟨by rfl, fun _ hSw => by go_simp⟩) hS ?_
                  simp only [List.getElem_toArray, List.getElem_cons_succ, List.getElem_cons_zero, Act.put, List.setIfInBounds_toArray, List.set_cons_zero, List.set_cons_succ]
                  refine wpAnyH_ready (rs := [8]) (by kernel_rfl) (by simp) (AllReadyH.cons rfl (fun K hK => ?_) AllReadyH.nil)
                  simp only [List.getElem_toArray, List.getElem_cons_succ, List.getElem_cons_zero, Act.put, List.setIfInBounds_toArray, List.set_cons_zero, List.set_cons_succ]
                  go_simp
                  refine (left_any h l3 d3 W9 A4 n3 c3' C9.src).mono ?_
                  rintro e w10 ⟨rfl, rfl⟩
                  refine hK.out _ _ hS (fun _ => ?_)
                  clear hK K
                  refine wpAnyH_take (i := 12) (v := (.bool true)) rfl (by kernel_rfl) (by kernel_rfl) (by kernel_rfl) (fun _ _ _ h => h) (Or.inl ⟨by rfl, fun _ hSw => by go_simp⟩) hS ?_
                  simp only [List.getElem_toArray, List.getElem_cons_succ, List.getElem_cons_zero, Act.put, List.setIfInBounds_toArray, List.set_cons_zero, List.set_cons_succ]
                  refine wpAnyH_take (i := 13) (v := (.bool true)) rfl (by kernel_rfl) (by kernel_rfl) (by kernel_rfl) (fun _ _ _ h => h) (Or.inl ⟨by rfl, fun _ hSw => by go_simp⟩) hS ?_
                  simp only [List.getElem_toArray, List.getElem_cons_succ, List.getElem_cons_zero, Act.put, List.setIfInBounds_toArray, List.set_cons_zero, List.set_cons_succ]
                  refine wpAnyH_take (i := 14) (v := (.bool true)) rfl (by kernel_rfl) (by kernel_rfl) (by kernel_rfl) (fun _ _ _ h => h) (Or.inl ⟨by rfl, fun _ hSw => by go_simp⟩) hS ?_
                  simp only [List.getElem_toArray, List.getElem_cons_succ, List.getElem_cons_zero, Act.put, List.setIfInBounds_toArray, List.set_cons_zero, List.set_cons_succ]
                  refine wpAnyH_ready (rs := [15]) (by kernel_rfl) (by simp) (AllReadyH.cons rfl (fun K hK => ?_) AllReadyH.nil)
                  simp only [List.getElem_toArray, List.getElem_cons_succ, List.getElem_cons_zero, Act.put, List.setIfInBounds_toArray, List.set_cons_zero, List.set_cons_succ]
                  go_simp
                  refine (awake8_any W9).mono ?_
                  rintro e w10 ⟨rfl, hb10⟩
                  replace hS := HSI.out _ hb10
                  refine hK.out _ _ hS (fun _ => ?_)
                  clear hK K
                  refine wpAnyH_take (i := 16) (v := (.bool true)) rfl (by kernel_rfl) (by kernel_rfl) (by kernel_rfl) (fun _ _ _ h => h) (Or.inl ⟨by rfl, fun _ hSw => by go_simp⟩) hS ?_
                  simp only [List.getElem_toArray, List.getElem_cons_succ, List.getElem_cons_zero, Act.put, List.setIfInBounds_toArray, List.set_cons_zero, List.set_cons_succ]
                  refine wpAnyH_take (i := 17) (v := (.bool true)) rfl (by kernel_rfl) (by kernel_rfl) (by kernel_rfl) (fun _ _ _ h => h) (Or.inl ⟨by rfl, fun _ hSw => by go_simp⟩) hS ?_
                  simp only [List.getElem_toArray, List.getElem_cons_succ, List.getElem_cons_zero, Act.put, List.setIfInBounds_toArray, List.set_cons_zero, List.set_cons_succ]
                  refine wpAnyH_done (by kernel_rfl) ?_ _
                  go_wp2
                  go_ret
                  exact ⟨rfl, next hb9 hb10⟩

end Go.Proofs.Ytmemgiekkedeoaa
