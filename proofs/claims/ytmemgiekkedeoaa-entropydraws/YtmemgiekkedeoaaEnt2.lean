/- The walk of the law EntropyDraws. -/
import Derived.Test.YtmemgiekkedeoaaEntU
namespace Go.Proofs.Ytmemgiekkedeoaa
set_option maxRecDepth 100000
open Go.RowKit
set_option linter.unusedVariables false
set_option linter.unusedSimpArgs false

set_option maxRecDepth 100000 in
set_option maxHeartbeats 4000000 in
theorem entropyDraws_walk (A0 : Option Addr) (n0 c0 : Nat) (l0 : List UInt8) (A1 : Option Addr) (n1 c1 : Nat) (l1 : List (Int × List UInt8)) (w : World) (s0 : InBytes w A0 n0 c0 l0) (s1 : InDos w A1 n1 c1 l1) :
    Calls Try.prog 3 #[.slice A0 n0 c0, .slice A1 n1 c1] w fun e w' => e = .returned (.bool true) ∧ Below w.heap.size w w' := by
  obtain ⟨i0, hi, hz0, hz1, hz2⟩ := info_parts u8_info
  have y0 := s0.sl
  have z0 := s0.none_
  have p0 := s0.cap
  have HN0 := Lib.hid s0.len
  have hd := s1.dos
  have HN1 := Lib.hid s1.len
  clear s0 s1
  have hfew := few_any l1 w A0 A1 n0 c0 n1 c1 hd HN1.out
  cases hf : fewB n0 l1 with
  | false =>
    rw [hf] at hfew
    go_enter Try.func3, Try.ntmps3
    go_wp2_with fail
    refine hfew.mono ?_
    rintro e w1 ⟨rfl, hb1⟩
    go_wp2_with fail
    refine (awake8_any w1).mono ?_
    rintro e w2 ⟨rfl, hb2⟩
    go_wp2
    go_ret
    exact ⟨rfl, next hb1 hb2⟩
  | true =>
    rw [hf] at hfew
    obtain ⟨h30, h4000, h400⟩ := few_yes hf
    have H400 := Lib.hid h400
    rw [← HN1.out] at h30
    clear hf h400
    go_enter Try.func3, Try.ntmps3
    go_wp2_with fail
    refine hfew.mono ?_
    rintro e w1 ⟨rfl, hb1⟩
    have y1 := y0.nx hb1
    have own1 := World.ownsRow_lit (base := w1.heap.size) (e := 5) (size := 1) w1 #[] 0 (Nat.le_refl _) (by decide) rfl
    have y2 := y1.nx ((Below.refl _ w1).alloc (Nat.le_refl _) (.cells #[] 5))
    clear hfew
    go_wp2_with (at_builtin; refine wpList_append_sl _ rfl _ _ 22 rfl w1.heap.size 5 i0 (.int .u8 0) 1 Try.underlying22 hi hz0 hz1 hz2 rfl _ 0 [] rfl own1 _ A0 n0 c0 (cb l0) rfl y2 z0 (cb_one _) (by unfold maxLen; omega) (by omega) (by simp) ?_; intro v2 w2 own2 gr2 at2; obtain ⟨X, cx, rfl⟩ := own_form own2)
    rw [Nat.zero_add, List.nil_append] at own2
    have hb2 : Below w1.heap.size w1 w2 := below_app ((Below.refl w1.heap.size w1).alloc (Nat.le_refl _) _) (Nat.le_refl _) own1 gr2
    clear own1 y2 gr2 at2
    refine (enew_any l0 w2 X n0 cx (Sl.own own2) (own_cap own2) (own_none own2) (by omega)).mono ?_
    rintro e w3 ⟨g, A3, c3, rfl, hg3, s3, hnew3, hb3⟩
    have hbw2 := next hb1 hb2
    have hbw3 := next hbw2 hb3
    have y3 := y0.nx hbw3
    obtain ⟨w4, HW4, ht4, b4, hb4, hs4⟩ := put_rs w3 A0 n0 c0 0 29
    have hbw4 := next hbw3 hb4
    have hg3l := s3.lt
    obtain ⟨gr, hgr⟩ : ∃ x, x = w3.heap.size := ⟨_, rfl⟩
    obtain ⟨F, hF⟩ : ∃ F : Nat → Prop, F = fun k => k = g ∨ k = gr := ⟨_, rfl⟩
    have B4 : Both F w4 g gr A3 n0 c3 l0 0 A0 c0 := by
      refine ⟨s3.next hb4, ?_, y3.nx hb4, p0, z0, fun k hk => ?_⟩
      · rw [hgr]; exact b4
      · rw [hF] at hk
        have h1 := hbw2.size
        refine ⟨fun h0 ad e => ?_, fun h0 ad e => ?_⟩
        · rcases hk with rfl | rfl
          · exact s3.off h0 ad e
          · have := sl_lt s3.sl h0 e; omega
        · have := sl_lt y0 h0 e
          rcases hk with rfl | rfl <;> omega
    have HFg : Hid (F g) := by unfold Hid; rw [hF]; exact .inl rfl
    have HFr : Hid (F gr) := by unfold Hid; rw [hF]; exact .inr rfl
    have HFE : Hid (∀ k, F k → k = g ∨ k = gr) := by unfold Hid; intro k hk; rw [hF] at hk; exact hk
    have own4 := own_below own2 (next hb3 hb4)
    have HXB : Hid (∀ k, (Value.slice X n0 cx).ownBlock = some k → w1.heap.size ≤ k ∧ k < w2.heap.size) := fun k hk => ⟨own_blk own2 hk, own_lt own2 hk⟩
    have HG := Lib.hid hgr
    have hgw : w.heap.size ≤ g := Nat.le_trans hbw2.size hg3
    have hrw : w.heap.size ≤ gr := by rw [hgr]; exact hbw3.size
    have hne : g ≠ gr := by omega
    have h23 : w2.heap.size ≤ gr := by rw [hgr]; exact hb3.size
    rw [← hgr] at HW4 ht4
    clear hF hgr own2 s3 b4 hb3 hb4 y3 y1 hbw2 hbw3
    go_wp2_with (first
      | (refine wpList_build_to rfl 29 _ rfl (rsC A0 n0 c0 0) (built_rs0 A0 n0 c0) ?_)
      | (refine wpList_alloc_zero rfl 29 rfl (rsC none 0 0 0) zero_rs ?_; rw [← HG.out])
      | (refine wpList_store_mid rfl 29 _ _ rfl _ _ (rsC A0 n0 c0 0).toArray rfl rfl ht4 size_rs (all_oneCell_toArray (rsC_one _ _ _ _)) ?_; rw [HW4.out]))
    go_loopw [26] (fun i wr => ∃ (j : Nat) (xs : List UInt8), j ≤ n0 ∧ i = .int .i64 j ∧ Hid (xs.length = n0) ∧ wr.ownsRow w1.heap.size 5 1 (.slice X n0 cx) n0 (cb xs) ∧ w4.grownBy wr (Value.slice X n0 cx).ownBlock) (fun i _ => n0 - (intOf i).toNat)
    case atStart => exact ⟨0, l0, by omega, rfl, HN0.out.symm, own4, World.grownBy.refl _ _⟩
    case round =>
      obtain ⟨j, xs, hj, rfl, HXL, hxo, hgx⟩ := hrel
      by_cases hjl : j < n0
      · obtain ⟨gx, cx2, ex, hgx0, hgxl⟩ := hxo.form (by omega)
        injection ex with ex _ ecx
        subst ex; subst ecx
        have hjx : j < xs.length := by rw [HXL.out]; exact hjl
        obtain ⟨hcl, hfz, HB, HS⟩ := own_up hxo hjx
        have hb8 : xs[j].toNat < 256 := xs[j].toNat_lt
        clear hxo
        go_wp2
        go_roundw
        case rel => exact ⟨j + 1, xs.set j (UInt8.ofNat ((xs[j].toNat + 1) % 256)), by omega, by go_num, by unfold Hid; rw [List.length_set]; exact HXL.out, by rw [HB.out]; exact HS.out, but_setCell hgx _ _⟩
        case measure => simp [intOf]; omega
      · have hjI : ¬ (j : Int) < (n0 : Int) := by omega
        obtain ⟨w6, hw6⟩ : ∃ x, x = wr := ⟨wr, rfl⟩
        subst hw6
        have hw1 := hb1.size
        have B6 : Both F w6 g gr A3 n0 c3 l0 0 A0 c0 := B4.row hgx (fun e => by have := HXB.out _ e; omega) (fun e => by have := HXB.out _ e; omega) (fun h0 ad e e2 => by have h1 := HXB.out _ e2; have h2 := hnew3 ad e; omega) (fun h0 ad e e2 => by have h1 := HXB.out _ e2; have h2 := sl_lt y0 h0 e; omega)
        have hb6 : Below w.heap.size w w6 := hbw4.grown hgx hbw4.size (fun k hk => by have := HXB.out _ hk; omega)
        clear B4 hxo hgx own4 hbw4 hnew3
        go_wp2
        go_loopw [38] (fun i wr => ∃ (k n c d rc : Nat) (A R : Option Addr) (l : List UInt8), k ≤ n1 ∧ i = .int .i64 k ∧ Both F wr g gr A n c l d R rc ∧ n + d ≤ 4000 + 400 * k ∧ Below w.heap.size w wr) (fun i _ => n1 - (intOf i).toNat)
        case atStart => exact ⟨0, n0, c3, 0, c0, A3, A0, l0, by omega, rfl, B6, by omega, hb6⟩
        case round =>
          clear B6 hb6
          obtain ⟨k, n, c, d, rc, A, R, l, hk, rfl, BB, hsum, hb⟩ := hrel
          by_cases hlt : k < n1
          · have hkI : (k : Int) < (n1 : Int) := by omega
            have hkd : k < l1.length := by have := HN1.out; omega
            obtain ⟨ad, rfl, hat⟩ := hd k hkd
            obtain ⟨hwf, hpl, M, mc, hq0, hq1, hms, hmc, hmz, hmm⟩ := hat.below hb
            have h4 := H400.out k hkd
            obtain ⟨x, hx⟩ : ∃ x, x = l1[k] := ⟨_, rfl⟩
            rw [← hx] at hwf hq0 hq1 hms hmc hmm h4
            have hcc := doC_at hq0 hq1
            clear hx hq0 hq1 hat hmm
            obtain ⟨W5, HW5, ht5, b5, hb5, hs5, e50, e51⟩ := put_do wr x.1 M x.2.length mc 31
            have B5 := BB.next hb5
            have hbw5 : Below w.heap.size w W5 := hb.trans (hb5.mono hb.size)
            have hms5 := ((hms.up hb.size).nx hb5)
            have hmo : Off g x.2.length M := Sl.off hms hgw
            clear BB hms hb5
            go_wp2_with (first
              | (refine wpList_load_at rfl 31 _ rfl (ad.add (k * 2)) rfl (doC x.1 M x.2.length mc) _ hcc Try.underlying31 rfl size_do ?_)
              | (refine wpList_alloc_zero rfl 31 rfl (doC 0 none 0 0) zero_do ?_)
              | (refine wpList_store_mid rfl 31 _ _ rfl _ _ (doC x.1 M x.2.length mc).toArray rfl rfl ht5 size_do (all_oneCell_toArray (doC_one _ _ _ _)) ?_; rw [HW5.out])
              | (refine wpList_load_mid rfl 29 _ rfl _ _ rfl (rsC R n rc (d : Int)) _ B5.bl.whole Try.underlying29 rfl size_rs ?_)
              | (refine wpList_load_mid rfl 31 _ rfl _ _ rfl (doC x.1 M x.2.length mc) _ b5.whole Try.underlying31 rfl size_do ?_))
            refine (does_any g l x.2 d x.1 W5 A R M n c n rc x.2.length mc B5.src B5.sl B5.cap B5.nn (B5.away g HFg.out).2 hms5 hmc hmz hmo (by omega)).mono ?_
            intro e w7 hpost
            have hg5 := B5.src.lt
            have hr5 := B5.bl.lt
            obtain ⟨A7, n7, c7, l7, d7, R7, rc7, rfl, ht7, ⟨W8, HW8, B8, g78⟩, hsum7, g57⟩ := B5.step (fun k hk => by rcases HFE.out k hk with rfl | rfl <;> assumption) HFg.out HFr.out hne hpost
            have hb8 : Below w.heap.size w W8 := below_but (below_but hbw5 g57 hbw5.size hgw) g78 (Nat.le_trans hbw5.size g57.size) hrw
            clear hpost B5 hms5 hbw5 g57 g78
            go_wp2_with (refine wpList_store_mid rfl 29 _ _ rfl _ _ (rsC R7 n7 rc7 (d7 : Int)).toArray rfl rfl ht7 size_rs (all_oneCell_toArray (rsC_one _ _ _ _)) ?_; rw [HW8.out])
            obtain ⟨W9, hW9⟩ : ∃ W, W = W8.drew := ⟨_, rfl⟩
            have hbd : Below W8.heap.size W8 W9 := by rw [hW9]; exact (Below.refl _ W8).drew
            have B9 := B8.next hbd
            have hb9 := next hb8 hbd
            have hr0 : W9.cell? ⟨gr, 0, none⟩ = some (.slice R7 n7 rc7) := by rw [B9.bl.cell]; rfl
            have hr1 : W9.cell? ⟨gr, 1, none⟩ = some (.int .i64 (d7 : Int)) := by rw [B9.bl.cell]; rfl
            obtain ⟨S, hSd⟩ : ∃ S : World → Prop, S = fun w' => w' = W9 := ⟨_, rfl⟩
            have hS : S W9 := by rw [hSd]
            have HSE : Hid (∀ w', S w' → w' = W9) := by unfold Hid; intro w' h; rw [hSd] at h; exact h
            clear hSd B8 hb8
            refine wp_region_held_drew (S := S) (by kernel_rfl) (by rw [← hW9]; exact hS) (fun _ => ?_)
            rw [← hW9]
            clear hW9 hbd HW8
            refine wpAnyH_take (i := 0) (v := (.bool true)) rfl (by kernel_rfl) (by kernel_rfl) (by kernel_rfl) (fun _ _ _ h => h) (Or.inl ⟨by rfl, fun _ hSw => by go_simp⟩) hS ?_
            simp only [List.getElem_toArray, List.getElem_cons_succ, List.getElem_cons_zero, Act.put, List.setIfInBounds_toArray, List.set_cons_zero, List.set_cons_succ]
            refine wpAnyH_take (i := 1) (v := (.bool false)) rfl (by kernel_rfl) (by kernel_rfl) (by kernel_rfl) (fun _ _ _ h => h) (Or.inl ⟨by rfl, fun _ hSw => by go_simp⟩) hS ?_
            simp only [List.getElem_toArray, List.getElem_cons_succ, List.getElem_cons_zero, Act.put, List.setIfInBounds_toArray, List.set_cons_zero, List.set_cons_succ]
            refine wpAnyH_take (i := 2) (v := (.bool false)) rfl (by kernel_rfl) (by kernel_rfl) (by kernel_rfl) (fun _ _ _ h => h) (Or.inl ⟨by rfl, fun _ hSw => by go_simp⟩) hS ?_
            simp only [List.getElem_toArray, List.getElem_cons_succ, List.getElem_cons_zero, Act.put, List.setIfInBounds_toArray, List.set_cons_zero, List.set_cons_succ]
            refine wpAnyH_take (i := 3) (v := (.pointer (some ⟨g, 0, none⟩))) rfl (by kernel_rfl) (by kernel_rfl) (by kernel_rfl) (fun _ _ _ h => h) (Or.inl ⟨by rfl, fun _ hSw => by go_simp⟩) hS ?_
            simp only [List.getElem_toArray, List.getElem_cons_succ, List.getElem_cons_zero, Act.put, List.setIfInBounds_toArray, List.set_cons_zero, List.set_cons_succ]
            refine wpAnyH_take (i := 5) (v := (.pointer (some ⟨gr, 0, none⟩))) rfl (by kernel_rfl) (by kernel_rfl) (by kernel_rfl) (fun _ _ _ h => h) (Or.inl ⟨by rfl, fun _ hSw => by go_simp⟩) hS ?_
            simp only [List.getElem_toArray, List.getElem_cons_succ, List.getElem_cons_zero, Act.put, List.setIfInBounds_toArray, List.set_cons_zero, List.set_cons_succ]
            refine wpAnyH_take (i := 6) (v := .slice R7 n7 rc7) rfl (by kernel_rfl) (by kernel_rfl) (by kernel_rfl) (fun _ _ _ h => h) (Or.inl ⟨by rfl, fun w' hSw => by rw [HSE.out w' hSw]; go_simp⟩) hS ?_
            simp only [List.getElem_toArray, List.getElem_cons_succ, List.getElem_cons_zero, Act.put, List.setIfInBounds_toArray, List.set_cons_zero, List.set_cons_succ]
            refine wpAnyH_take (i := 7) (v := (.int .i64 (n7 : Int))) rfl (by kernel_rfl) (by kernel_rfl) (by kernel_rfl) (fun _ _ _ h => h) (Or.inl ⟨by rfl, fun _ hSw => by go_simp⟩) hS ?_
            simp only [List.getElem_toArray, List.getElem_cons_succ, List.getElem_cons_zero, Act.put, List.setIfInBounds_toArray, List.set_cons_zero, List.set_cons_succ]
            refine wpAnyH_ready (rs := [4]) (by kernel_rfl) (by simp) (AllReadyH.cons rfl (fun K hK => ?_) AllReadyH.nil)
            simp only [List.getElem_toArray, List.getElem_cons_succ, List.getElem_cons_zero, Act.put, List.setIfInBounds_toArray, List.set_cons_zero, List.set_cons_succ]
            go_simp
            refine (left_any g l7 d7 W9 A7 n7 c7 B9.src).mono ?_
            rintro e w10 ⟨rfl, rfl⟩
            refine hK.out _ _ hS (fun _ => ?_)
            clear hK K
            refine wpAnyH_take (i := 8) (v := (.bool false)) rfl (by kernel_rfl) (by kernel_rfl) (by kernel_rfl) (fun _ _ _ h => h) (Or.inl ⟨by rfl, fun _ hSw => by go_simp⟩) hS ?_
            simp only [List.getElem_toArray, List.getElem_cons_succ, List.getElem_cons_zero, Act.put, List.setIfInBounds_toArray, List.set_cons_zero, List.set_cons_succ]
            refine wpAnyH_take (i := 9) (v := (.bool false)) rfl (by kernel_rfl) (by kernel_rfl) (by kernel_rfl) (fun _ _ _ h => h) (Or.inl ⟨by rfl, fun _ hSw => by go_simp⟩) hS ?_
            simp only [List.getElem_toArray, List.getElem_cons_succ, List.getElem_cons_zero, Act.put, List.setIfInBounds_toArray, List.set_cons_zero, List.set_cons_succ]
            refine wpAnyH_take (i := 10) (v := (.bool false)) rfl (by kernel_rfl) (by kernel_rfl) (by kernel_rfl) (fun _ _ _ h => h) (Or.inl ⟨by rfl, fun _ hSw => by go_simp⟩) hS ?_
            simp only [List.getElem_toArray, List.getElem_cons_succ, List.getElem_cons_zero, Act.put, List.setIfInBounds_toArray, List.set_cons_zero, List.set_cons_succ]
            refine wpAnyH_take (i := 11) (v := (.pointer (some ⟨g, 0, none⟩))) rfl (by kernel_rfl) (by kernel_rfl) (by kernel_rfl) (fun _ _ _ h => h) (Or.inl ⟨by rfl, fun _ hSw => by go_simp⟩) hS ?_
            simp only [List.getElem_toArray, List.getElem_cons_succ, List.getElem_cons_zero, Act.put, List.setIfInBounds_toArray, List.set_cons_zero, List.set_cons_succ]
            refine wpAnyH_take (i := 13) (v := (.pointer (some ⟨gr, 1, none⟩))) rfl (by kernel_rfl) (by kernel_rfl) (by kernel_rfl) (fun _ _ _ h => h) (Or.inl ⟨by rfl, fun _ hSw => by go_simp⟩) hS ?_
            simp only [List.getElem_toArray, List.getElem_cons_succ, List.getElem_cons_zero, Act.put, List.setIfInBounds_toArray, List.set_cons_zero, List.set_cons_succ]
            refine wpAnyH_take (i := 14) (v := .int .i64 (d7 : Int)) rfl (by kernel_rfl) (by kernel_rfl) (by kernel_rfl) (fun _ _ _ h => h) (Or.inl ⟨by rfl, fun w' hSw => by rw [HSE.out w' hSw]; go_simp⟩) hS ?_
            simp only [List.getElem_toArray, List.getElem_cons_succ, List.getElem_cons_zero, Act.put, List.setIfInBounds_toArray, List.set_cons_zero, List.set_cons_succ]
            refine wpAnyH_ready (rs := [12]) (by kernel_rfl) (by simp) (AllReadyH.cons rfl (fun K hK => ?_) AllReadyH.nil)
            simp only [List.getElem_toArray, List.getElem_cons_succ, List.getElem_cons_zero, Act.put, List.setIfInBounds_toArray, List.set_cons_zero, List.set_cons_succ]
            go_simp
            refine (drawn_any g l7 d7 W9 A7 n7 c7 B9.src).mono ?_
            rintro e w10 ⟨rfl, rfl⟩
            refine hK.out _ _ hS (fun _ => ?_)
            clear hK K
            refine wpAnyH_take (i := 15) (v := (.bool false)) rfl (by kernel_rfl) (by kernel_rfl) (by kernel_rfl) (fun _ _ _ h => h) (Or.inl ⟨by rfl, fun _ hSw => by go_simp⟩) hS ?_
            simp only [List.getElem_toArray, List.getElem_cons_succ, List.getElem_cons_zero, Act.put, List.setIfInBounds_toArray, List.set_cons_zero, List.set_cons_succ]
            refine wpAnyH_take (i := 16) (v := (.bool false)) rfl (by kernel_rfl) (by kernel_rfl) (by kernel_rfl) (fun _ _ _ h => h) (Or.inl ⟨by rfl, fun _ hSw => by go_simp⟩) hS ?_
            simp only [List.getElem_toArray, List.getElem_cons_succ, List.getElem_cons_zero, Act.put, List.setIfInBounds_toArray, List.set_cons_zero, List.set_cons_succ]
            refine wpAnyH_done (by kernel_rfl) ?_ _
            go_wp2
            go_roundw
            case rel => exact ⟨k + 1, n7, c7, d7, rc7, A7, R7, l7, by omega, by go_num, B9, by omega, hb9⟩
            case measure => simp [intOf]; omega
          · have hkI : ¬ (k : Int) < (n1 : Int) := by omega
            go_wp2_with fail
            refine (awake8_any _).mono ?_
            rintro e w9 ⟨rfl, hb9⟩
            go_wp2
            go_ret
            exact ⟨rfl, next hb hb9⟩

end Go.Proofs.Ytmemgiekkedeoaa
