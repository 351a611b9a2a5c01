/- blockOf and Block of package cipher. -/
import Derived.Test.YtnhpamfmbledmaaDoorChaD
namespace Go.Proofs.YtnhpamfmbledmaaDoor
open Go.RowKit
set_option linter.unusedVariables false
set_option linter.unusedSimpArgs false

theorem bo_start (w : World) (S Z : List Value) (T T2 : TypeId) (i : Nat) (v : Value) :
    Bl ((((w.alloc (.cells S.toArray T)).alloc (.cells Z.toArray T2)).setCell ⟨w.heap.size, i, none⟩ v)) w.heap.size (S.set i v) T ∧
    Bl ((((w.alloc (.cells S.toArray T)).alloc (.cells Z.toArray T2)).setCell ⟨w.heap.size, i, none⟩ v)) (w.heap.size + 1) Z T2 ∧
    (((w.alloc (.cells S.toArray T)).alloc (.cells Z.toArray T2)).setCell ⟨w.heap.size, i, none⟩ v).heap.size = w.heap.size + 2 ∧
    Below w.heap.size w (((w.alloc (.cells S.toArray T)).alloc (.cells Z.toArray T2)).setCell ⟨w.heap.size, i, none⟩ v) := by
  have e1 : (w.alloc (.cells S.toArray T)).heap.size = w.heap.size + 1 := by simp
  have b2 : Bl ((w.alloc (.cells S.toArray T)).alloc (.cells Z.toArray T2)) (w.heap.size + 1) Z T2 := by rw [← e1]; exact Bl.new _ _ _
  exact ⟨((Bl.new w S T).alloc _).set i v, b2.set_other _ _ (by simp), by rw [heap_size_setCell]; simp, (((Below.refl _ w).alloc (Nat.le_refl _) _).alloc (by simp) _).setCell (p := ⟨w.heap.size, i, none⟩) (Nat.le_refl _) _⟩

/-- A parameter of many cells that is put into a variable. -/
theorem wpList_box_agg {P : Program} {ops : Array Oper} {rest : List Oper} {o : Oper} {a : Act} {w : World} {Q : Exit → Act → World → Prop} (hgd : o.guard = none) (ty : TypeId) (x : Operand) (ho : o.op = .box ty x)
    (cs : List Value) (hx : a.eval x = .agg cs.toArray)
    (h : wpList P ops Q rest (a.put o.dst (.pointer (some ⟨w.heap.size, 0, none⟩))) (w.alloc (.cells cs.toArray ty))) : wpList P ops Q (o :: rest) a w := by
  refine wpList_plain hgd fun K hK => ?_
  have hr : (Instr.box ty (.agg cs.toArray)).run P w = .ok (.pointer (some ⟨w.heap.size, 0, none⟩)) (w.alloc (.cells cs.toArray ty)) := by
    simp [Instr.box, newVar, newRow, Value.cells]
  unfold Oper.wp execOp
  simp only [ho, hx, Sem.run_bind, hr, Result.andThen_ok]
  exact hK _ _ h

theorem us_set (x : List Nat) (i v : Nat) : (us x).set i (.int .u32 (v : Int)) = us (x.set i v) := by simp [us, List.map_set, uc]

set_option maxRecDepth 100000 in
set_option maxHeartbeats 600000 in
theorem bo_any (s : List Nat) (n : Nat) (w : World) (hs : s.length = 16) (hw : Wds s) (hn : n < 4294967296) (hT : TabC w) (B : List UInt8) (hB : B = blkS (s.set 12 n)) :
    Calls Tryd.prog 18 #[.agg (us s).toArray, .int .u32 n] w fun e w' => e = .returned (.agg (cb B).toArray) ∧ Below w.heap.size w w' := by
  obtain ⟨X, hX⟩ : ∃ X, X = s.set 12 n := ⟨_, rfl⟩
  have HXL : Hid (X.length = 16) := by unfold Hid; rw [hX]; simp [hs]
  have HXW : Hid (Wds X) := by unfold Hid; rw [hX]; exact hw.set _ hn
  obtain ⟨R, hR⟩ : ∃ R, R = rds X 10 := ⟨_, rfl⟩
  have HRL : Hid (R.length = 16) := by unfold Hid; rw [hR, rds_len, HXL.out]
  have HRW : Hid (Wds R) := by unfold Hid; rw [hR]; exact rds_ok HXW.out _
  have HBB : Hid (B = outL (sumL R X)) := by unfold Hid; rw [hB, hR, ← hX]; rfl
  have HBL : Hid (B.length = 64) := by unfold Hid; rw [HBB.out, outL_len, sumL_len _ _ (by rw [HRL.out, HXL.out]), HRL.out]
  have HS := Lib.hid hs
  obtain ⟨b0, b1, hsz, hb0⟩ := bo_start w (us s) (zeros .u8 64) 47 25 12 (.int .u32 (n : Int))
  rw [us_set, ← hX] at b0
  have HRR := Lib.hid hR
  have HT := Lib.hid hT
  have hts := hT.size
  have q12 : (w.alloc (.cells (us s).toArray 47)).alloc (.cells (zeros .u8 64).toArray 25) = (w.alloc (.cells (us s).toArray 47)).alloc (.cells (zeros .u8 64).toArray 25) := rfl
  have hc12 : ∃ u, ((w.alloc (.cells (us s).toArray 47)).alloc (.cells (zeros .u8 64).toArray 25)).cell? ⟨w.heap.size, 12, none⟩ = some u := ⟨_, by rw [((Bl.new w (us s) 47).alloc _).cell, List.getElem?_eq_getElem (by rw [us_len, hs]; omega)]⟩
  obtain ⟨u12, hc12⟩ := hc12
  have hf12 := ((Bl.new w (us s) 47).alloc (.cells (zeros .u8 64).toArray 25)).frozen 12
  obtain ⟨W0, hW0⟩ : ∃ W, W = (w.alloc (.cells (us s).toArray 47)).alloc (.cells (zeros .u8 64).toArray 25) := ⟨_, rfl⟩
  rw [← hW0] at b0 b1 hsz hb0 hc12 hf12
  have HW0 := Lib.hid hW0
  clear hX hR hB hs hT q12 hW0
  obtain ⟨W1, hW1⟩ : ∃ W, W = W0.setCell ⟨w.heap.size, 12, none⟩ (.int .u32 (n : Int)) := ⟨_, rfl⟩
  rw [← hW1] at b0 b1 hsz hb0
  have HW1 := Lib.hid hW1
  clear hW1
  obtain ⟨bk, hb2, hz2⟩ := put_new W1 (zeros .u8 64) (zeros .u8 64) 25 rfl
  obtain ⟨W2, hW2⟩ : ∃ W, W = (W1.alloc (.cells (zeros .u8 64).toArray 25)).setCells W1.heap.size 0 (zeros .u8 64) := ⟨_, rfl⟩
  rw [← hW2] at bk hb2 hz2
  have HW2 := Lib.hid hW2
  have b02 := b0.next hb2
  have b12 := b1.next hb2
  have hbw2 := next hb0 hb2
  obtain ⟨gb, hgb⟩ : ∃ g, g = W1.heap.size := ⟨_, rfl⟩
  rw [← hgb] at bk
  have hgb1 : w.heap.size + 2 = gb := by rw [hgb, hsz]
  have HGB := Lib.hid hgb
  have HB02 := Lib.hid b02
  clear hW2 b0 b1 hz2 hsz hgb
  go_enter Tryd.func18, Tryd.ntmps18
  go_wp2_with (first
    | (refine wpList_box_agg rfl 47 _ rfl (us s) rfl ?_)
    | (refine wpList_alloc_zero rfl 25 rfl (zeros .u8 64) zero_block ?_; first | (rw [← HW0.out]) | (rw [← HW1.out]))
    | (refine wpList_build_to rfl 25 _ rfl (zeros .u8 64) built_block ?_)
    | (refine wpList_store_mid rfl 25 _ _ rfl _ _ (zeros .u8 64).toArray rfl rfl (Bl.there_ (Bl.new W1 (zeros .u8 64) 25) (by simp [zeros])) (by rw [size_block, List.size_toArray, zeros_len]) (all_oneCell_toArray (zeros_one _ _)) ?_; change wpList _ _ _ _ _ (World.setCells (W1.alloc (.cells (zeros .u8 64).toArray 25)) W1.heap.size 0 (zeros .u8 64)); rw [← HW2.out])
    | (refine wpList_load_mid rfl 47 _ rfl _ _ rfl (us X) _ HB02.out.whole Tryd.underlying47 rfl (by rw [size_16, us_len, HXL.out]) ?_))
  rw [← HGB.out]
  refine (cafter_any X W2 HXL.out HXW.out (HT.out.next hbw2)).mono ?_
  rintro e w3 ⟨rfl, hb3⟩
  rw [← HRR.out]
  have b03 := b02.next hb3
  have b13 := b12.next hb3
  have bk3 := bk.next hb3
  have hbw3 := next hbw2 hb3
  have hT3 := HT.out.next hbw3
  clear b02 b12 bk hbw2 hb3 HB02 HW0 HW1 HW2 hc12 hf12 hb0 hb2 HRR
  go_wp2
  go_loopw [13] (fun i wr => ∃ k : Nat, k ≤ 16 ∧ i = .int .i64 k ∧ Bl wr w.heap.size (us X) 47 ∧ Bl wr (w.heap.size + 1) (zeros .u8 64) 25 ∧ Bl wr gb (cb (upTo B (4 * k))) 25 ∧ Below w.heap.size w wr) (fun i _ => 16 - (intOf i).toNat)
  case atStart => exact ⟨0, by omega, rfl, b03, b13, by rw [Nat.mul_zero, upTo_zero, HBL.out, cb_zeros]; exact bk3, hbw3⟩
  case round =>
    clear b03 b13 bk3 hbw3 hT3
    obtain ⟨k, hk, rfl, b0, b1, bk, hb⟩ := hrel
    by_cases hlt : k < 16
    · obtain ⟨r, hr⟩ : ∃ r, r = R.getD k 0 := ⟨_, rfl⟩
      obtain ⟨x, hx⟩ : ∃ x, x = X.getD k 0 := ⟨_, rfl⟩
      have hv : (us R)[k]? = some (.int .u32 (r : Int)) := by rw [us_at (by rw [HRL.out]; exact hlt), hr]
      have hc : wr.cell? ⟨w.heap.size, k, none⟩ = some (.int .u32 (x : Int)) := by rw [b0.cell, us_at (by rw [HXL.out]; exact hlt), hx]
      obtain ⟨z, hz⟩ : ∃ z, z = add32 r x := ⟨_, rfl⟩
      have ez := add32_int _ _ _ hz
      have HZ : Hid (stored z true = (B.drop (4 * k)).take 4) := by
        unfold Hid
        rw [HBB.out, outL_part _ _ (by rw [sumL_len _ _ (by rw [HRL.out, HXL.out]), HRL.out]; exact hlt), sumL_at _ _ _ (by rw [HRL.out]; exact hlt) (by rw [HXL.out]; exact hlt), ← hr, ← hx, ← hz]
      have HV := Lib.hid hv
      clear hr hx hv hz
      have hsl4 := run_slice_arr_from (P := Tryd.prog) (t := 25) (e := 5) (g := gb) (o := 0) (n := 64) (ht := Tryd.underlying25) (he := u8_size) (kl := .i64) (L := 4 * (k : Int)) (l := 4 * k) (eL := by omega) (h3 := by omega)
      have HSL := Lib.hid hsl4
      clear hsl4
      have x4 : IntKind.i64.wrap (4 * (k : Int)) = 4 * (k : Int) := IntWalk.i64_in _ (by omega)
      have hi1 : (k : Int) < 16 := by omega
      go_wp2_with fail
      rw [run_index_agg wr 47 23 16 .i64 .u32 Tryd.underlying47 Tryd.underlying23 u32_size (us R) _ k (.int .u32 (r : Int)) rfl hlt HV.out]
      go_wp2_with fail
      refine wp_region_any (by kernel_rfl) ?_
      change wpAny _ _ _ _ _ _ _ (World.drew _)
      refine wpAny_take (i := 0) (v := (.int .i64 (k : Int))) rfl (by kernel_rfl) (by kernel_rfl) (by kernel_rfl) (fun _ _ _ h => h) (Or.inl ⟨by rfl, fun _ => by go_simp⟩) ?_
      simp only [List.getElem_toArray, List.getElem_cons_succ, List.getElem_cons_zero, Act.put, List.setIfInBounds_toArray, List.set_cons_zero, List.set_cons_succ]
      refine wpAny_take (i := 1) (v := (.int .i64 (4 * (k : Int)))) rfl (by kernel_rfl) (by kernel_rfl) (by kernel_rfl) (fun _ _ _ h => h) (Or.inl ⟨by rfl, fun _ => by go_simp⟩) ?_
      simp only [List.getElem_toArray, List.getElem_cons_succ, List.getElem_cons_zero, Act.put, List.setIfInBounds_toArray, List.set_cons_zero, List.set_cons_succ]
      refine wpAny_take (i := 2) (v := (.slice (some ⟨gb, 4 * k, none⟩) (64 - 4 * k) (64 - 4 * k))) rfl (by kernel_rfl) (by kernel_rfl) (by kernel_rfl) (fun _ _ _ h => h) (Or.inl ⟨by rfl, fun _ => by go_simp; rw [HSL.out, Nat.zero_add]; rfl⟩) ?_
      simp only [List.getElem_toArray, List.getElem_cons_succ, List.getElem_cons_zero, Act.put, List.setIfInBounds_toArray, List.set_cons_zero, List.set_cons_succ]
      refine wpAny_take (i := 3) (v := (.int .u32 (r : Int))) rfl (by kernel_rfl) (by kernel_rfl) (by kernel_rfl) (fun _ _ _ h => h) (Or.inl ⟨by rfl, fun _ => by go_simp⟩) ?_
      simp only [List.getElem_toArray, List.getElem_cons_succ, List.getElem_cons_zero, Act.put, List.setIfInBounds_toArray, List.set_cons_zero, List.set_cons_succ]
      refine wpAny_take (i := 4) (v := (.int .i64 (k : Int))) rfl (by kernel_rfl) (by kernel_rfl) (by kernel_rfl) (fun _ _ _ h => h) (Or.inl ⟨by rfl, fun _ => by go_simp⟩) ?_
      simp only [List.getElem_toArray, List.getElem_cons_succ, List.getElem_cons_zero, Act.put, List.setIfInBounds_toArray, List.set_cons_zero, List.set_cons_succ]
      refine wpAny_take (i := 5) (v := (.pointer (some ⟨w.heap.size, k, none⟩))) rfl (by kernel_rfl) (by kernel_rfl) (by kernel_rfl) (fun _ _ _ h => h) (Or.inl ⟨by rfl, fun _ => by go_simp⟩) ?_
      simp only [List.getElem_toArray, List.getElem_cons_succ, List.getElem_cons_zero, Act.put, List.setIfInBounds_toArray, List.set_cons_zero, List.set_cons_succ]
      clear x4
      have hc' : wr.drew.cell? ⟨w.heap.size, k, none⟩ = some (.int .u32 (x : Int)) := hc
      refine wpAny_one (i := 6) (by kernel_rfl) rfl (by rfl) (fun K hK => ?_)
      simp only [List.getElem_toArray, List.getElem_cons_succ, List.getElem_cons_zero, Act.put, List.setIfInBounds_toArray, List.set_cons_zero, List.set_cons_succ]
      go_simp
      refine hK.out _ _ ?_
      clear hK K hc hc'
      refine wpAny_take (i := 7) (v := (.int .u32 (z : Int))) rfl (by kernel_rfl) (by kernel_rfl) (by kernel_rfl) (fun _ _ _ h => h) (Or.inl ⟨by rfl, fun _ => by go_simp; rw [IntKind.wrap_u32]; exact ez⟩) ?_
      simp only [List.getElem_toArray, List.getElem_cons_succ, List.getElem_cons_zero, Act.put, List.setIfInBounds_toArray, List.set_cons_zero, List.set_cons_succ]
      refine wpAny_one (i := 8) (by kernel_rfl) rfl (by rfl) (fun K hK => ?_)
      simp only [List.getElem_toArray, List.getElem_cons_succ, List.getElem_cons_zero, Act.put, List.setIfInBounds_toArray, List.set_cons_zero, List.set_cons_succ]
      go_simp
      refine (store_any z true _).mono ?_
      rintro e w5 ⟨A5, c5, rfl, hnew5⟩
      refine hK.out _ _ ?_
      clear hK K
      have b05 := b0.drew.next hnew5.below
      have b15 := b1.drew.next hnew5.below
      have bk5 := bk.drew.next hnew5.below
      have hb5 : Below w.heap.size w w5 := hb.drew.trans (hnew5.below.mono (by have := hb.size; simp; omega))
      obtain ⟨w6, hcp, bk6, hg6⟩ := run_copy_but (P := Tryd.prog) w5 22 22 3 5 Tryd.underlying22 u8_size gb (4 * k) (64 - 4 * k) (64 - 4 * k) _ A5 4 c5 (cb (stored z true)) hnew5.sl _ _ bk5 (by rw [cb_len, upTo_len _ _ (by rw [HBL.out]; omega), HBL.out]; omega) (cb_one _)
      rw [List.take_of_length_le (by rw [cb_len, stored_len]; omega), ← cb_splice, upTo_splice B (stored z true) (4 * k) (by rw [stored_len]; exact HZ.out) (by rw [stored_len, HBL.out]; omega), stored_len] at bk6
      have b06 := b05.grown hg6 (by simp; omega)
      have b16 := b15.grown hg6 (by simp; omega)
      have hb6 : Below w.heap.size w w6 := below_but hb5 hg6 (by have := hb5.size; omega) (by omega)
      have HCP := Lib.hid hcp
      clear hcp b05 b15 bk5 hb5 hg6 hnew5 b0 b1 bk hb
      refine wpAny_one (i := 9) (by kernel_rfl) rfl (by rfl) (fun K hK => ?_)
      simp only [List.getElem_toArray, List.getElem_cons_succ, List.getElem_cons_zero, Act.put, List.setIfInBounds_toArray, List.set_cons_zero, List.set_cons_succ]
      go_simp
      rw [HCP.out]
      go_simp
      refine hK.out _ _ ?_
      clear hK K
      refine wpAny_done (by kernel_rfl) ?_ _
      go_wp2
      go_roundw
      case rel => exact ⟨k + 1, by omega, by go_num, b06, b16, by rw [show 4 * (k + 1) = 4 * k + 4 by omega]; exact bk6, hb6⟩
      case measure => simp [intOf]; omega
    · have HK : Hid (k = 16) := (by omega : k = 16)
      have hall : Bl wr gb (cb B) 25 := by rw [HK.out, show 4 * 16 = B.length from HBL.out.symm, upTo_all] at bk; exact bk
      have HA := Lib.hid hall
      clear bk hall
      go_wp2_with (first
        | (refine wpList_load_mid rfl 25 _ rfl _ _ rfl (cb B) _ HA.out.whole Tryd.underlying25 rfl (by rw [size_block, cb_len, HBL.out]) ?_)
        | (refine wpList_store_mid rfl 25 _ _ rfl _ _ (cb B).toArray rfl rfl (b1.there_ (by simp [zeros, cb_len, HBL.out])) (by rw [size_block, List.size_toArray, cb_len, HBL.out]) (all_oneCell_toArray (cb_one _)) ?_))
      have hfin := b1.over (vs := cb B) (by rw [cb_len, HBL.out, zeros_len])
      exact ret_row Tryd.results18 rfl hfin Tryd.underlying25 rfl (by rw [size_block, cb_len, HBL.out]) rfl ⟨rfl, below_setCells hb (by omega) _ _⟩

end Go.Proofs.YtnhpamfmbledmaaDoor
