/- Sum of package digest. -/
import Derived.Test.YtfmbilnbbpbpeaaDoorDigE
namespace Go.Proofs.YtfmbilnbbpbpeaaDoor
open Go.RowKit

theorem zero_sum : (Tryd.prog.info? 49).map (·.zero) = some (some (.agg (zeros .u8 32).toArray)) := by kernel_rfl
theorem built_sum : Tryd.prog.built 49 [] = some (zeros .u8 32).toArray := by kernel_rfl
theorem size_sum : (Tryd.prog.info? 49).map (·.size) = some 32 := by kernel_rfl
theorem u32_size : (Tryd.prog.info? 40).map (·.size) = some 1 := by kernel_rfl

theorem upTo_splice (l s : List UInt8) (o : Nat) (hs : s = (l.drop o).take s.length) (h : o + s.length ≤ l.length) : splice (upTo l o) o s = upTo l (o + s.length) := by
  unfold splice upTo
  have hl : (l.take o).length = o := by rw [List.length_take]; omega
  rw [List.take_append_of_le_length (by omega), List.take_of_length_le (by omega), List.drop_append, List.drop_of_length_le (by omega), List.nil_append, hl, List.drop_replicate, List.take_add, ← hs,
    show l.length - o - (o + s.length - o) = l.length - (o + s.length) by omega, List.append_assoc]

theorem alloc_size (w : World) (o : Obj) : (w.alloc o).heap.size = w.heap.size + 1 := by simp
theorem sum_start (w : World) (Z : List Value) (T1 : TypeId) (C Y : List Value) (T2 : TypeId) (hl : C.length = Y.length) :
    Bl (((w.alloc (.cells Z.toArray T1)).alloc (.cells Y.toArray T2)).setCells (w.heap.size + 1) 0 C) w.heap.size Z T1 ∧
    Bl (((w.alloc (.cells Z.toArray T1)).alloc (.cells Y.toArray T2)).setCells (w.heap.size + 1) 0 C) (w.heap.size + 1) C T2 ∧
    (((w.alloc (.cells Z.toArray T1)).alloc (.cells Y.toArray T2)).setCells (w.heap.size + 1) 0 C).heap.size = w.heap.size + 2 ∧
    Below w.heap.size w (((w.alloc (.cells Z.toArray T1)).alloc (.cells Y.toArray T2)).setCells (w.heap.size + 1) 0 C) := by
  have e1 : (w.alloc (.cells Z.toArray T1)).heap.size = w.heap.size + 1 := by simp
  have b2 : Bl ((w.alloc (.cells Z.toArray T1)).alloc (.cells Y.toArray T2)) (w.heap.size + 1) Y T2 := by rw [← e1]; exact Bl.new _ _ _
  exact ⟨((Bl.new w Z T1).alloc _).sets_other (by omega) _ _, b2.over hl, by rw [size_setCells]; simp, below_setCells (((Below.refl _ w).alloc (Nat.le_refl _) _).alloc (by simp) _) (by omega) _ _⟩

set_option linter.unusedSimpArgs false in
set_option maxRecDepth 100000 in
set_option maxHeartbeats 1000000 in
theorem sum_any (g : Nat) (m : List UInt8) (w : World) (hst : St w g m) (hT : Tabs w) (hm : m.length ≤ 100000000) :
    Calls Tryd.prog 30 #[.pointer (some ⟨g, 0, none⟩)] w fun e w' => e = .returned (.agg (cb (sha m)).toArray) ∧ Below w.heap.size w w' := by
  have HST := Lib.hid hst
  obtain ⟨buf, h1, h2, h3⟩ := hst
  have H1 := Lib.hid h1
  have H2 := Lib.hid h2
  clear h1 h2
  obtain ⟨C, hC⟩ : ∃ C, C = stc (hs m (m.length / 64)) buf m.length := ⟨_, rfl⟩
  have hl : C.length = 73 := by rw [hC, stc_len _ _ _ H1.out]
  have ho : ∀ v ∈ C, v.oneCell' = true := by rw [hC]; exact stc_one _ _ _
  have hcnt : C[72]? = some (.int .u64 (m.length : Int)) := by rw [hC]; exact stc_count _ _ _ H1.out
  rw [← hC] at h3
  have HC := Lib.hid hC
  have HL := Lib.hid hl
  have HO := Lib.hid ho
  have HCNT := Lib.hid hcnt
  clear hC hl ho hcnt
  have hz := stc_len ⟨0, 0, 0, 0, 0, 0, 0, 0⟩ (List.replicate 64 0) 0 (by simp)
  obtain ⟨Z, hZ⟩ : ∃ Z, Z = stc ⟨0, 0, 0, 0, 0, 0, 0, 0⟩ (List.replicate 64 0) 0 := ⟨_, rfl⟩
  have hzs := zero_state
  rw [← hZ] at hz hzs
  have HZ := Lib.hid hz
  have HZS := Lib.hid hzs
  clear hZ hz hzs
  have hgl := h3.lt
  obtain ⟨b0, b1, hsz, hb0⟩ := sum_start w (zeros .u8 32) 49 C Z 45 (by rw [HL.out, HZ.out])
  obtain ⟨W1, hW1⟩ : ∃ W, W = ((w.alloc (.cells (zeros .u8 32).toArray 49)).alloc (.cells Z.toArray 45)).setCells (w.heap.size + 1) 0 C := ⟨_, rfl⟩
  rw [← hW1] at b0 b1 hsz hb0
  have hcw : W1.cell? ⟨g, 72, none⟩ = some (.int .u64 (m.length : Int)) := by rw [(h3.below hb0 hgl).cell]; exact HCNT.out
  have HSZ := Lib.hid hsz
  have HTT := Lib.hid hT
  have HW1 : Hid (W1 = ((w.alloc (.cells (zeros .u8 32).toArray 49)).alloc (.cells Z.toArray 45)).setCells (w.alloc (.cells (zeros .u8 32).toArray 49)).heap.size 0 C) := by unfold Hid; rw [hW1, alloc_size]
  clear hsz hT hW1
  go_enter Tryd.func30, Tryd.ntmps30
  go_wp2_with (first
    | (refine wpList_alloc_zero rfl 49 rfl (zeros .u8 32) zero_sum ?_)
    | (refine wpList_load_mid rfl 45 _ rfl _ _ rfl C _ (h3.alloc _).whole Tryd.underlying45 rfl (by rw [size_state, HL.out]) ?_)
    | (refine wpList_alloc_zero rfl 45 rfl Z HZS.out ?_)
    | (refine wpList_store_mid rfl 45 _ _ rfl _ _ C.toArray rfl rfl (Bl.there_ (Bl.new _ Z 45) (by simp [HL.out, HZ.out])) (by rw [size_state, List.size_toArray, HL.out]) (all_oneCell_toArray HO.out) ?_; change wpList _ _ _ _ _ (World.setCells ((w.alloc (.cells (zeros .u8 32).toArray 49)).alloc (.cells Z.toArray 45)) (w.alloc (.cells (zeros .u8 32).toArray 49)).heap.size 0 C); rw [← HW1.out]))
  have hst1 : St W1 (w.heap.size + 1) m := ⟨buf, H1.out, H2.out, by rw [← HC.out]; exact b1⟩
  have hT1 : Tabs W1 := HTT.out.next hb0
  clear hcw b1 h3
  refine (pad_any m.length _ (by omega)).mono ?_
  rintro e w2 ⟨A2, c2, rfl, hnew⟩
  have hst2 := hst1.next hnew.below
  have hT2 := hT1.next hnew.below
  have hoff : Off (w.heap.size + 1) (padZ m.length + 9) A2 := own_off hnew.own (by rw [HSZ.out]; omega)
  have hpl := pad_len m.length
  have hzl := padZ_lt m.length
  have h2g : 2 ≤ w.heap.size + 1 := by have := HTT.out.size; omega
  have HPL := Lib.hid hpl
  clear hst1 hT1 hpl
  go_wp2_with fail
  refine (add_any (w.heap.size + 1) m (pad m.length) _ _ A2 _ c2 hst2 hnew.sl (Nat.le_refl _) hoff (own_cap hnew.own) hnew.none_ hT2 h2g (by rw [HPL.out]; omega)).mono ?_
  rintro e w3 ⟨rfl, hst3, hgr3, hT3⟩
  have hsz3 : w.heap.size + 2 ≤ w3.heap.size := by have h1 := hnew.below.size; have h2 := hgr3.size; have h3 := HSZ.out; omega
  have b03 : Bl w3 w.heap.size (zeros .u8 32) 49 := (b0.next hnew.below).grown hgr3 (by simp)
  have hb3 : Below w.heap.size w w3 := below_but (hb0.trans (hnew.below.mono (by rw [HSZ.out]; omega))) hgr3 (by have h1 := hnew.below.size; have h3 := HSZ.out; omega) (by omega)
  obtain ⟨buf3, h31, h32, h33⟩ := hst3
  obtain ⟨R, hR⟩ : ∃ R, R = hs (m ++ pad m.length) ((m ++ pad m.length).length / 64) := ⟨_, rfl⟩
  rw [← hR] at h33
  obtain ⟨D, hD⟩ : ∃ D, D = stc R buf3 (m ++ pad m.length).length := ⟨_, rfl⟩
  rw [← hD] at h33
  have hwd : (D.drop 0).take 8 = us R.list := by rw [hD]; exact stc_words _ _ _
  have HSH : Hid (sha m = out R.list) := by unfold Hid sha padded; rw [hR]
  have HWD := Lib.hid hwd
  clear hR hD hwd h32 h31 hst2 hT2 hoff hnew hgr3 b0 hb0
  obtain ⟨W4, hW4⟩ : ∃ W, W = (w3.alloc (.cells (zeros .u8 32).toArray 49)).setCells w3.heap.size 0 (zeros .u8 32) := ⟨_, rfl⟩
  have b4 : Bl W4 w3.heap.size (zeros .u8 32) 49 := by rw [hW4]; exact (Bl.new w3 _ _).over rfl
  have b04 : Bl W4 w.heap.size (zeros .u8 32) 49 := by rw [hW4]; exact (b03.alloc _).sets_other (by omega) _ _
  have bD4 : Bl W4 (w.heap.size + 1) D 45 := by rw [hW4]; exact (h33.alloc _).sets_other (by omega) _ _
  have hb4 : Below w.heap.size w W4 := by rw [hW4]; exact below_setCells (hb3.alloc (by omega) _) (by omega) _ _
  have hrg : W4.rangeAt (w.heap.size + 1) 0 (us R.list) := by have := bD4.range 0 8; rwa [HWD.out] at this
  have HW4 := Lib.hid hW4
  clear hW4 b03 h33 hb3 bD4
  go_wp2_with (first
    | (refine wpList_build_to rfl 49 _ rfl (zeros .u8 32) built_sum ?_)
    | (refine wpList_alloc_zero rfl 49 rfl (zeros .u8 32) zero_sum ?_)
    | (refine wpList_store_mid rfl 49 _ _ rfl _ _ (zeros .u8 32).toArray rfl rfl (Bl.there_ (Bl.new _ (zeros .u8 32) 49) (by simp [zeros])) (by rw [size_sum, List.size_toArray, zeros_len]) (all_oneCell_toArray (zeros_one _ _)) ?_; change wpList _ _ _ _ _ (World.setCells (w3.alloc (.cells (zeros .u8 32).toArray 49)) w3.heap.size 0 (zeros .u8 32)); rw [← HW4.out])
    | (refine wpList_load_mid rfl 43 _ rfl _ _ rfl (us R.list) _ hrg Tryd.underlying43 rfl size_state8 ?_))
  have hshl := sha_len m
  have hrl : R.list.length = 8 := rfl
  have HSHL := Lib.hid hshl
  clear hshl hrl hrg
  go_loopw [22] (fun i wr => ∃ k : Nat, k ≤ 8 ∧ i = .int .i64 k ∧ Bl wr w.heap.size (zeros .u8 32) 49 ∧ Bl wr w3.heap.size (cb (upTo (sha m) (4 * k))) 49 ∧ Below w.heap.size w wr) (fun i _ => 8 - (intOf i).toNat)
  case atStart => exact ⟨0, by omega, rfl, b04, by rw [Nat.mul_zero, upTo_zero, HSHL.out, cb_zeros]; exact b4, hb4⟩
  case round =>
    clear b04 b4 hb4
    obtain ⟨k, hk, rfl, b0, b4, hb⟩ := hrel
    by_cases hlt : k < 8
    · obtain ⟨x, hx⟩ : ∃ x, x = R.list.getD k 0 := ⟨_, rfl⟩
      have hv : (us R.list)[k]? = some (.int .u32 (x : Int)) := by rw [us_at (by rw [list_len]; exact hlt), hx]
      have HX := Lib.hid hx
      have HV := Lib.hid hv
      clear hx hv
      have hsl4 := run_slice_arr_from (P := Tryd.prog) (t := 49) (e := 5) (g := w3.heap.size) (o := 0) (n := 32) (ht := Tryd.underlying49) (he := u8_size) (kl := .i64) (L := 4 * (k : Int)) (l := 4 * k) (eL := by omega) (h3 := by omega)
      have HSL := Lib.hid hsl4
      clear hsl4
      have x4 : IntKind.i64.wrap (4 * (k : Int)) = 4 * (k : Int) := IntWalk.i64_in _ (by omega)
      go_wp2_with fail
      rw [run_index_agg wr 43 40 8 .i64 .u32 Tryd.underlying43 Tryd.underlying40 u32_size (us R.list) _ k (.int .u32 (x : Int)) rfl hlt HV.out]
      go_wp2_with fail
      refine wp_region_any (by kernel_rfl) ?_
      change wpAny _ _ _ _ _ _ _ (World.drew _)
      refine wpAny_take (i := 0) (v := (.int .i64 (k : Int))) rfl (by kernel_rfl) (by kernel_rfl) (by kernel_rfl) (fun _ _ _ h => h) (Or.inl ⟨by rfl, fun _ => by go_simp⟩) ?_
      simp only [List.getElem_toArray, List.getElem_cons_succ, List.getElem_cons_zero, Act.put, List.setIfInBounds_toArray, List.set_cons_zero, List.set_cons_succ]
      refine wpAny_take (i := 1) (v := (.int .i64 (4 * (k : Int)))) rfl (by kernel_rfl) (by kernel_rfl) (by kernel_rfl) (fun _ _ _ h => h) (Or.inl ⟨by rfl, fun _ => by go_simp⟩) ?_
      simp only [List.getElem_toArray, List.getElem_cons_succ, List.getElem_cons_zero, Act.put, List.setIfInBounds_toArray, List.set_cons_zero, List.set_cons_succ]
      refine wpAny_take (i := 2) (v := (.slice (some ⟨w3.heap.size, 4 * k, none⟩) (32 - 4 * k) (32 - 4 * k))) rfl (by kernel_rfl) (by kernel_rfl) (by kernel_rfl) (fun _ _ _ h => h) (Or.inl ⟨by rfl, fun _ => by go_simp; rw [HSL.out, Nat.zero_add]; rfl⟩) ?_
      simp only [List.getElem_toArray, List.getElem_cons_succ, List.getElem_cons_zero, Act.put, List.setIfInBounds_toArray, List.set_cons_zero, List.set_cons_succ]
      refine wpAny_take (i := 3) (v := (.int .u32 (x : Int))) rfl (by kernel_rfl) (by kernel_rfl) (by kernel_rfl) (fun _ _ _ h => h) (Or.inl ⟨by rfl, fun _ => by go_simp⟩) ?_
      simp only [List.getElem_toArray, List.getElem_cons_succ, List.getElem_cons_zero, Act.put, List.setIfInBounds_toArray, List.set_cons_zero, List.set_cons_succ]
      clear x4
      refine wpAny_ready (rs := [4]) (by kernel_rfl) (by simp) (AllReady.cons rfl (fun K hK => ?_) AllReady.nil)
      simp only [List.getElem_toArray, List.getElem_cons_succ, List.getElem_cons_zero, Act.put, List.setIfInBounds_toArray, List.set_cons_zero, List.set_cons_succ]
      go_simp
      refine (store_any x false _).mono ?_
      rintro e w5 ⟨A5, c5, rfl, hnew5⟩
      refine hK _ _ ?_
      clear hK K
      have b05 := b0.drew.next hnew5.below
      have b45 := b4.drew.next hnew5.below
      have hb5 : Below w.heap.size w w5 := hb.drew.trans (hnew5.below.mono (by have := hb.size; simp; omega))
      obtain ⟨w6, hcp, b46, hg6⟩ := run_copy_but (P := Tryd.prog) w5 22 22 3 5 Tryd.underlying22 u8_size w3.heap.size (4 * k) (32 - 4 * k) (32 - 4 * k) _ A5 4 c5 (cb (stored x false)) hnew5.sl _ _ b45 (by rw [cb_len, upTo_len _ _ (by rw [HSHL.out]; omega), HSHL.out]; omega) (cb_one _)
      have hpart : stored x false = ((sha m).drop (4 * k)).take (stored x false).length := by rw [stored_len, HSH.out, out_part _ _ (by rw [list_len]; exact hlt), HX.out]
      rw [List.take_of_length_le (by rw [cb_len, stored_len]; omega), ← cb_splice, upTo_splice (sha m) (stored x false) (4 * k) hpart (by rw [stored_len, HSHL.out]; omega), stored_len] at b46
      have b06 := b05.grown hg6 (by simp; omega)
      have hb6 : Below w.heap.size w w6 := below_but hb5 hg6 (by have := hb5.size; omega) (by omega)
      have HCP := Lib.hid hcp
      clear hcp hpart b05 b45 hb5 hg6 hnew5
      refine wpAny_ready (rs := [5]) (by kernel_rfl) (by simp) (AllReady.cons rfl (fun K hK => ?_) AllReady.nil)
      simp only [List.getElem_toArray, List.getElem_cons_succ, List.getElem_cons_zero, Act.put, List.setIfInBounds_toArray, List.set_cons_zero, List.set_cons_succ]
      go_simp
      rw [HCP.out]
      go_simp
      refine hK _ _ ?_
      clear hK K
      refine wpAny_done (by kernel_rfl) ?_ _
      go_wp2
      go_roundw
      case rel => exact ⟨k + 1, by omega, by go_num, b06, by rw [show 4 * (k + 1) = 4 * k + 4 by omega]; exact b46, hb6⟩
      case measure => simp [intOf]; omega
    · have HK : Hid (k = 8) := (by omega : k = 8)
      have hall : Bl wr w3.heap.size (cb (sha m)) 49 := by rw [HK.out, show 4 * 8 = (sha m).length from HSHL.out.symm, upTo_all] at b4; exact b4
      clear b4
      go_wp2_with (first
        | (refine wpList_load_mid rfl 49 _ rfl _ _ rfl (cb (sha m)) _ hall.whole Tryd.underlying49 rfl (by rw [size_sum, cb_len, HSHL.out]) ?_)
        | (refine wpList_store_mid rfl 49 _ _ rfl _ _ (cb (sha m)).toArray rfl rfl (b0.there_ (by simp [zeros, cb_len, HSHL.out])) (by rw [size_sum, List.size_toArray, cb_len, HSHL.out]) (all_oneCell_toArray (cb_one _)) ?_))
      have hc := b0.over (vs := cb (sha m)) (by rw [cb_len, HSHL.out, zeros_len])
      exact ret_row Tryd.results30 rfl hc Tryd.underlying49 rfl (by rw [size_sum, cb_len, HSHL.out]) rfl ⟨rfl, below_setCells hb (Nat.le_refl _) _ _⟩

end Go.Proofs.YtfmbilnbbpbpeaaDoor

