/- blockOf and behind of package mac; a State's cells that lie anywhere. -/
import Derived.Test.YtfmbilnbbpbpeaaDoorDigW
import Derived.Test.YtfmbilnbbpbpeaaDoorMac
namespace Go.Proofs.YtfmbilnbbpbpeaaDoor
open Go.RowKit
set_option linter.unusedVariables false
set_option linter.unusedSimpArgs false

/-- The cells of a State that has been added just the bytes m. -/
def StC (m : List UInt8) (C : List Value) : Prop := ∃ buf : List UInt8, buf.length = 64 ∧ buf.take (m.length % 64) = m.drop (64 * (m.length / 64)) ∧ C = stc (hs m (m.length / 64)) buf m.length
theorem StC.len {m : List UInt8} {C : List Value} (h : StC m C) : C.length = 73 := by obtain ⟨buf, h1, _, rfl⟩ := h; exact stc_len _ _ _ h1
theorem StC.one {m : List UInt8} {C : List Value} (h : StC m C) : ∀ v ∈ C, v.oneCell' = true := by obtain ⟨buf, h1, _, rfl⟩ := h; exact stc_one _ _ _
theorem St.cells {w : World} {g : Nat} {m : List UInt8} (h : St w g m) : ∃ C, StC m C ∧ Bl w g C 45 := by
  obtain ⟨buf, h1, h2, h3⟩ := h
  exact ⟨_, ⟨buf, h1, h2, rfl⟩, h3⟩
theorem StC.st {w : World} {g : Nat} {m : List UInt8} {C : List Value} (h : StC m C) (hb : Bl w g C 45) : St w g m := by
  obtain ⟨buf, h1, h2, rfl⟩ := h
  exact ⟨buf, h1, h2, hb⟩

theorem copyAt_any (g o : Nat) (m : List UInt8) (C : List Value) (w : World) (h : StC m C) (h3 : w.rangeAt g o C) : Calls Tryd.prog 29 #[.pointer (some ⟨g, o, none⟩)] w (RetSt w m) := by
  have HL := Lib.hid h.len
  have HO := Lib.hid h.one
  have HC := Lib.hid h
  clear h
  have hz := stc_len ⟨0, 0, 0, 0, 0, 0, 0, 0⟩ (List.replicate 64 0) 0 (by simp)
  obtain ⟨Z, hZ⟩ : ∃ Z, Z = stc ⟨0, 0, 0, 0, 0, 0, 0, 0⟩ (List.replicate 64 0) 0 := ⟨_, rfl⟩
  have hzs := zero_state
  rw [← hZ] at hz hzs
  have HZ := Lib.hid hz
  have HZS := Lib.hid hzs
  clear hZ hz hzs
  go_enter Tryd.func29, Tryd.ntmps29
  go_wp2_with (first
    | (refine wpList_load_mid rfl 45 _ rfl _ _ rfl C _ h3 Tryd.underlying45 rfl (by rw [size_state, HL.out]) ?_)
    | (refine wpList_alloc_zero rfl 45 rfl Z HZS.out ?_)
    | (refine wpList_store_mid rfl 45 _ _ rfl _ _ C.toArray rfl rfl (Bl.there_ (Bl.new _ Z 45) (by simp [HL.out, HZ.out])) (by rw [size_state, List.size_toArray, HL.out]) (all_oneCell_toArray HO.out) ?_))
  go_ret
  have hb := (Bl.new w Z 45).over (vs := C) (by rw [HL.out, HZ.out])
  exact ⟨w.heap.size, rfl, Nat.le_refl _, HC.out.st hb, below_setCells ((Below.refl _ w).alloc (Nat.le_refl _) _) (Nat.le_refl _) _ _⟩

theorem zero_block : (Tryd.prog.info? 41).map (·.zero) = some (some (.agg (zeros .u8 64).toArray)) := by kernel_rfl
theorem built_block : Tryd.prog.built 41 [] = some (zeros .u8 64).toArray := by kernel_rfl
theorem zeros_cb (n : Nat) : zeros .u8 n = cb (List.replicate n 0) := by simp [zeros, cb, bc]
theorem zeros_over (n : Nat) (l : List UInt8) : splice (zeros .u8 n) 0 (cb l) = cb (l ++ List.replicate (n - l.length) 0) := by
  rw [zeros_cb, cb_append]
  unfold splice
  rw [List.take_zero, List.nil_append, Nat.zero_add, cb_len]
  simp [cb]
theorem kblk_cells (key : List UInt8) : splice (zeros .u8 64) 0 ((cb (kshort key)).take 64) = cb (kblk key) := by
  have := kshort_len key
  rw [List.take_of_length_le (by rw [cb_len]; omega), zeros_over]
  rfl

set_option maxRecDepth 100000 in
set_option maxHeartbeats 600000 in
theorem blockOf_any (key : List UInt8) (w : World) (B : Nat) (A : Option Addr) (n c : Nat) (h : Sl w B A n (cb key)) (hc : n ≤ c) (hA : A = none → c = 0) (hB : B ≤ w.heap.size) (hT : Tabs w) (hm : n ≤ 100000000) :
    Calls Tryd.prog 18 #[.slice A n c] w fun e w' => e = .returned (.agg (cb (kblk key)).toArray) ∧ Below w.heap.size w w' := by
  have hn : n = key.length := by rw [← h.1, cb_len]
  subst hn
  have HT := Lib.hid hT
  clear hT
  have HKL := Lib.hid (kblk_len key)
  have HKC := Lib.hid (kblk_cells key)
  obtain ⟨Z, hZ⟩ : ∃ Z, Z = zeros .u8 64 := ⟨_, rfl⟩
  have hzl : Z.length = 64 := by rw [hZ, zeros_len]
  have hz1 := zero_block
  have hz2 := built_block
  have hz3 : ∀ v ∈ Z, v.oneCell' = true := by rw [hZ]; exact zeros_one _ _
  rw [← hZ] at hz1 hz2 HKC
  have HZ1 := Lib.hid hz1
  have HZ2 := Lib.hid hz2
  have HZ3 := Lib.hid hz3
  have HZL := Lib.hid hzl
  clear hZ hz1 hz2 hz3 hzl
  obtain ⟨b0, b1, hsz, hb0⟩ := sum_start w Z 41 Z Z 41 rfl
  obtain ⟨W1, hW1⟩ : ∃ W, W = ((w.alloc (.cells Z.toArray 41)).alloc (.cells Z.toArray 41)).setCells (w.heap.size + 1) 0 Z := ⟨_, rfl⟩
  rw [← hW1] at b0 b1 hsz hb0
  have HW1 : Hid (W1 = ((w.alloc (.cells Z.toArray 41)).alloc (.cells Z.toArray 41)).setCells (w.alloc (.cells Z.toArray 41)).heap.size 0 Z) := by unfold Hid; rw [hW1, alloc_size]
  have HSZ := Lib.hid hsz
  clear hW1 hsz
  have h1 := (h.up hB).below hb0
  by_cases hlong : 64 < key.length
  · have hks := kshort_long hlong
    have hp0 : Sl W1 W1.heap.size A key.length (cb key) := h1.up (by rw [HSZ.out]; omega)
    have HSL := Lib.hid (sha_len key)
    rw [hks] at HKC
    clear hks
    go_enter Tryd.func18, Tryd.ntmps18
    go_wp2_with (first
      | (refine wpList_build_to rfl 41 _ rfl Z HZ2.out ?_)
      | (refine wpList_alloc_zero rfl 41 rfl Z HZ1.out ?_)
      | (refine wpList_store_mid rfl 41 _ _ rfl _ _ Z.toArray rfl rfl (Bl.there_ (Bl.new _ Z 41) (by simp)) (by rw [size_block, List.size_toArray, HZL.out]) (all_oneCell_toArray HZ3.out) ?_; change wpList _ _ _ _ _ (World.setCells ((w.alloc (.cells Z.toArray 41)).alloc (.cells Z.toArray 41)) (w.alloc (.cells Z.toArray 41)).heap.size 0 Z); rw [← HW1.out]))
    obtain ⟨hp, hbp⟩ := list_one 22 hp0 hc hA
    have hb2 := hb0.trans (hbp.mono hb0.size)
    have b02 := b0.next hbp
    have b12 := b1.next hbp
    clear b0 b1 h1 hp0
    refine (of_any [key] _ _ _ _ _ hp (Nat.le_refl _) (by omega) (HT.out.next hb2) (by simp; omega)).mono ?_
    rintro e w3 ⟨rfl, hb3⟩
    rw [show [key].flatten = key by simp]
    have b03 := b02.next hb3
    have b13 := b12.next hb3
    have hbw3 := next hb2 hb3
    clear b02 b12 hb2 hb3 hp hbp hb0
    have hn := (Bl.new w3 (zeros .u8 32) 49)
    obtain ⟨W4, hW4⟩ : ∃ W, W = (w3.alloc (.cells (zeros .u8 32).toArray 49)).setCells w3.heap.size 0 (cb (sha key)) := ⟨_, rfl⟩
    have b24 : Bl W4 w3.heap.size (cb (sha key)) 49 := by rw [hW4]; exact hn.over (by rw [cb_len, HSL.out, zeros_len])
    have hb4 : Below w3.heap.size w3 W4 := by rw [hW4]; exact below_setCells ((Below.refl _ w3).alloc (Nat.le_refl _) _) (Nat.le_refl _) _ _
    have b04 := b03.next hb4
    have b14 := b13.next hb4
    have hbw4 := next hbw3 hb4
    have hs4 : Sl W4 (w3.heap.size + 1) (some ⟨w3.heap.size, 0, none⟩) 32 (cb (sha key)) := b24.sl (o := 0) (n := 32) (by rw [List.drop_zero, List.take_of_length_le (by rw [cb_len, HSL.out]; omega)]) (by rw [cb_len, HSL.out]; omega)
    have HW4 := Lib.hid hW4
    clear hW4 hn b03 b13 hbw3 hb4 b24
    go_wp2_with (first
      | (refine wpList_alloc_zero rfl 49 rfl (zeros .u8 32) zero_sum ?_)
      | (refine wpList_store_mid rfl 49 _ _ rfl _ _ (cb (sha key)).toArray rfl rfl (Bl.there_ (Bl.new _ (zeros .u8 32) 49) (by simp [zeros, cb_len, HSL.out])) (by rw [size_sum, List.size_toArray, cb_len, HSL.out]) (all_oneCell_toArray (cb_one _)) ?_; change wpList _ _ _ _ _ (World.setCells (w3.alloc (.cells (zeros .u8 32).toArray 49)) w3.heap.size 0 (cb (sha key))); rw [← HW4.out]))
    obtain ⟨w5, hcp, b15, hg5⟩ := run_copy_but (P := Tryd.prog) W4.drew 22 22 3 5 Tryd.underlying22 u8_size (w.heap.size + 1) 0 64 64 _ (some ⟨w3.heap.size, 0, none⟩) 32 32 (cb (sha key)) hs4 _ _ b14.drew (by rw [HZL.out]; omega) (cb_one _)
    rw [HKC.out] at b15
    have b05 := b04.drew.grown hg5 (by simp)
    have hbw5 : Below w.heap.size w w5 := below_but hbw4.drew hg5 (by have := hbw4.size; simp; omega) (by omega)
    have HCP := Lib.hid hcp
    clear hcp hs4 b04 b14 hg5 hbw4
    refine wp_region_any (by kernel_rfl) ?_
    change wpAny _ _ _ _ _ _ _ (World.drew _)
    refine wpAny_take (i := 0) (v := (.slice (some ⟨w.heap.size + 1, 0, none⟩) 64 64)) rfl (by kernel_rfl) (by kernel_rfl) (by kernel_rfl) (fun _ _ _ h => h) (Or.inl ⟨by rfl, fun _ => by go_simp⟩) ?_
    simp only [List.getElem_toArray, List.getElem_cons_succ, List.getElem_cons_zero, Act.put, List.setIfInBounds_toArray, List.set_cons_zero, List.set_cons_succ]
    refine wpAny_take (i := 1) (v := (.slice (some ⟨w3.heap.size, 0, none⟩) 32 32)) rfl (by kernel_rfl) (by kernel_rfl) (by kernel_rfl) (fun _ _ _ h => h) (Or.inl ⟨by rfl, fun _ => by go_simp⟩) ?_
    simp only [List.getElem_toArray, List.getElem_cons_succ, List.getElem_cons_zero, Act.put, List.setIfInBounds_toArray, List.set_cons_zero, List.set_cons_succ]
    refine wpAny_ready (rs := [2]) (by kernel_rfl) (by simp) (AllReady.cons rfl (fun K hK => ?_) AllReady.nil)
    simp only [List.getElem_toArray, List.getElem_cons_succ, List.getElem_cons_zero, Act.put, List.setIfInBounds_toArray, List.set_cons_zero, List.set_cons_succ]
    go_simp
    rw [HCP.out]
    go_simp
    refine hK _ _ ?_
    clear hK K
    refine wpAny_done (by kernel_rfl) ?_ _
    go_wp2_with (first
      | (refine wpList_load_mid rfl 41 _ rfl _ _ rfl (cb (kblk key)) _ b15.whole Tryd.underlying41 rfl (by rw [size_block, cb_len, HKL.out]) ?_)
      | (refine wpList_store_mid rfl 41 _ _ rfl _ _ (cb (kblk key)).toArray rfl rfl (b05.there_ (by simp [cb_len, HZL.out, HKL.out])) (by rw [size_block, List.size_toArray, cb_len, HKL.out]) (all_oneCell_toArray (cb_one _)) ?_))
    have hfin := b05.over (vs := cb (kblk key)) (by rw [cb_len, HKL.out, HZL.out])
    exact ret_row Tryd.results18 rfl hfin Tryd.underlying41 rfl (by rw [size_block, cb_len, HKL.out]) rfl ⟨rfl, below_setCells hbw5 (Nat.le_refl _) _ _⟩
  · have hks := kshort_low hlong
    rw [hks] at HKC
    clear hks
    obtain ⟨w5, hcp, b15, hg5⟩ := run_copy_but (P := Tryd.prog) W1 22 22 3 5 Tryd.underlying22 u8_size (w.heap.size + 1) 0 64 64 _ A key.length c (cb key) h1 _ _ b1 (by rw [HZL.out]; omega) (cb_one _)
    rw [HKC.out] at b15
    have b05 := b0.grown hg5 (by simp)
    have hbw5 : Below w.heap.size w w5 := below_but hb0 hg5 (by have := hb0.size; omega) (by omega)
    have HCP := Lib.hid hcp
    clear hcp b0 b1 hg5 hb0
    go_enter Tryd.func18, Tryd.ntmps18
    go_wp2_with (first
      | (refine wpList_build_to rfl 41 _ rfl Z HZ2.out ?_)
      | (refine wpList_alloc_zero rfl 41 rfl Z HZ1.out ?_)
      | (refine wpList_store_mid rfl 41 _ _ rfl _ _ Z.toArray rfl rfl (Bl.there_ (Bl.new _ Z 41) (by simp)) (by rw [size_block, List.size_toArray, HZL.out]) (all_oneCell_toArray HZ3.out) ?_; change wpList _ _ _ _ _ (World.setCells ((w.alloc (.cells Z.toArray 41)).alloc (.cells Z.toArray 41)) (w.alloc (.cells Z.toArray 41)).heap.size 0 Z); rw [← HW1.out]))
    rw [HCP.out]
    go_wp2_with (first
      | (refine wpList_load_mid rfl 41 _ rfl _ _ rfl (cb (kblk key)) _ b15.whole Tryd.underlying41 rfl (by rw [size_block, cb_len, HKL.out]) ?_)
      | (refine wpList_store_mid rfl 41 _ _ rfl _ _ (cb (kblk key)).toArray rfl rfl (b05.there_ (by simp [cb_len, HZL.out, HKL.out])) (by rw [size_block, List.size_toArray, cb_len, HKL.out]) (all_oneCell_toArray (cb_one _)) ?_))
    have hfin := b05.over (vs := cb (kblk key)) (by rw [cb_len, HKL.out, HZL.out])
    exact ret_row Tryd.results18 rfl hfin Tryd.underlying41 rfl (by rw [size_block, cb_len, HKL.out]) rfl ⟨rfl, below_setCells hbw5 (Nat.le_refl _) _ _⟩

end Go.Proofs.YtfmbilnbbpbpeaaDoor

