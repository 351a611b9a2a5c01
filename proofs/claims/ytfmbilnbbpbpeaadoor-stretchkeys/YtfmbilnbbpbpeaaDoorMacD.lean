/- New of package mac. -/
import Derived.Test.YtfmbilnbbpbpeaaDoorMacC
namespace Go.Proofs.YtfmbilnbbpbpeaaDoor
open Go.RowKit
set_option linter.unusedVariables false
set_option linter.unusedSimpArgs false

theorem behind54 (b : List UInt8) (w : World) (hb : b.length = 64) (hT : Tabs w) :
    Calls Tryd.prog 19 #[.agg (cb b).toArray, .int .u8 54] w fun e w' => ∃ C, e = .returned (.agg C.toArray) ∧ StC (kx 54 b) C ∧ Below w.heap.size w w' := behind_any b 54 w hb hT
theorem behind92 (b : List UInt8) (w : World) (hb : b.length = 64) (hT : Tabs w) :
    Calls Tryd.prog 19 #[.agg (cb b).toArray, .int .u8 92] w fun e w' => ∃ C, e = .returned (.agg C.toArray) ∧ StC (kx 92 b) C ∧ Below w.heap.size w w' := behind_any b 92 w hb hT

set_option maxRecDepth 100000 in
set_option maxHeartbeats 800000 in
theorem mnew_any (key : List UInt8) (w : World) (B : Nat) (A : Option Addr) (n c : Nat) (h : Sl w B A n (cb key)) (hc : n ≤ c) (hA : A = none → c = 0) (hB : B ≤ w.heap.size) (hT : Tabs w) (hm : n ≤ 100000000) :
    Calls Tryd.prog 14 #[.slice A n c] w (RetKy w key) := by
  have HT := Lib.hid hT
  clear hT
  have HKL := Lib.hid (kblk_len key)
  obtain ⟨b, hbk⟩ : ∃ b, b = kblk key := ⟨_, rfl⟩
  have HBK := Lib.hid hbk
  rw [← hbk] at HKL
  obtain ⟨Z, hZ⟩ : ∃ Z, Z = zeros .u8 64 := ⟨_, rfl⟩
  have hzl : Z.length = 64 := by rw [hZ, zeros_len]
  have hz1 := zero_block
  rw [← hZ] at hz1
  have HZ1 := Lib.hid hz1
  have HZL := Lib.hid hzl
  clear hZ hz1 hzl
  go_enter Tryd.func14, Tryd.ntmps14
  go_wp2_with fail
  refine (blockOf_any key w B A n c h hc hA hB HT.out hm).mono ?_
  rintro e w1 ⟨rfl, hb1⟩
  rw [← hbk]
  clear hbk
  have hn := (Bl.new w1 Z 41)
  obtain ⟨W2, hW2⟩ : ∃ W, W = (w1.alloc (.cells Z.toArray 41)).setCells w1.heap.size 0 (cb b) := ⟨_, rfl⟩
  have b2 : Bl W2 w1.heap.size (cb b) 41 := by rw [hW2]; exact hn.over (by rw [cb_len, HKL.out, HZL.out])
  have hb2 : Below w.heap.size w W2 := by rw [hW2]; exact below_setCells (hb1.alloc hb1.size _) hb1.size _ _
  have HW2 := Lib.hid hW2
  clear hW2 hn hb1
  go_wp2_with (first
    | (refine wpList_alloc_zero rfl 41 rfl Z HZ1.out ?_)
    | (refine wpList_store_mid rfl 41 _ _ rfl _ _ (cb b).toArray rfl rfl (Bl.there_ (Bl.new _ Z 41) (by simp [cb_len, HKL.out, HZL.out])) (by rw [size_block, List.size_toArray, cb_len, HKL.out]) (all_oneCell_toArray (cb_one _)) ?_; change wpList _ _ _ _ _ (World.setCells (w1.alloc (.cells Z.toArray 41)) w1.heap.size 0 (cb b)); rw [← HW2.out]))
  have r2 : W2.drew.rangeAt w1.heap.size 0 (cb b) := b2.drew.whole
  have hT2 := (HT.out.next hb2).drew
  refine wp_region_any (by kernel_rfl) ?_
  change wpAny _ _ _ _ _ _ _ (World.drew _)
  refine wpAny_ready (rs := [0, 2]) (by kernel_rfl) (by simp) (AllReady.cons rfl (fun K hK => ?_) (AllReady.cons rfl (fun K hK => ?_) AllReady.nil))
  · simp only [List.getElem_toArray, List.getElem_cons_succ, List.getElem_cons_zero, Act.put, List.setIfInBounds_toArray, List.set_cons_zero, List.set_cons_succ]
    rw [if_pos (by rfl)]
    refine wp_load_mid 41 _ rfl w1.heap.size 0 rfl (cb b) _ r2 Tryd.underlying41 rfl (by rw [size_block, cb_len, HKL.out]) ?_
    refine hK _ _ ?_
    clear hK K
    simp only [List.getElem_toArray, List.getElem_cons_succ, List.getElem_cons_zero, Act.put, List.setIfInBounds_toArray, List.set_cons_zero, List.set_cons_succ]
    refine wpAny_ready (rs := [1, 2]) (by kernel_rfl) (by simp) (AllReady.cons rfl (fun K hK => ?_) (AllReady.cons rfl (fun K hK => ?_) AllReady.nil))
    · simp only [List.getElem_toArray, List.getElem_cons_succ, List.getElem_cons_zero, Act.put, List.setIfInBounds_toArray, List.set_cons_zero, List.set_cons_succ]
      go_simp
      refine (behind54 b _ HKL.out hT2).mono ?_
      rintro e w3 ⟨C1, rfl, hC1, hb3⟩
      refine hK _ _ ?_
      clear hK K
      have HC1 := Lib.hid hC1
      have HL1 := Lib.hid hC1.len
      have hbw3 : Below w.heap.size w w3 := hb2.drew.trans (hb3.mono hb2.size)
      have hT3 := HT.out.next hbw3
      have r3 : w3.rangeAt w1.heap.size 0 (cb b) := (b2.drew.next hb3).whole
      clear hb3 hC1
      refine wpAny_ready (rs := [2]) (by kernel_rfl) (by simp) (AllReady.cons rfl (fun K hK => ?_) AllReady.nil)
      simp only [List.getElem_toArray, List.getElem_cons_succ, List.getElem_cons_zero, Act.put, List.setIfInBounds_toArray, List.set_cons_zero, List.set_cons_succ]
      rw [if_pos (by rfl)]
      refine wp_load_mid 41 _ rfl w1.heap.size 0 rfl (cb b) _ r3 Tryd.underlying41 rfl (by rw [size_block, cb_len, HKL.out]) ?_
      refine hK _ _ ?_
      clear hK K
      simp only [List.getElem_toArray, List.getElem_cons_succ, List.getElem_cons_zero, Act.put, List.setIfInBounds_toArray, List.set_cons_zero, List.set_cons_succ]
      refine wpAny_ready (rs := [3]) (by kernel_rfl) (by simp) (AllReady.cons rfl (fun K hK => ?_) AllReady.nil)
      simp only [List.getElem_toArray, List.getElem_cons_succ, List.getElem_cons_zero, Act.put, List.setIfInBounds_toArray, List.set_cons_zero, List.set_cons_succ]
      go_simp
      refine (behind92 b _ HKL.out hT3).mono ?_
      rintro e w4 ⟨C2, rfl, hC2, hb4⟩
      refine hK _ _ ?_
      clear hK K
      have HC2 := Lib.hid hC2
      have HL2 := Lib.hid hC2.len
      have hbw4 := next hbw3 hb4
      clear hb4 hC2 r3 hT3 hbw3
      refine wpAny_take (i := 4) (v := .agg (C1 ++ C2).toArray) rfl (by kernel_rfl) (by kernel_rfl) (by kernel_rfl) (fun _ _ _ h => h) (Or.inl ⟨by rfl, exec_build 48 #[(0, .tmp 7), (1, .tmp 9)] rfl (C1 ++ C2) (built_key C1 C2 HL1.out HL2.out)⟩) ?_
      simp only [List.getElem_toArray, List.getElem_cons_succ, List.getElem_cons_zero, Act.put, List.setIfInBounds_toArray, List.set_cons_zero, List.set_cons_succ]
      refine wpAny_ready (rs := [5]) (by kernel_rfl) (by simp) (AllReady.cons rfl (fun K hK => ?_) AllReady.nil)
      simp only [List.getElem_toArray, List.getElem_cons_succ, List.getElem_cons_zero, Act.put, List.setIfInBounds_toArray, List.set_cons_zero, List.set_cons_succ]
      go_simp
      refine hK _ _ ?_
      clear hK K
      refine wpAny_take (i := 6) (v := (.pointer (some ⟨w4.heap.size, 0, none⟩))) rfl (by kernel_rfl) (by kernel_rfl) (by kernel_rfl) (fun _ _ _ h => h) (Or.inl ⟨by rfl, fun _ => by go_simp⟩) ?_
      simp only [List.getElem_toArray, List.getElem_cons_succ, List.getElem_cons_zero, Act.put, List.setIfInBounds_toArray, List.set_cons_zero, List.set_cons_succ]
      refine wpAny_done (by kernel_rfl) ?_ _
      go_wp2
      go_ret
      exact ⟨w4.heap.size, rfl, hbw4.size, ⟨C1, C2, by rw [← HBK.out]; exact HC1.out, by rw [← HBK.out]; exact HC2.out, Bl.new _ _ _⟩, hbw4.alloc hbw4.size _⟩
    · simp only [List.getElem_toArray, List.getElem_cons_succ, List.getElem_cons_zero, Act.put, List.setIfInBounds_toArray, List.set_cons_zero, List.set_cons_succ]
      rw [if_pos (by rfl)]
      refine wp_load_mid 41 _ rfl w1.heap.size 0 rfl (cb b) _ r2 Tryd.underlying41 rfl (by rw [size_block, cb_len, HKL.out]) ?_
      refine hK _ _ ?_
      clear hK K
      simp only [List.getElem_toArray, List.getElem_cons_succ, List.getElem_cons_zero, Act.put, List.setIfInBounds_toArray, List.set_cons_zero, List.set_cons_succ]
      refine wpAny_ready (rs := [1]) (by kernel_rfl) (by simp) (AllReady.cons rfl (fun K hK => ?_) AllReady.nil)
      simp only [List.getElem_toArray, List.getElem_cons_succ, List.getElem_cons_zero, Act.put, List.setIfInBounds_toArray, List.set_cons_zero, List.set_cons_succ]
      go_simp
      refine (behind54 b _ HKL.out hT2).mono ?_
      rintro e w3 ⟨C1, rfl, hC1, hb3⟩
      refine hK _ _ ?_
      clear hK K
      have HC1 := Lib.hid hC1
      have HL1 := Lib.hid hC1.len
      have hbw3 : Below w.heap.size w w3 := hb2.drew.trans (hb3.mono hb2.size)
      have hT3 := HT.out.next hbw3
      have r3 : w3.rangeAt w1.heap.size 0 (cb b) := (b2.drew.next hb3).whole
      clear hb3 hC1
      refine wpAny_ready (rs := [3]) (by kernel_rfl) (by simp) (AllReady.cons rfl (fun K hK => ?_) AllReady.nil)
      simp only [List.getElem_toArray, List.getElem_cons_succ, List.getElem_cons_zero, Act.put, List.setIfInBounds_toArray, List.set_cons_zero, List.set_cons_succ]
      go_simp
      refine (behind92 b _ HKL.out hT3).mono ?_
      rintro e w4 ⟨C2, rfl, hC2, hb4⟩
      refine hK _ _ ?_
      clear hK K
      have HC2 := Lib.hid hC2
      have HL2 := Lib.hid hC2.len
      have hbw4 := next hbw3 hb4
      clear hb4 hC2 r3 hT3 hbw3
      refine wpAny_take (i := 4) (v := .agg (C1 ++ C2).toArray) rfl (by kernel_rfl) (by kernel_rfl) (by kernel_rfl) (fun _ _ _ h => h) (Or.inl ⟨by rfl, exec_build 48 #[(0, .tmp 7), (1, .tmp 9)] rfl (C1 ++ C2) (built_key C1 C2 HL1.out HL2.out)⟩) ?_
      simp only [List.getElem_toArray, List.getElem_cons_succ, List.getElem_cons_zero, Act.put, List.setIfInBounds_toArray, List.set_cons_zero, List.set_cons_succ]
      refine wpAny_ready (rs := [5]) (by kernel_rfl) (by simp) (AllReady.cons rfl (fun K hK => ?_) AllReady.nil)
      simp only [List.getElem_toArray, List.getElem_cons_succ, List.getElem_cons_zero, Act.put, List.setIfInBounds_toArray, List.set_cons_zero, List.set_cons_succ]
      go_simp
      refine hK _ _ ?_
      clear hK K
      refine wpAny_take (i := 6) (v := (.pointer (some ⟨w4.heap.size, 0, none⟩))) rfl (by kernel_rfl) (by kernel_rfl) (by kernel_rfl) (fun _ _ _ h => h) (Or.inl ⟨by rfl, fun _ => by go_simp⟩) ?_
      simp only [List.getElem_toArray, List.getElem_cons_succ, List.getElem_cons_zero, Act.put, List.setIfInBounds_toArray, List.set_cons_zero, List.set_cons_succ]
      refine wpAny_done (by kernel_rfl) ?_ _
      go_wp2
      go_ret
      exact ⟨w4.heap.size, rfl, hbw4.size, ⟨C1, C2, by rw [← HBK.out]; exact HC1.out, by rw [← HBK.out]; exact HC2.out, Bl.new _ _ _⟩, hbw4.alloc hbw4.size _⟩
  · simp only [List.getElem_toArray, List.getElem_cons_succ, List.getElem_cons_zero, Act.put, List.setIfInBounds_toArray, List.set_cons_zero, List.set_cons_succ]
    rw [if_pos (by rfl)]
    refine wp_load_mid 41 _ rfl w1.heap.size 0 rfl (cb b) _ r2 Tryd.underlying41 rfl (by rw [size_block, cb_len, HKL.out]) ?_
    refine hK _ _ ?_
    clear hK K
    simp only [List.getElem_toArray, List.getElem_cons_succ, List.getElem_cons_zero, Act.put, List.setIfInBounds_toArray, List.set_cons_zero, List.set_cons_succ]
    refine wpAny_ready (rs := [0]) (by kernel_rfl) (by simp) (AllReady.cons rfl (fun K hK => ?_) AllReady.nil)
    simp only [List.getElem_toArray, List.getElem_cons_succ, List.getElem_cons_zero, Act.put, List.setIfInBounds_toArray, List.set_cons_zero, List.set_cons_succ]
    rw [if_pos (by rfl)]
    refine wp_load_mid 41 _ rfl w1.heap.size 0 rfl (cb b) _ r2 Tryd.underlying41 rfl (by rw [size_block, cb_len, HKL.out]) ?_
    refine hK _ _ ?_
    clear hK K
    simp only [List.getElem_toArray, List.getElem_cons_succ, List.getElem_cons_zero, Act.put, List.setIfInBounds_toArray, List.set_cons_zero, List.set_cons_succ]
    refine wpAny_ready (rs := [1]) (by kernel_rfl) (by simp) (AllReady.cons rfl (fun K hK => ?_) AllReady.nil)
    simp only [List.getElem_toArray, List.getElem_cons_succ, List.getElem_cons_zero, Act.put, List.setIfInBounds_toArray, List.set_cons_zero, List.set_cons_succ]
    go_simp
    refine (behind54 b _ HKL.out hT2).mono ?_
    rintro e w3 ⟨C1, rfl, hC1, hb3⟩
    refine hK _ _ ?_
    clear hK K
    have HC1 := Lib.hid hC1
    have HL1 := Lib.hid hC1.len
    have hbw3 : Below w.heap.size w w3 := hb2.drew.trans (hb3.mono hb2.size)
    have hT3 := HT.out.next hbw3
    have r3 : w3.rangeAt w1.heap.size 0 (cb b) := (b2.drew.next hb3).whole
    clear hb3 hC1
    refine wpAny_ready (rs := [3]) (by kernel_rfl) (by simp) (AllReady.cons rfl (fun K hK => ?_) AllReady.nil)
    simp only [List.getElem_toArray, List.getElem_cons_succ, List.getElem_cons_zero, Act.put, List.setIfInBounds_toArray, List.set_cons_zero, List.set_cons_succ]
    go_simp
    refine (behind92 b _ HKL.out hT3).mono ?_
    rintro e w4 ⟨C2, rfl, hC2, hb4⟩
    refine hK _ _ ?_
    clear hK K
    have HC2 := Lib.hid hC2
    have HL2 := Lib.hid hC2.len
    have hbw4 := next hbw3 hb4
    clear hb4 hC2 r3 hT3 hbw3
    refine wpAny_take (i := 4) (v := .agg (C1 ++ C2).toArray) rfl (by kernel_rfl) (by kernel_rfl) (by kernel_rfl) (fun _ _ _ h => h) (Or.inl ⟨by rfl, exec_build 48 #[(0, .tmp 7), (1, .tmp 9)] rfl (C1 ++ C2) (built_key C1 C2 HL1.out HL2.out)⟩) ?_
    simp only [List.getElem_toArray, List.getElem_cons_succ, List.getElem_cons_zero, Act.put, List.setIfInBounds_toArray, List.set_cons_zero, List.set_cons_succ]
    refine wpAny_ready (rs := [5]) (by kernel_rfl) (by simp) (AllReady.cons rfl (fun K hK => ?_) AllReady.nil)
    simp only [List.getElem_toArray, List.getElem_cons_succ, List.getElem_cons_zero, Act.put, List.setIfInBounds_toArray, List.set_cons_zero, List.set_cons_succ]
    go_simp
    refine hK _ _ ?_
    clear hK K
    refine wpAny_take (i := 6) (v := (.pointer (some ⟨w4.heap.size, 0, none⟩))) rfl (by kernel_rfl) (by kernel_rfl) (by kernel_rfl) (fun _ _ _ h => h) (Or.inl ⟨by rfl, fun _ => by go_simp⟩) ?_
    simp only [List.getElem_toArray, List.getElem_cons_succ, List.getElem_cons_zero, Act.put, List.setIfInBounds_toArray, List.set_cons_zero, List.set_cons_succ]
    refine wpAny_done (by kernel_rfl) ?_ _
    go_wp2
    go_ret
    exact ⟨w4.heap.size, rfl, hbw4.size, ⟨C1, C2, by rw [← HBK.out]; exact HC1.out, by rw [← HBK.out]; exact HC2.out, Bl.new _ _ _⟩, hbw4.alloc hbw4.size _⟩

end Go.Proofs.YtfmbilnbbpbpeaaDoor

