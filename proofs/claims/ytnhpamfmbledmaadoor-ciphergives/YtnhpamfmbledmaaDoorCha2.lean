/- The walk of the law CipherGives. -/
import Derived.Test.YtnhpamfmbledmaaDoorCha1
namespace Go.Proofs.YtnhpamfmbledmaaDoor
open Go.RowKit
set_option linter.unusedVariables false
set_option linter.unusedSimpArgs false

/-- The law's variables and the blocks' state, m rounds being over. -/
structure GI (w : World) (l0 l1 : List UInt8) (A0 : Option Addr) (c0 : Nat) (A1 : Option Addr) (c1 : Nat) (f mo wt gF gS gw gn gok : Nat) (m : Nat) (W : World) : Prop where
  bk : Bl W w.heap.size [.slice A0 l0.length c0] 22
  bn : Bl W (w.heap.size + 1) [.slice A1 l1.length c1] 22
  bf : Bl W (w.heap.size + 2) [.int .u32 (f : Int)] 23
  bm : Bl W (w.heap.size + 3) [.int .u8 (mo : Int)] 5
  bw : Bl W gw [.int .u64 (wt : Int)] 36
  bc : Bl W gn [.int .u64 (m : Int)] 36
  bo : Bl W gok [.bool true] 4
  bF : Bl W gF [.int .u32 (f : Int)] 23
  bs : Bl W gS (us (stOf l0 l1 0)) 47
  below : Below w.heap.size w W

section
variable {w W W' : World} {l0 l1 : List UInt8} {A0 : Option Addr} {c0 : Nat} {A1 : Option Addr} {c1 f mo wt gF gS gw gn gok m : Nat}
theorem GI.next (h : GI w l0 l1 A0 c0 A1 c1 f mo wt gF gS gw gn gok m W) (hb : Below W.heap.size W W') : GI w l0 l1 A0 c0 A1 c1 f mo wt gF gS gw gn gok m W' :=
  ⟨h.bk.next hb, h.bn.next hb, h.bf.next hb, h.bm.next hb, h.bw.next hb, h.bc.next hb, h.bo.next hb, h.bF.next hb, h.bs.next hb, Go.Proofs.YtnhpamfmbledmaaDoor.next h.below hb⟩
end

set_option maxRecDepth 100000 in
set_option maxHeartbeats 1000000 in
theorem gives1_any (w W : World) (l0 l1 : List UInt8) (A0 : Option Addr) (c0 : Nat) (A1 : Option Addr) (c1 f mo wt gF gS gw gn gok m N : Nat) (B : List UInt8)
    (h : GI w l0 l1 A0 c0 A1 c1 f mo wt gF gS gw gn gok m W) (hm : m < wt) (hwt : wt ≤ 9) (hmo : mo < 256) (hN : N = f + m) (hNl : N < 4294967296) (hB : B = cblk l0 l1 N) (hfl : l0.length = 32 ∧ l1.length = 12)
    (y0 : Sl w w.heap.size A0 l0.length (cb l0)) (y1 : Sl w w.heap.size A1 l1.length (cb l1)) (k0 : l0.length ≤ c0) (k1 : l1.length ≤ c1) (z0 : A0 = none → c0 = 0) (z1 : A1 = none → c1 = 0)
    (o1 : w.heap.size + 3 < gF) (o2 : gF < gS) (o3 : gS < gw) (o4 : gw < gn) (o5 : gn < gok) :
    Calls Tryd.prog 14 #[.int .u32 (N : Int), .agg (cb B).toArray, .pointer (some ⟨gok, 0, none⟩), .pointer (some ⟨gn, 0, none⟩), .pointer (some ⟨gw, 0, none⟩), .pointer (some ⟨w.heap.size + 2, 0, none⟩), .pointer (some ⟨w.heap.size, 0, none⟩), .pointer (some ⟨w.heap.size + 1, 0, none⟩), .pointer (some ⟨w.heap.size + 3, 0, none⟩)] W fun e W' => e = .returned (.bool (decide (m + 1 ≤ mo % 9))) ∧ GI w l0 l1 A0 c0 A1 c1 f mo wt gF gS gw gn gok (m + 1) W' := by
  have HBL : Hid (B.length = 64) := by unfold Hid; rw [hB, cblk_len]
  have HB := Lib.hid hB
  have HN := Lib.hid hN
  have HFL := Lib.hid hfl
  have b0 := Bl.new W (cb B) 25
  have hb0 : Below W.heap.size W (W.alloc (.cells (cb B).toArray 25)) := (Below.refl _ W).alloc (Nat.le_refl _) _
  obtain ⟨W1, hW1⟩ : ∃ x, x = W.alloc (.cells (cb B).toArray 25) := ⟨_, rfl⟩
  rw [← hW1] at b0 hb0
  have HW1 := Lib.hid hW1
  have h1 := h.next hb0
  have eN : (f : Int) + (m : Int) = (N : Int) := by omega
  obtain ⟨S, hSd⟩ : ∃ S : World → Prop, S = fun w' => Below W1.heap.size W1 w' := ⟨_, rfl⟩
  have HSI : Hid (∀ w', Below W1.heap.size W1 w' → S w') := by unfold Hid; intro w' h; rw [hSd]; exact h
  have HSo : Hid (∀ w', S w' → w'.cell? ⟨gok, 0, none⟩ = some (.bool true)) := by unfold Hid; intro w' h; rw [hSd] at h; exact (h1.bo.next h).cell 0
  have HSc : Hid (∀ w', S w' → w'.cell? ⟨gn, 0, none⟩ = some (.int .u64 (m : Int))) := by unfold Hid; intro w' h; rw [hSd] at h; exact (h1.bc.next h).cell 0
  have HSw : Hid (∀ w', S w' → w'.cell? ⟨gw, 0, none⟩ = some (.int .u64 (wt : Int))) := by unfold Hid; intro w' h; rw [hSd] at h; exact (h1.bw.next h).cell 0
  have HSf : Hid (∀ w', S w' → w'.cell? ⟨w.heap.size + 2, 0, none⟩ = some (.int .u32 (f : Int))) := by unfold Hid; intro w' h; rw [hSd] at h; exact (h1.bf.next h).cell 0
  have HSk : Hid (∀ w', S w' → w'.cell? ⟨w.heap.size, 0, none⟩ = some (.slice A0 l0.length c0)) := by unfold Hid; intro w' h; rw [hSd] at h; exact (h1.bk.next h).cell 0
  have HSn : Hid (∀ w', S w' → w'.cell? ⟨w.heap.size + 1, 0, none⟩ = some (.slice A1 l1.length c1)) := by unfold Hid; intro w' h; rw [hSd] at h; exact (h1.bn.next h).cell 0
  have hsb : Sl W1 W1.heap.size (some ⟨W.heap.size, 0, none⟩) 64 (cb B) := (b0.sl (o := 0) (n := 64) (by rw [List.drop_zero, List.take_of_length_le (by rw [cb_len, HBL.out]; omega)]) (by rw [cb_len, HBL.out]; omega)).up b0.lt
  have HSb : Hid (∀ w', S w' → (convert 22 9 (.slice (some ⟨W.heap.size, 0, none⟩) 64 64)).run Tryd.prog w' = .ok (.string ⟨B.toArray⟩) w') := by unfold Hid; intro w' h; rw [hSd] at h; exact u8_str (hsb.nx h) _
  have hmw : (m : Int) < (wt : Int) := by omega
  clear hB hN hfl hW1 hSd hsb b0 h
  go_enter Tryd.func14, Tryd.ntmps14
  go_wp2_with (refine wpList_box_agg rfl 25 _ rfl (cb B) rfl ?_; rw [← HW1.out])
  have hbd : Below W1.heap.size W1 W1.drew := (Below.refl _ W1).drew
  have hS := HSI.out _ hbd
  refine wp_region_K 24 S (by kernel_rfl) hS (fun _ => ?_)
  refine wpAnyK_take (i := 0) (v := (.bool true)) rfl (by kernel_rfl) (by kernel_rfl) (by kernel_rfl) (by kernel_rfl) (fun _ _ _ h => h) (Or.inl ⟨by rfl, fun w9 hw9 => by have hq9 := HSo.out w9 hw9; go_simp⟩) hS ?_
  simp only [List.getElem_toArray, List.getElem_cons_succ, List.getElem_cons_zero, Act.put, List.setIfInBounds_toArray, List.set_cons_zero, List.set_cons_succ]
  refine wpAnyK_take0 (i := 1) (v := (.bool true)) rfl (by kernel_rfl) (by kernel_rfl) (by kernel_rfl) (by kernel_rfl) (fun _ _ _ h => h) (Or.inl ⟨by rfl, fun _ => by go_simp⟩) hS ?_
  simp only [List.getElem_toArray, List.getElem_cons_succ, List.getElem_cons_zero, Act.put, List.setIfInBounds_toArray, List.set_cons_zero, List.set_cons_succ]
  refine wpAnyK_take (i := 2) (v := (.int .u64 (m : Int))) rfl (by kernel_rfl) (by kernel_rfl) (by kernel_rfl) (by kernel_rfl) (fun _ _ _ h => h) (Or.inl ⟨by rfl, fun w9 hw9 => by have hq9 := HSc.out w9 hw9; go_simp⟩) hS ?_
  simp only [List.getElem_toArray, List.getElem_cons_succ, List.getElem_cons_zero, Act.put, List.setIfInBounds_toArray, List.set_cons_zero, List.set_cons_succ]
  refine wpAnyK_take (i := 3) (v := (.int .u64 (wt : Int))) rfl (by kernel_rfl) (by kernel_rfl) (by kernel_rfl) (by kernel_rfl) (fun _ _ _ h => h) (Or.inl ⟨by rfl, fun w9 hw9 => by have hq9 := HSw.out w9 hw9; go_simp⟩) hS ?_
  simp only [List.getElem_toArray, List.getElem_cons_succ, List.getElem_cons_zero, Act.put, List.setIfInBounds_toArray, List.set_cons_zero, List.set_cons_succ]
  refine wpAnyK_take0 (i := 4) (v := (.bool true)) rfl (by kernel_rfl) (by kernel_rfl) (by kernel_rfl) (by kernel_rfl) (fun _ _ _ h => h) (Or.inl ⟨by rfl, fun _ => by go_simp⟩) hS ?_
  simp only [List.getElem_toArray, List.getElem_cons_succ, List.getElem_cons_zero, Act.put, List.setIfInBounds_toArray, List.set_cons_zero, List.set_cons_succ]
  refine wpAnyK_take0 (i := 5) (v := (.bool true)) rfl (by kernel_rfl) (by kernel_rfl) (by kernel_rfl) (by kernel_rfl) (fun _ _ _ h => h) (Or.inl ⟨by rfl, fun _ => by go_simp⟩) hS ?_
  simp only [List.getElem_toArray, List.getElem_cons_succ, List.getElem_cons_zero, Act.put, List.setIfInBounds_toArray, List.set_cons_zero, List.set_cons_succ]
  refine wpAnyK_take0 (i := 6) (v := (.bool true)) rfl (by kernel_rfl) (by kernel_rfl) (by kernel_rfl) (by kernel_rfl) (fun _ _ _ h => h) (Or.inl ⟨by rfl, fun _ => by go_simp⟩) hS ?_
  simp only [List.getElem_toArray, List.getElem_cons_succ, List.getElem_cons_zero, Act.put, List.setIfInBounds_toArray, List.set_cons_zero, List.set_cons_succ]
  refine wpAnyK_take0 (i := 7) (v := (.int .u32 (N : Int))) rfl (by kernel_rfl) (by kernel_rfl) (by kernel_rfl) (by kernel_rfl) (fun _ _ _ h => h) (Or.inl ⟨by rfl, fun _ => by go_simp⟩) hS ?_
  simp only [List.getElem_toArray, List.getElem_cons_succ, List.getElem_cons_zero, Act.put, List.setIfInBounds_toArray, List.set_cons_zero, List.set_cons_succ]
  refine wpAnyK_take (i := 8) (v := (.int .u32 (f : Int))) rfl (by kernel_rfl) (by kernel_rfl) (by kernel_rfl) (by kernel_rfl) (fun _ _ _ h => h) (Or.inl ⟨by rfl, fun w9 hw9 => by have hq9 := HSf.out w9 hw9; go_simp⟩) hS ?_
  simp only [List.getElem_toArray, List.getElem_cons_succ, List.getElem_cons_zero, Act.put, List.setIfInBounds_toArray, List.set_cons_zero, List.set_cons_succ]
  refine wpAnyK_take (i := 9) (v := (.int .u64 (m : Int))) rfl (by kernel_rfl) (by kernel_rfl) (by kernel_rfl) (by kernel_rfl) (fun _ _ _ h => h) (Or.inl ⟨by rfl, fun w9 hw9 => by have hq9 := HSc.out w9 hw9; go_simp⟩) hS ?_
  simp only [List.getElem_toArray, List.getElem_cons_succ, List.getElem_cons_zero, Act.put, List.setIfInBounds_toArray, List.set_cons_zero, List.set_cons_succ]
  refine wpAnyK_take0 (i := 10) (v := (.int .u32 (m : Int))) rfl (by kernel_rfl) (by kernel_rfl) (by kernel_rfl) (by kernel_rfl) (fun _ _ _ h => h) (Or.inl ⟨by rfl, fun _ => by go_simp; rw [IntKind.wrap_u32]; omega⟩) hS ?_
  simp only [List.getElem_toArray, List.getElem_cons_succ, List.getElem_cons_zero, Act.put, List.setIfInBounds_toArray, List.set_cons_zero, List.set_cons_succ]
  refine wpAnyK_take0 (i := 11) (v := (.int .u32 (N : Int))) rfl (by kernel_rfl) (by kernel_rfl) (by kernel_rfl) (by kernel_rfl) (fun _ _ _ h => h) (Or.inl ⟨by rfl, fun _ => by go_simp; rw [IntKind.wrap_u32]; omega⟩) hS ?_
  simp only [List.getElem_toArray, List.getElem_cons_succ, List.getElem_cons_zero, Act.put, List.setIfInBounds_toArray, List.set_cons_zero, List.set_cons_succ]
  refine wpAnyK_take0 (i := 12) (v := (.bool true)) rfl (by kernel_rfl) (by kernel_rfl) (by kernel_rfl) (by kernel_rfl) (fun _ _ _ h => h) (Or.inl ⟨by rfl, fun _ => by go_simp⟩) hS ?_
  simp only [List.getElem_toArray, List.getElem_cons_succ, List.getElem_cons_zero, Act.put, List.setIfInBounds_toArray, List.set_cons_zero, List.set_cons_succ]
  refine wpAnyK_take0 (i := 13) (v := (.bool true)) rfl (by kernel_rfl) (by kernel_rfl) (by kernel_rfl) (by kernel_rfl) (fun _ _ _ h => h) (Or.inl ⟨by rfl, fun _ => by go_simp⟩) hS ?_
  simp only [List.getElem_toArray, List.getElem_cons_succ, List.getElem_cons_zero, Act.put, List.setIfInBounds_toArray, List.set_cons_zero, List.set_cons_succ]
  refine wpAnyK_take0 (i := 14) (v := (.bool true)) rfl (by kernel_rfl) (by kernel_rfl) (by kernel_rfl) (by kernel_rfl) (fun _ _ _ h => h) (Or.inl ⟨by rfl, fun _ => by go_simp⟩) hS ?_
  simp only [List.getElem_toArray, List.getElem_cons_succ, List.getElem_cons_zero, Act.put, List.setIfInBounds_toArray, List.set_cons_zero, List.set_cons_succ]
  refine wpAnyK_take0 (i := 15) (v := (.slice (some ⟨W.heap.size, 0, none⟩) 64 64)) rfl (by kernel_rfl) (by kernel_rfl) (by kernel_rfl) (by kernel_rfl) (fun _ _ _ h => h) (Or.inl ⟨by rfl, fun _ => by go_simp⟩) hS ?_
  simp only [List.getElem_toArray, List.getElem_cons_succ, List.getElem_cons_zero, Act.put, List.setIfInBounds_toArray, List.set_cons_zero, List.set_cons_succ]
  refine wpAnyK_take (i := 16) (v := .string ⟨B.toArray⟩) rfl (by kernel_rfl) (by kernel_rfl) (by kernel_rfl) (by kernel_rfl) (fun _ _ _ h => h) (Or.inl ⟨by rfl, fun w' hw' => exec_convert w' _ _ _ rfl _ _ rfl (HSb.out w' hw')⟩) hS ?_
  simp only [List.getElem_toArray, List.getElem_cons_succ, List.getElem_cons_zero, Act.put, List.setIfInBounds_toArray, List.set_cons_zero, List.set_cons_succ]
  refine wpAnyK_take (i := 17) (v := (.slice A0 l0.length c0)) rfl (by kernel_rfl) (by kernel_rfl) (by kernel_rfl) (by kernel_rfl) (fun _ _ _ h => h) (Or.inl ⟨by rfl, fun w9 hw9 => by have hq9 := HSk.out w9 hw9; go_simp⟩) hS ?_
  simp only [List.getElem_toArray, List.getElem_cons_succ, List.getElem_cons_zero, Act.put, List.setIfInBounds_toArray, List.set_cons_zero, List.set_cons_succ]
  refine wpAnyK_take (i := 18) (v := (.slice A1 l1.length c1)) rfl (by kernel_rfl) (by kernel_rfl) (by kernel_rfl) (by kernel_rfl) (fun _ _ _ h => h) (Or.inl ⟨by rfl, fun w9 hw9 => by have hq9 := HSn.out w9 hw9; go_simp⟩) hS ?_
  simp only [List.getElem_toArray, List.getElem_cons_succ, List.getElem_cons_zero, Act.put, List.setIfInBounds_toArray, List.set_cons_zero, List.set_cons_succ]
  refine wpAnyK_take0 (i := 19) (v := (.int .u32 (N : Int))) rfl (by kernel_rfl) (by kernel_rfl) (by kernel_rfl) (by kernel_rfl) (fun _ _ _ h => h) (Or.inl ⟨by rfl, fun _ => by go_simp⟩) hS ?_
  simp only [List.getElem_toArray, List.getElem_cons_succ, List.getElem_cons_zero, Act.put, List.setIfInBounds_toArray, List.set_cons_zero, List.set_cons_succ]
  refine wpAnyK_one (i := 20) (by kernel_rfl) rfl (by decide) (by rfl) (fun K hK => ?_)
  simp only [List.getElem_toArray, List.getElem_cons_succ, List.getElem_cons_zero, Act.put, List.setIfInBounds_toArray, List.set_cons_zero, List.set_cons_succ]
  go_simp
  refine (rblock_n l0 l1 N _ A0 A1 _ _ c0 c1 HFL.out.1 HFL.out.2 (y0.nx (next h1.below hbd)) (y1.nx (next h1.below hbd)) k0 k1 z0 z1 hNl B HB.out).mono ?_
  rintro e w2 ⟨X5, d5, rfl, h5⟩
  have hb2 := next hbd h5.below
  have hq5 := u8_str h5.sl d5
  replace hS := HSI.out _ hb2
  refine hK.out _ _ hS ?_
  clear hK K hbd h5
  refine wpAnyK_one (i := 21) (by kernel_rfl) rfl (by decide) (by rfl) (fun K hK => ?_)
  simp only [List.getElem_toArray, List.getElem_cons_succ, List.getElem_cons_zero, Act.put, List.setIfInBounds_toArray, List.set_cons_zero, List.set_cons_succ]
  refine wp_convert _ _ _ rfl _ _ rfl hq5 ?_
  refine hK.out _ _ hS ?_
  clear hK K hq5
  simp only [List.getElem_toArray, List.getElem_cons_succ, List.getElem_cons_zero, Act.put, List.setIfInBounds_toArray, List.set_cons_zero, List.set_cons_succ]
  refine wpAnyK_take0 (i := 22) (v := (.bool true)) rfl (by kernel_rfl) (by kernel_rfl) (by kernel_rfl) (by kernel_rfl) (fun _ _ _ h => h) (Or.inl ⟨by rfl, fun _ => by go_simp⟩) hS ?_
  simp only [List.getElem_toArray, List.getElem_cons_succ, List.getElem_cons_zero, Act.put, List.setIfInBounds_toArray, List.set_cons_zero, List.set_cons_succ]
  refine wpAnyK_take0 (i := 23) (v := (.bool true)) rfl (by kernel_rfl) (by kernel_rfl) (by kernel_rfl) (by kernel_rfl) (fun _ _ _ h => h) (Or.inl ⟨by rfl, fun _ => by go_simp⟩) hS ?_
  simp only [List.getElem_toArray, List.getElem_cons_succ, List.getElem_cons_zero, Act.put, List.setIfInBounds_toArray, List.set_cons_zero, List.set_cons_succ]
  have h2 := h1.next hb2
  have hco := h2.bo.cell 0
  have hco' : w2.cell? ⟨gok, 0, none⟩ = some (.bool true) := hco
  have hfo := h2.bo.frozen 0
  refine wpAnyK_K (by kernel_rfl) rfl (by rfl) (fun K hK => ?_)
  simp only [List.getElem_toArray, List.getElem_cons_succ, List.getElem_cons_zero, Act.put, List.setIfInBounds_toArray, List.set_cons_zero, List.set_cons_succ]
  go_simp
  refine hK.out _ _ ?_
  clear hK K hco hco' hfo hS HSI HSo HSc HSw HSf HSk HSn HSb
  obtain ⟨W3, hW3⟩ : ∃ W, W = w2.setCell ⟨gok, 0, none⟩ (.bool true) := ⟨_, rfl⟩
  have hz := h1.below.size
  have h3 : GI w l0 l1 A0 c0 A1 c1 f mo wt gF gS gw gn gok m (w2.setCell ⟨gok, 0, none⟩ (.bool true)) :=
    ⟨h2.bk.set_other _ _ (by simp; omega), h2.bn.set_other _ _ (by simp; omega), h2.bf.set_other _ _ (by simp; omega), h2.bm.set_other _ _ (by simp; omega), h2.bw.set_other _ _ (by simp; omega), h2.bc.set_other _ _ (by simp; omega), h2.bo.set 0 (.bool true), h2.bF.set_other _ _ (by simp; omega), h2.bs.set_other _ _ (by simp; omega), h2.below.setCell (p := ⟨gok, 0, none⟩) (show w.heap.size ≤ gok by omega) _⟩
  rw [← hW3] at h3 ⊢
  clear hW3 h2 hb2 h1
  refine wpAny_done (by kernel_rfl) ?_ _
  have hc3 : W3.cell? ⟨gn, 0, none⟩ = some (.int .u64 (m : Int)) := h3.bc.cell 0
  have hf3 := h3.bc.frozen 0
  have h4 : GI w l0 l1 A0 c0 A1 c1 f mo wt gF gS gw gn gok (m + 1) (W3.setCell ⟨gn, 0, none⟩ (.int .u64 ((m : Int) + 1))) :=
    ⟨h3.bk.set_other _ _ (by simp; omega), h3.bn.set_other _ _ (by simp; omega), h3.bf.set_other _ _ (by simp; omega), h3.bm.set_other _ _ (by simp; omega), h3.bw.set_other _ _ (by simp; omega), h3.bc.set 0 (.int .u64 ((m : Int) + 1)), h3.bo.set_other _ _ (by simp; omega), h3.bF.set_other _ _ (by simp; omega), h3.bs.set_other _ _ (by simp; omega), h3.below.setCell (p := ⟨gn, 0, none⟩) (show w.heap.size ≤ gn by omega) _⟩
  have hcm : W3.cell? ⟨w.heap.size + 3, 0, none⟩ = some (.int .u8 (mo : Int)) := h3.bm.cell 0
  have hne : w.heap.size + 3 ≠ gn := by omega
  obtain ⟨q, hq⟩ : ∃ q, q = mo % 9 := ⟨_, rfl⟩
  have eq9 : (mo : Int) % 9 = (q : Int) := by omega
  have hq9 : q < 9 := by omega
  have HQ := Lib.hid hq
  have H4 := Lib.hid h4
  clear h3 h4 hq eN hmw
  go_wp2
  go_ret
  exact ⟨ret_bool (by rw [← HQ.out]; simp only [decide_eq_decide]; omega), H4.out⟩

/-- The law's own function, as a value. -/
def capG (w : World) (gw gn gok : Nat) : Value := .func (.func 14) #[] #[.pointer (some ⟨gok, 0, none⟩), .pointer (some ⟨gn, 0, none⟩), .pointer (some ⟨gw, 0, none⟩), .pointer (some ⟨w.heap.size + 2, 0, none⟩), .pointer (some ⟨w.heap.size, 0, none⟩), .pointer (some ⟨w.heap.size + 1, 0, none⟩), .pointer (some ⟨w.heap.size + 3, 0, none⟩)]

set_option maxRecDepth 100000 in
set_option maxHeartbeats 1000000 in
theorem gives2_any (w W : World) (l0 l1 : List UInt8) (A0 : Option Addr) (c0 : Nat) (A1 : Option Addr) (c1 f mo wt gF gS gw gn gok : Nat)
    (h : GI w l0 l1 A0 c0 A1 c1 f mo wt gF gS gw gn gok 0 W) (hT : TabC w) (hf : f < 4294967296) (hwt : wt = min (mo % 9 + 1) (4294967296 - f)) (hmo : mo < 256) (hfl : l0.length = 32 ∧ l1.length = 12)
    (y0 : Sl w w.heap.size A0 l0.length (cb l0)) (y1 : Sl w w.heap.size A1 l1.length (cb l1)) (k0 : l0.length ≤ c0) (k1 : l1.length ≤ c1) (z0 : A0 = none → c0 = 0) (z1 : A1 = none → c1 = 0)
    (o1 : w.heap.size + 3 < gF) (o2 : gF < gS) (o3 : gS < gw) (o4 : gw < gn) (o5 : gn < gok) :
    Calls Tryd.prog 24 #[capG w gw gn gok, .pointer (some ⟨gF, 0, none⟩), .pointer (some ⟨gS, 0, none⟩)] W fun e W' => e = .returned (.tuple #[]) ∧ GI w l0 l1 A0 c0 A1 c1 f mo wt gF gS gw gn gok wt W' := by
  obtain ⟨s, hs⟩ : ∃ s, s = stOf l0 l1 0 := ⟨_, rfl⟩
  have HSL : Hid (s.length = 16) := by unfold Hid; rw [hs, stOf_len]
  have HSW : Hid (Wds s) := by unfold Hid; rw [hs]; exact stOf_ok _ _ _ (by decide)
  have HS := Lib.hid hs
  have hcF : W.cell? ⟨gF, 0, none⟩ = some (.int .u32 (f : Int)) := h.bF.cell 0
  have HT := Lib.hid hT
  have HWT := Lib.hid hwt
  have hw9 : wt ≤ 9 := by omega
  have hw0 : 0 < wt := by omega
  have HF := Lib.hid hfl
  clear hs hT hwt hfl
  unfold capG
  go_enter Tryd.func24, Tryd.ntmps24
  go_wp2
  go_loopw [4] (fun v wr => ∃ k N : Nat, k < wt ∧ Hid (N = f + k) ∧ N < 4294967296 ∧ v = .int .u32 (N : Int) ∧ GI w l0 l1 A0 c0 A1 c1 f mo wt gF gS gw gn gok k wr) (fun v _ => 4294967296 - (intOf v).toNat)
  case atStart => exact ⟨0, f, hw0, (rfl : _ = _), hf, rfl, h⟩
  case round =>
    clear h hcF
    obtain ⟨k, N, hk, HN, hNl, rfl, h⟩ := hrel
    obtain ⟨B, hB⟩ : ∃ B, B = cblk l0 l1 N := ⟨_, rfl⟩
    have HB : Hid (B = blkS (s.set 12 N)) := by unfold Hid; rw [hB, HS.out, stb]
    have HBN := Lib.hid hB
    have bS : Bl wr gS (us s) 47 := by rw [HS.out]; exact h.bs
    clear hB
    go_wp2_with (refine wpList_load_mid rfl 47 _ rfl _ _ rfl (us s) _ bS.whole Tryd.underlying47 rfl (by rw [size_16, us_len, HSL.out]) ?_)
    refine (bo_any s N _ HSL.out HSW.out hNl (HT.out.next h.below) B HB.out).mono ?_
    rintro e w1 ⟨rfl, hb1⟩
    have h1 := h.next hb1
    clear bS h hb1
    obtain ⟨b, hb⟩ : ∃ b, b = decide (k + 1 ≤ mo % 9) := ⟨_, rfl⟩
    have hg := gives1_any w w1 l0 l1 A0 c0 A1 c1 f mo wt gF gS gw gn gok k N B h1 hk hw9 hmo HN.out hNl HBN.out HF.out y0 y1 k0 k1 z0 z1 o1 o2 o3 o4 o5
    rw [← hb] at hg
    have HG := Lib.hid hg
    have HBB := Lib.hid hb
    clear hg hb h1
    go_wp2_with fail
    refine HG.out.mono ?_
    rintro e w2 ⟨rfl, h2⟩
    clear HG
    cases b with
    | true =>
      have hgo : k + 1 ≤ mo % 9 := by have := HBB.out; simpa using this.symm
      by_cases hlast : N = 4294967295
      · have hq : ((N : Int) == 4294967295) = true := by simp; omega
        have HE : Hid (k + 1 = wt) := (by have := HN.out; have := HWT.out; omega : k + 1 = wt)
        rw [HE.out] at h2
        go_wp2
        refine bodyPost_ret (results_none rfl _ _ _) rfl ?_
        exact ⟨rfl, h2⟩
      · have hq : ((N : Int) == 4294967295) = false := by simp; omega
        have hw1 : IntKind.u32.wrap ((N : Int) + 1) = (N : Int) + 1 := by simp only [IntKind.wrap_u32]; omega
        go_wp2
        go_roundw
        case rel => exact ⟨k + 1, N + 1, by have := HN.out; have := HWT.out; omega, (by have := HN.out; omega : N + 1 = f + (k + 1)), by omega, by go_num, h2⟩
        case measure => simp [intOf]; omega
    | false =>
      have hgo : ¬ k + 1 ≤ mo % 9 := by have := HBB.out; simpa using this.symm
      have HE : Hid (k + 1 = wt) := (by have := HN.out; have := HWT.out; omega : k + 1 = wt)
      rw [HE.out] at h2
      go_wp2
      go_end0
      exact ⟨rfl, h2⟩

theorem gives0_any (v : Value) (w : World) : Calls Tryd.prog 23 #[v] w fun e w' => e = .returned (.tuple #[]) ∧ w = w' := by
  go_enter Tryd.func23, Tryd.ntmps23
  go_wp2
  go_end0
  exact ⟨rfl, rfl⟩

end Go.Proofs.YtnhpamfmbledmaaDoor
