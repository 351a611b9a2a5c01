/- awake of layer 4's laws. -/
import Derived.Test.YtfmbilnbbpbpeaaDoorStrR
namespace Go.Proofs.YtfmbilnbbpbpeaaDoor
open Go.RowKit
set_option linter.unusedVariables false
set_option linter.unusedSimpArgs false

theorem NewSl.at_ {w w' : World} {n : Nat} {l : List UInt8} {A : Option Addr} {c : Nat} (h : NewSl w n l A c w') (h0 : 0 < n) : ∃ ad, A = some ad ∧ ∀ j b, l[j]? = some b → w'.cell? (ad.add j) = some (.int .u8 (b.toNat : Int)) := by
  obtain ⟨ad, e, _, hc⟩ := h.sl.2 h0
  exact ⟨ad, e, fun j b hb => hc j _ (by simp [cb, hb, bc])⟩

set_option maxRecDepth 100000 in
set_option maxHeartbeats 800000 in
theorem awake4_any (w : World) (hT : Tabs w) : Calls Tryd.prog 7 #[] w fun e w' => e = .returned (.bool true) ∧ Below w.heap.size w w' := by
  have HT := Lib.hid hT
  clear hT
  have HA := Lib.hid pbk_example
  obtain ⟨S, hS⟩ : ∃ S, S = pbk passB saltB 1 20 := ⟨_, rfl⟩
  have HSL : Hid (S.length = 20) := by unfold Hid; rw [hS, pbk_len]
  rw [← hS] at HA
  have HS := Lib.hid hS
  clear hS
  go_enter Tryd.func7, Tryd.ntmps7
  go_wp2_with fail
  rw [Lib.run_convert_bytes_const w 22 5 _ 8 8 Tryd.underlying22 Tryd.underlying5]
  obtain ⟨W1, hW1⟩ : ∃ W, W = w.alloc (.cells (cb passB).toArray 5 (8, 9)) := ⟨_, rfl⟩
  have b1 : W1.heap[w.heap.size]? = some (.cells (cb passB).toArray 5 (8, 9)) := by rw [hW1]; exact heap_alloc_new w _
  have hb1 : Below w.heap.size w W1 := by rw [hW1]; exact (Below.refl _ w).alloc (Nat.le_refl _) _
  have hz1 : w.heap.size < W1.heap.size := by rw [hW1]; simp
  change Oper.upon _ _ _ _ _ (Result.andThen (Result.ok _ (w.alloc (.cells (cb passB).toArray 5 (8, 9)))) _)
  rw [← hW1]
  clear hW1
  go_wp2_with fail
  rw [Lib.run_convert_bytes_const W1 22 5 _ 4 4 Tryd.underlying22 Tryd.underlying5]
  obtain ⟨W2, hW2⟩ : ∃ W, W = W1.alloc (.cells (cb saltB).toArray 5 (4, 5)) := ⟨_, rfl⟩
  have b2 : W2.heap[W1.heap.size]? = some (.cells (cb saltB).toArray 5 (4, 5)) := by rw [hW2]; exact heap_alloc_new W1 _
  have hb2 : Below W1.heap.size W1 W2 := by rw [hW2]; exact (Below.refl _ W1).alloc (Nat.le_refl _) _
  have hz2 : W1.heap.size < W2.heap.size := by rw [hW2]; simp
  change Oper.upon _ _ _ _ _ (Result.andThen (Result.ok _ (W1.alloc (.cells (cb saltB).toArray 5 (4, 5)))) _)
  rw [← hW2]
  clear hW2
  have hbw2 := next hb1 hb2
  have s1 : Sl W2 W2.heap.size (some ⟨w.heap.size, 0, none⟩) 8 (cb passB) := (sl_marked b1 rfl hz1).nx hb2
  have s2 : Sl W2 W2.heap.size (some ⟨W1.heap.size, 0, none⟩) 4 (cb saltB) := sl_marked b2 rfl hz2
  clear b1 b2 hb1 hb2
  obtain ⟨P, hP⟩ : ∃ P, P = passB := ⟨_, rfl⟩
  obtain ⟨Q, hQ⟩ : ∃ Q, Q = saltB := ⟨_, rfl⟩
  rw [← hP] at s1 HS
  rw [← hQ] at s2 HS
  clear hP hQ
  go_wp2_with fail
  refine (key_ok P Q 1 20 _ _ _ _ 8 8 4 4 s1 (by omega) (by intro h; cases h) (by omega) s2 (by omega) (by intro h; cases h) (by omega) (Nat.le_refl _) (HT.out.next hbw2) (by omega) (by omega) (by omega)).mono ?_
  rintro e w3 ⟨A3, n3, c3, rfl, h3⟩
  rw [← HS.out] at h3
  obtain rfl : n3 = 20 := by rw [h3.len, HSL.out]
  obtain ⟨ad, rfl, hcell⟩ := h3.at_ (by omega)
  have c0 := hcell 0 _ HA.out.1
  have c1 : w3.cell? ⟨ad.block, ad.off + 1, none⟩ = _ := hcell 1 _ HA.out.2.1
  have c19 : w3.cell? ⟨ad.block, ad.off + 19, none⟩ = _ := hcell 19 _ HA.out.2.2
  simp only [UInt8.reduceToNat, Int.cast_ofNat_Int] at c0 c1 c19
  rw [add_none] at c0
  have hb3 := next hbw2 h3.below
  clear h3 hcell s1 s2 hbw2
  go_wp2
  go_ret
  exact ⟨rfl, hb3⟩

end Go.Proofs.YtfmbilnbbpbpeaaDoor

