/- awake of layer 3's laws. -/
import Derived.Test.YtnhpedgolgdoiaaDoorMacR
namespace Go.Proofs.YtnhpedgolgdoiaaDoor
open Go.RowKit
set_option linter.unusedVariables false
set_option linter.unusedSimpArgs false

set_option maxRecDepth 100000 in
set_option maxHeartbeats 800000 in
theorem awake3_any (w : World) (hT : Tabs w) : Calls Tryd.prog 9 #[] w fun e w' => e = .returned (.bool true) ∧ Below w.heap.size w w' := by
  have HT := Lib.hid hT
  clear hT
  have HSL := Lib.hid (hmac_len [107, 101, 121] [foxB].flatten)
  have HA := Lib.hid hmac_fox
  obtain ⟨S, hS⟩ : ∃ S, S = hmac [107, 101, 121] [foxB].flatten := ⟨_, rfl⟩
  have hS2 : hmac [107, 101, 121] foxB = S := by rw [hS]; simp
  rw [hS2] at HA
  rw [← hS] at HSL
  have HS := Lib.hid hS
  clear hS hS2
  obtain ⟨F, hF⟩ : ∃ F, F = foxB := ⟨_, rfl⟩
  have hFl : F.length = 43 := by rw [hF]; rfl
  have HF := Lib.hid hF
  rw [← hF] at HS
  clear hF
  go_enter Tryd.func9, Tryd.ntmps9
  go_wp2_with fail
  rw [Lib.run_convert_bytes_const w 22 5 #[.int .u8 107, .int .u8 101, .int .u8 121] 3 3 Tryd.underlying22 Tryd.underlying5]
  obtain ⟨W1, hW1⟩ : ∃ W, W = w.alloc (.cells #[.int .u8 107, .int .u8 101, .int .u8 121] 5 (3, 4)) := ⟨_, rfl⟩
  have b1 : W1.heap[w.heap.size]? = some (.cells (cb [107, 101, 121]).toArray 5 (3, 4)) := by rw [hW1]; exact heap_alloc_new w _
  have hb1 : Below w.heap.size w W1 := by rw [hW1]; exact (Below.refl _ w).alloc (Nat.le_refl _) _
  have hz1 : w.heap.size < W1.heap.size := by rw [hW1]; simp
  change Oper.upon _ _ _ _ _ (Result.andThen (Result.ok _ (w.alloc (.cells #[.int .u8 107, .int .u8 101, .int .u8 121] 5 (3, 4)))) _)
  rw [← hW1]
  clear hW1
  go_wp2_with fail
  rw [Lib.run_convert_bytes_const W1 22 5 _ 43 43 Tryd.underlying22 Tryd.underlying5]
  obtain ⟨W2, hW2⟩ : ∃ W, W = W1.alloc (.cells (cb foxB).toArray 5 (43, 44)) := ⟨_, rfl⟩
  have b2 : W2.heap[W1.heap.size]? = some (.cells (cb foxB).toArray 5 (43, 44)) := by rw [hW2]; exact heap_alloc_new W1 _
  have hb2 : Below W1.heap.size W1 W2 := by rw [hW2]; exact (Below.refl _ W1).alloc (Nat.le_refl _) _
  have hz2 : W1.heap.size < W2.heap.size := by rw [hW2]; simp
  change Oper.upon _ _ _ _ _ (Result.andThen (Result.ok _ (W1.alloc (.cells (cb foxB).toArray 5 (43, 44)))) _)
  rw [← hW2]
  clear hW2
  rw [← HF.out] at b2
  have hbw2 := next hb1 hb2
  have s1 : Sl W2 W2.heap.size (some ⟨w.heap.size, 0, none⟩) 3 (cb [107, 101, 121]) := (sl_marked b1 rfl hz1).nx hb2
  have s2 : Sl W2 W2.heap.size (some ⟨W1.heap.size, 0, none⟩) F.length (cb F) := sl_marked b2 (cb_len F) hz2
  clear b1 b2 hb1 hb2
  go_wp2_with fail
  have hp0 := list_one 22 (c := 43) s2 (by omega) (by intro h; cases h)
  rw [hFl] at hp0
  obtain ⟨hp, hbp⟩ := hp0
  have hbw3 := next hbw2 hbp
  have s3 := s1.nx hbp
  clear s1 s2 hbp hbw2
  refine (tag_any [107, 101, 121] [F] _ _ _ _ _ _ 3 _ _ s3 (by omega) (by intro h; cases h) (Nat.le_refl _) (by omega) hp (Nat.le_refl _) (by omega) (HT.out.next hbw3) (by simp; omega)).mono ?_
  rintro e w1 ⟨rfl, hb4⟩
  rw [← HS.out]
  have hb2 := next hbw3 hb4
  clear hp hb4 hbw3 s3 hz1 hz2
  have hn := (Bl.new w1 (zeros .u8 32) 28)
  obtain ⟨W3, hW3⟩ : ∃ W, W = (w1.alloc (.cells (zeros .u8 32).toArray 28)).setCells w1.heap.size 0 (cb S) := ⟨_, rfl⟩
  have b2 : Bl W3 w1.heap.size (cb S) 28 := by rw [hW3]; exact hn.over (by rw [cb_len, HSL.out, zeros_len])
  have hb3 : Below w.heap.size w W3 := by rw [hW3]; exact below_setCells (hb2.alloc hb2.size _) hb2.size _ _
  have c0 : W3.cell? ⟨w1.heap.size, 0, none⟩ = some (.int .u8 247) := by rw [b2.cell]; simp only [cb, List.getElem?_map, HA.out.1]; rfl
  have c1 : W3.cell? ⟨w1.heap.size, 1, none⟩ = some (.int .u8 188) := by rw [b2.cell]; simp only [cb, List.getElem?_map, HA.out.2.1]; rfl
  have c31 : W3.cell? ⟨w1.heap.size, 31, none⟩ = some (.int .u8 216) := by rw [b2.cell]; simp only [cb, List.getElem?_map, HA.out.2.2]; rfl
  have HW3 := Lib.hid hW3
  clear hW3 hn b2 hb2
  go_wp2_with (first
    | (refine wpList_alloc_zero rfl 28 rfl (zeros .u8 32) zero_sum ?_)
    | (refine wpList_store_mid rfl 28 _ _ rfl _ _ (cb S).toArray rfl rfl (Bl.there_ (Bl.new _ (zeros .u8 32) 28) (by simp [zeros, cb_len, HSL.out])) (by rw [size_sum, List.size_toArray, cb_len, HSL.out]) (all_oneCell_toArray (cb_one _)) ?_; change wpList _ _ _ _ _ (World.setCells (w1.alloc (.cells (zeros .u8 32).toArray 28)) w1.heap.size 0 (cb S)); rw [← HW3.out]))
  go_ret
  exact ⟨rfl, hb3⟩

end Go.Proofs.YtnhpedgolgdoiaaDoor

