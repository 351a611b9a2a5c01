/- own, is, awake, Join and few of layer 2's laws. -/
import Derived.Test.YtnaanngbnnbpdaaDoorDigG
import Derived.Test.YtnaanngbnnbpdaaDoorDigU
import Derived.Test.YtnaanngbnnbpdaaDoorWordC
import Derived.Deep.RegionWith
import Derived.Lib.SlBytesConst
namespace Go.Proofs.YtnaanngbnnbpdaaDoor
open Go.RowKit
set_option linter.unusedVariables false

theorem is_any (s l : List UInt8) (w : World) (B : Nat) (A : Option Addr) (n c : Nat) (hs : s.length = 32) (h : Sl w B A n (cb l)) (hB : B ≤ w.heap.size) :
    Calls Tryd.prog 11 #[.agg (cb s).toArray, .slice A n c] w fun e w' => e = .returned (.bool (sameB s l)) ∧ Below w.heap.size w w' := by
  have hn := Bl.new w (cb s) 27
  have y0 : Sl (w.alloc (.cells (cb s).toArray 27)) (w.heap.size + 1) (some ⟨w.heap.size, 0, none⟩) 32 (cb s) := hn.sl (o := 0) (n := 32) (by rw [List.drop_zero, List.take_of_length_le (by rw [cb_len, hs]; omega)]) (by rw [cb_len, hs]; omega)
  have y1 := h.alloc hB (.cells (cb s).toArray 27)
  have q0 : ∀ w', w'.heap = (w.alloc (.cells (cb s).toArray 27)).heap → (convert 22 9 (.slice (some ⟨w.heap.size, 0, none⟩) 32 32)).run Tryd.prog w' = .ok (.string ⟨s.toArray⟩) w' := fun w' e => u8_str (y0.map_ fun p _ => World.cell?_of_block (by rw [e])) 32
  have q1 : ∀ w', w'.heap = (w.alloc (.cells (cb s).toArray 27)).heap → (convert 22 9 (.slice A n c)).run Tryd.prog w' = .ok (.string ⟨l.toArray⟩) w' := fun w' e => u8_str (y1.map_ fun p _ => World.cell?_of_block (by rw [e])) c
  have HQ0 := Lib.hid q0
  have HQ1 := Lib.hid q1
  have hss := str_same s l
  clear q0 q1 y0 y1 hn h
  go_enter Tryd.func11, Tryd.ntmps11
  go_wp2
  go_region_held3 (fun w' => (convert 22 9 (.slice (some ⟨w.heap.size, 0, none⟩) 32 32)).run Tryd.prog w' = .ok (.string ⟨s.toArray⟩) w' ∧ (convert 22 9 (.slice A n c)).run Tryd.prog w' = .ok (.string ⟨l.toArray⟩) w')
    (first | exact ⟨HQ0.out _ rfl, HQ1.out _ rfl⟩) (first | fail)
  go_wp2
  go_ret
  exact ⟨rfl, ((Below.refl _ w).alloc (Nat.le_refl _) _).drew⟩

/-- A list of one part that lies in new memory. -/
theorem parts_one {w : World} {B g : Nat} {t : TypeId} {A : Option Addr} {c : Nat} {l : List UInt8} (hb : Bl w g [.slice A l.length c] t) (hg : g < B) (hs : Sl w B A l.length (cb l)) (hc : l.length ≤ c) (hz : A = none → c = 0) : Parts w B (some ⟨g, 0, none⟩) 1 [l] := by
  refine ⟨[.slice A l.length c], ⟨rfl, fun _ => ⟨_, rfl, hg, fun j u hu => ?_⟩⟩, rfl, fun j hj => ?_⟩
  · rw [Addr.add_mid, Nat.zero_add, hb.cell]; exact hu
  · simp only [List.length_singleton] at hj
    obtain rfl : j = 0 := by omega
    exact ⟨_, rfl, A, c, rfl, hs, hc, hz⟩
theorem parts_two {w : World} {B g : Nat} {t : TypeId} {A A' : Option Addr} {c c' : Nat} {l l' : List UInt8} (hb : Bl w g [.slice A l.length c, .slice A' l'.length c'] t) (hg : g < B) (hs : Sl w B A l.length (cb l)) (hc : l.length ≤ c) (hz : A = none → c = 0)
    (hs' : Sl w B A' l'.length (cb l')) (hc' : l'.length ≤ c') (hz' : A' = none → c' = 0) : Parts w B (some ⟨g, 0, none⟩) 2 [l, l'] := by
  refine ⟨[.slice A l.length c, .slice A' l'.length c'], ⟨rfl, fun _ => ⟨_, rfl, hg, fun j u hu => ?_⟩⟩, rfl, fun j hj => ?_⟩
  · rw [Addr.add_mid, Nat.zero_add, hb.cell]; exact hu
  · have : j = 0 ∨ j = 1 := by simp at hj; omega
    rcases this with rfl | rfl
    · exact ⟨_, rfl, A, c, rfl, hs, hc, hz⟩
    · exact ⟨_, rfl, A', c', rfl, hs', hc', hz'⟩

/-- A block that bears a mark reads as its cells. -/
theorem sl_marked {W : World} {g n B : Nat} {C : List Value} {t : TypeId} {fr : Nat × Nat} (h : W.heap[g]? = some (.cells C.toArray t fr)) (hn : C.length = n) (hB : g < B) : Sl W B (some ⟨g, 0, none⟩) n C :=
  ⟨hn, fun _ => ⟨_, rfl, hB, fun j u hu => by rw [Addr.add_mid, Nat.zero_add, cell_of_row W g j _ t fr h]; simpa using hu⟩⟩

set_option maxHeartbeats 400000 in
theorem awake2_any (w : World) (hT : Tabs w) : Calls Tryd.prog 9 #[] w fun e w' => e = .returned (.bool true) ∧ Below w.heap.size w w' := by
  have HT := Lib.hid hT
  clear hT
  have HSL := Lib.hid (sha_len [[97, 98, 99]].flatten)
  have HA := Lib.hid sha_abc
  obtain ⟨S, hS⟩ : ∃ S, S = sha [[97, 98, 99]].flatten := ⟨_, rfl⟩
  have hS2 : sha [97, 98, 99] = S := by rw [hS]; rfl
  rw [hS2] at HA
  rw [← hS] at HSL
  have HS := Lib.hid hS
  clear hS hS2
  go_enter Tryd.func9, Tryd.ntmps9
  go_wp2_with fail
  rw [Lib.run_convert_bytes_const w 22 5 #[.int .u8 97, .int .u8 98, .int .u8 99] 3 3 Tryd.underlying22 Tryd.underlying5]
  go_wp2_with fail
  obtain ⟨W, hW⟩ : ∃ W, W = (w.alloc (.cells #[.int .u8 97, .int .u8 98, .int .u8 99] 5 (3, 4))).alloc (.cells #[.slice (some ⟨w.heap.size, 0, none⟩) 3 3] 22) := ⟨_, rfl⟩
  have b0 : Bl W (w.heap.size + 1) [.slice (some ⟨w.heap.size, 0, none⟩) 3 3] 22 := by
    rw [hW, ← alloc_size w (.cells #[.int .u8 97, .int .u8 98, .int .u8 99] 5 (3, 4))]; exact Bl.newA _ _ _
  have b1 : W.heap[w.heap.size]? = some (.cells (cb [97, 98, 99]).toArray 5 (3, 4)) := by
    rw [hW, Below.heap_alloc _ _ _ (by simp)]; exact heap_alloc_new w _
  have hsl : Sl W (w.heap.size + 2) (some ⟨w.heap.size, 0, none⟩) 3 (cb [97, 98, 99]) := sl_marked b1 rfl (by omega)
  have hbw : Below w.heap.size w W := by rw [hW]; exact ((Below.refl _ w).alloc (Nat.le_refl _) _).alloc (by simp) _
  have hsz : W.heap.size = w.heap.size + 2 := by rw [hW]; simp
  have hp := parts_one (l := [97, 98, 99]) b0 (show w.heap.size + 1 < w.heap.size + 2 by omega) hsl (by decide) (by intro h; cases h)
  rw [← hW]
  have HSZ := Lib.hid hsz
  clear hW b0 b1 hsl hsz
  refine (of_any [[97, 98, 99]] _ _ _ _ _ hp (by rw [HSZ.out]; omega) (by omega) (HT.out.next hbw) (by decide)).mono ?_
  rintro e w1 ⟨rfl, hb1⟩
  rw [← HS.out]
  have hb2 := next hbw hb1
  clear hp hb1 hbw
  have hn := (Bl.new w1 (zeros .u8 32) 27)
  obtain ⟨W2, hW2⟩ : ∃ W, W = (w1.alloc (.cells (zeros .u8 32).toArray 27)).setCells w1.heap.size 0 (cb S) := ⟨_, rfl⟩
  have b2 : Bl W2 w1.heap.size (cb S) 27 := by rw [hW2]; exact hn.over (by rw [cb_len, HSL.out, zeros_len])
  have hb3 : Below w.heap.size w W2 := by rw [hW2]; exact below_setCells (hb2.alloc hb2.size _) hb2.size _ _
  have c0 : W2.cell? ⟨w1.heap.size, 0, none⟩ = some (.int .u8 186) := by rw [b2.cell]; simp only [cb, List.getElem?_map, HA.out.1]; rfl
  have c1 : W2.cell? ⟨w1.heap.size, 1, none⟩ = some (.int .u8 120) := by rw [b2.cell]; simp only [cb, List.getElem?_map, HA.out.2.1]; rfl
  have c31 : W2.cell? ⟨w1.heap.size, 31, none⟩ = some (.int .u8 173) := by rw [b2.cell]; simp only [cb, List.getElem?_map, HA.out.2.2]; rfl
  have HW2 := Lib.hid hW2
  clear hW2 hn b2 hb2
  go_wp2_with (first
    | (refine wpList_alloc_zero rfl 27 rfl (zeros .u8 32) zero_sum ?_)
    | (refine wpList_store_mid rfl 27 _ _ rfl _ _ (cb S).toArray rfl rfl (Bl.there_ (Bl.new _ (zeros .u8 32) 27) (by simp [zeros, cb_len, HSL.out])) (by rw [size_sum, List.size_toArray, cb_len, HSL.out]) (all_oneCell_toArray (cb_one _)) ?_; change wpList _ _ _ _ _ (World.setCells (w1.alloc (.cells (zeros .u8 32).toArray 27)) w1.heap.size 0 (cb S)); rw [← HW2.out]))
  go_ret
  exact ⟨rfl, hb3⟩

end Go.Proofs.YtnaanngbnnbpdaaDoor

