/- own, is, awake, Join and few of layer 2's laws. -/
import Derived.Test.YtnhpedgolgdoiaaDoorDigG
import Derived.Test.YtnhpedgolgdoiaaDoorDigU
import Derived.Test.YtnhpedgolgdoiaaDoorWordC
import Derived.Deep.RegionWith
import Derived.Lib.SlBytesConst
namespace Go.Proofs.YtnhpedgolgdoiaaDoor
open Go.RowKit
set_option linter.unusedVariables false

theorem is_any (s l : List UInt8) (w : World) (B : Nat) (A : Option Addr) (n c : Nat) (hs : s.length = 32) (h : Sl w B A n (cb l)) (hB : B ≤ w.heap.size) :
    Calls Tryd.prog 13 #[.agg (cb s).toArray, .slice A n c] w fun e w' => e = .returned (.bool (sameB s l)) ∧ Below w.heap.size w w' := by
  have hn := Bl.new w (cb s) 28
  have y0 : Sl (w.alloc (.cells (cb s).toArray 28)) (w.heap.size + 1) (some ⟨w.heap.size, 0, none⟩) 32 (cb s) := hn.sl (o := 0) (n := 32) (by rw [List.drop_zero, List.take_of_length_le (by rw [cb_len, hs]; omega)]) (by rw [cb_len, hs]; omega)
  have y1 := h.alloc hB (.cells (cb s).toArray 28)
  have q0 : ∀ w', w'.heap = (w.alloc (.cells (cb s).toArray 28)).heap → (convert 22 9 (.slice (some ⟨w.heap.size, 0, none⟩) 32 32)).run Tryd.prog w' = .ok (.string ⟨s.toArray⟩) w' := fun w' e => u8_str (y0.map_ fun p _ => World.cell?_of_block (by rw [e])) 32
  have q1 : ∀ w', w'.heap = (w.alloc (.cells (cb s).toArray 28)).heap → (convert 22 9 (.slice A n c)).run Tryd.prog w' = .ok (.string ⟨l.toArray⟩) w' := fun w' e => u8_str (y1.map_ fun p _ => World.cell?_of_block (by rw [e])) c
  have HQ0 := Lib.hid q0
  have HQ1 := Lib.hid q1
  have hss := str_same s l
  clear q0 q1 y0 y1 hn h
  go_enter Tryd.func13, Tryd.ntmps13
  go_wp2
  go_region_held3 (fun w' => (convert 22 9 (.slice (some ⟨w.heap.size, 0, none⟩) 32 32)).run Tryd.prog w' = .ok (.string ⟨s.toArray⟩) w' ∧ (convert 22 9 (.slice A n c)).run Tryd.prog w' = .ok (.string ⟨l.toArray⟩) w')
    (first | exact ⟨HQ0.out _ rfl, HQ1.out _ rfl⟩) (first | fail)
  go_wp2
  go_ret
  exact ⟨rfl, ((Below.refl _ w).alloc (Nat.le_refl _) _).drew⟩

/-- A list of one part that lies in new memory. -/
theorem parts_one {w : World} {B g : Nat} {t : TypeId} {A : Option Addr} {c : Nat} {l : List UInt8} (hb : Bl w g [.slice A l.length c] t) (hg : g < B) (hs : Sl w B A l.length (cb l)) (hc : l.length ≤ c) (hz : A = none → c = 0) : Parts w B (some ⟨g, 0, none⟩) 1 [l] := by
  refine ⟨[.slice A l.length c], ⟨rfl, fun _ => ⟨_, rfl, hg, fun j u hu => ?_⟩⟩, rfl, fun j hj => ?_⟩
  · rw [Addr.add_mid, Nat.zero_add, hb.cell]; exact hu
  · simp only [List.length_singleton] at hj
    obtain rfl : j = 0 := by omega
    exact ⟨_, rfl, A, c, rfl, hs, hc, hz⟩
theorem parts_two {w : World} {B g : Nat} {t : TypeId} {A A' : Option Addr} {c c' : Nat} {l l' : List UInt8} (hb : Bl w g [.slice A l.length c, .slice A' l'.length c'] t) (hg : g < B) (hs : Sl w B A l.length (cb l)) (hc : l.length ≤ c) (hz : A = none → c = 0)
    (hs' : Sl w B A' l'.length (cb l')) (hc' : l'.length ≤ c') (hz' : A' = none → c' = 0) : Parts w B (some ⟨g, 0, none⟩) 2 [l, l'] := by
  refine ⟨[.slice A l.length c, .slice A' l'.length c'], ⟨rfl, fun _ => ⟨_, rfl, hg, fun j u hu => ?_⟩⟩, rfl, fun j hj => ?_⟩
  · rw [Addr.add_mid, Nat.zero_add, hb.cell]; exact hu
  · have : j = 0 ∨ j = 1 := by simp at hj; omega
    rcases this with rfl | rfl
    · exact ⟨_, rfl, A, c, rfl, hs, hc, hz⟩
    · exact ⟨_, rfl, A', c', rfl, hs', hc', hz'⟩

/-- A block that bears a mark reads as its cells. -/
theorem sl_marked {W : World} {g n B : Nat} {C : List Value} {t : TypeId} {fr : Nat × Nat} (h : W.heap[g]? = some (.cells C.toArray t fr)) (hn : C.length = n) (hB : g < B) : Sl W B (some ⟨g, 0, none⟩) n C :=
  ⟨hn, fun _ => ⟨_, rfl, hB, fun j u hu => by rw [Addr.add_mid, Nat.zero_add, cell_of_row W g j _ t fr h]; simpa using hu⟩⟩

end Go.Proofs.YtnhpedgolgdoiaaDoor

