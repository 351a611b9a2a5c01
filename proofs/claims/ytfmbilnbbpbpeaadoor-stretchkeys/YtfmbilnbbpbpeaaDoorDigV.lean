/- own, is, awake, Join and few of layer 2's laws. -/
import Derived.Test.YtfmbilnbbpbpeaaDoorDigG
import Derived.Test.YtfmbilnbbpbpeaaDoorDigU
import Derived.Test.YtfmbilnbbpbpeaaDoorWordC
import Derived.Deep.RegionWith
import Derived.Lib.SlBytesConst
namespace Go.Proofs.YtfmbilnbbpbpeaaDoor
open Go.RowKit
set_option linter.unusedVariables false

/-- A list of one part that lies in new memory. -/
theorem parts_one {w : World} {B g : Nat} {t : TypeId} {A : Option Addr} {c : Nat} {l : List UInt8} (hb : Bl w g [.slice A l.length c] t) (hg : g < B) (hs : Sl w B A l.length (cb l)) (hc : l.length ≤ c) (hz : A = none → c = 0) : Parts w B (some ⟨g, 0, none⟩) 1 [l] := by
  refine ⟨[.slice A l.length c], ⟨rfl, fun _ => ⟨_, rfl, hg, fun j u hu => ?_⟩⟩, rfl, fun j hj => ?_⟩
  · rw [Addr.add_mid, Nat.zero_add, hb.cell]; exact hu
  · simp only [List.length_singleton] at hj
    obtain rfl : j = 0 := by omega
    exact ⟨_, rfl, A, c, rfl, hs, hc, hz⟩
theorem parts_two {w : World} {B g : Nat} {t : TypeId} {A A' : Option Addr} {c c' : Nat} {l l' : List UInt8} (hb : Bl w g [.slice A l.length c, .slice A' l'.length c'] t) (hg : g < B) (hs : Sl w B A l.length (cb l)) (hc : l.length ≤ c) (hz : A = none → c = 0)
    (hs' : Sl w B A' l'.length (cb l')) (hc' : l'.length ≤ c') (hz' : A' = none → c' = 0) : Parts w B (some ⟨g, 0, none⟩) 2 [l, l'] := by
  refine ⟨[.slice A l.length c, .slice A' l'.length c'], ⟨rfl, fun _ => ⟨_, rfl, hg, fun j u hu => ?_⟩⟩, rfl, fun j hj => ?_⟩
  · rw [Addr.add_mid, Nat.zero_add, hb.cell]; exact hu
  · have : j = 0 ∨ j = 1 := by simp at hj; omega
    rcases this with rfl | rfl
    · exact ⟨_, rfl, A, c, rfl, hs, hc, hz⟩
    · exact ⟨_, rfl, A', c', rfl, hs', hc', hz'⟩

/-- A block that bears a mark reads as its cells. -/
theorem sl_marked {W : World} {g n B : Nat} {C : List Value} {t : TypeId} {fr : Nat × Nat} (h : W.heap[g]? = some (.cells C.toArray t fr)) (hn : C.length = n) (hB : g < B) : Sl W B (some ⟨g, 0, none⟩) n C :=
  ⟨hn, fun _ => ⟨_, rfl, hB, fun j u hu => by rw [Addr.add_mid, Nat.zero_add, cell_of_row W g j _ t fr h]; simpa using hu⟩⟩

end Go.Proofs.YtfmbilnbbpbpeaaDoor

