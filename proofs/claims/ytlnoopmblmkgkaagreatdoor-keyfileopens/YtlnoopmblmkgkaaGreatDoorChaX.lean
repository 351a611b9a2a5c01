/- How an argument that is a Stretch is opened: its bytes read as lists, and take no more than a machine has. -/
import Derived.Test.YtlnoopmblmkgkaaGreatDoorLK
import Derived.Test.YtlnoopmblmkgkaaGreatDoorLA
import Derived.Lib.SmallJoins
import Derived.SizedLaws
namespace Go.Proofs.YtlnoopmblmkgkaaGreatDoor
set_option maxRecDepth 100000
open Go.ChangeShapes Go.WideShapes Go.ChangeAt Go.RowKit
set_option linter.unusedVariables false
set_option linter.unusedSimpArgs false

theorem open_sl_sized {H : Type} {enc : TypeId × Value → H} {P : Program} {W : World} {t e : TypeId} {fuel : Nat} {v : Value} {y : DataW H × List MemPlace}
    (ht : P.underlying t = some (.slice e)) (he : P.underlying e = some (.int .u8)) (hc : P.cellsOf e = 1) (hb : P.bytesOf e = 1)
    (hf : DataW.trod enc P W 0 (fun _ => true) true fuel t [v] = some y) (lt0 : ∀ x ∈ y.2, x.block < W.heap.size) (hw : ∀ m ∈ y.1.weights P t, m ≤ reachBytes) :
    ∃ (A : Option Addr) (len cap : Nat) (l : List UInt8), v = .slice A len cap ∧ InBytes W A len cap l := by
  rcases open_ints ht he hc hf with ⟨hcs, hx⟩ | ⟨a, len, c, zs, hcs, _, hl, hm, hz, hx, hcell, hwz⟩
  · simp only [List.cons.injEq, and_true] at hcs
    exact ⟨none, 0, 0, [], hcs, Sl.nil_, rfl, Nat.le_refl _, fun _ => rfl, by omega⟩
  · simp only [List.cons.injEq, and_true] at hcs
    subst hx
    simp only [if_true] at hz
    have hr := hw _ (by simp only [DataW.weights, ht]; exact List.mem_cons_self ..)
    rw [hb] at hr
    simp only [lits, List.length_map, List.length_take, List.length_drop, reachBytes] at hr
    obtain ⟨l, hl'⟩ := cells_of_ints (zs.take len) (fun n hn => hwz n (List.mem_of_mem_take hn))
    have hlen : len = l.length := by
      have := congrArg List.length hl'
      rw [cb_len, List.length_map, List.length_take] at this
      omega
    refine ⟨some a, len, c, l, hcs, ⟨by rw [cb_len]; exact hlen.symm, fun hn => ⟨_, rfl, ?_, ?_⟩⟩, hlen, hl, (fun h => by cases h), by omega⟩
    · exact lt0 (.cell a.block a.off) (MemPlace.mem_row.2 ⟨0, by omega, by simp⟩)
    · intro i u hu
      rw [← hl'] at hu
      have hi : i < len := by
        rcases Nat.lt_or_ge i len with h | h
        · exact h
        · rw [List.getElem?_eq_none (by simp; omega)] at hu; cases hu
      have := hcell i (by omega)
      rw [this]
      rw [List.getElem?_map, List.getElem?_take_of_lt hi] at hu
      simp only [Option.map_eq_some_iff] at hu
      obtain ⟨z, hz', rfl⟩ := hu
      rw [List.getD_eq_getElem?_getD, hz']
      rfl

end Go.Proofs.YtlnoopmblmkgkaaGreatDoor
