/- A list of structs that came in, with sizes: each element's cells, each field's own reading, and that it takes no more than a machine has. No function of the program is named here. -/
import Derived.Test.YtlnoopmblmkgkaaGreatDoorLstG
import Derived.Test.YtlnoopmblmkgkaaGreatDoorLA
import Derived.Lib.SmallJoins
import Derived.SizedLaws
namespace Go.Proofs.YtlnoopmblmkgkaaGreatDoor
set_option maxRecDepth 100000
open Go.ChangeShapes Go.WideShapes Go.ChangeAt Go.RowKit
set_option linter.unusedVariables false
set_option linter.unusedSimpArgs false

theorem weights_all {H : Type} {P : Program} {e : TypeId} : ∀ {ds : List (DataW H)} {d : DataW H}, d ∈ ds → ∀ m ∈ d.weights P e, m ∈ DataW.weightsAll P e ds
  | x :: r, d, h, m, hm => by
    simp only [DataW.weightsAll, List.mem_append]
    rcases List.mem_cons.1 h with rfl | h
    · exact .inl hm
    · exact .inr (weights_all h m hm)

theorem open_elems_sized {H : Type} {enc : TypeId × Value → H} {P : Program} {W : World} {t e : TypeId} {fs : Array Field} {A : Option Addr} {len cap : Nat} {d : DataW H} {p : List MemPlace}
    (ht : P.underlying t = some (.slice e)) (he : P.underlying e = some (.struct fs)) (h0 : DataW.Trod enc P W 0 (fun _ => true) true t (.slice A len cap) d p) (lt0 : ∀ x ∈ p, x.block < W.heap.size) (hw : ∀ m ∈ d.weights P t, m ≤ reachBytes) :
    (A = none ∧ len = 0 ∧ cap = 0) ∨ ∃ ad, A = some ad ∧ len ≤ cap ∧ cap ≤ maxLen ∧ ∀ i, i < len → ∃ (cs : List Value) (n : Nat), cs.length = P.cellsOf e ∧ (∀ j v, cs[j]? = some v → W.cell? ((ad.add (i * P.cellsOf e)).add j) = some v) ∧
      ∀ (j : Nat) (f : Field), fs[j]? = some f → ∃ y, DataW.trod enc P W 0 (fun _ => true) true n f.type ((cs.drop f.offset).take (P.cellsOf f.type)) = some y ∧ (∀ x ∈ y.2, x.block < W.heap.size) ∧ ∀ m ∈ y.1.weights P f.type, m ≤ reachBytes := by
  obtain ⟨fuel, hf⟩ := h0
  rcases Deep.open_slice ht hf with ⟨hcs, _⟩ | ⟨a, l, c, m, n, D, Pl, hcs, _, hl, hm, hmm, hx, hrow⟩
  · simp [Value.cells] at hcs
    exact .inl hcs
  · simp [Value.cells] at hcs
    obtain ⟨rfl, rfl, rfl⟩ := hcs
    simp only [if_true] at hmm
    subst hmm
    simp only [Prod.mk.injEq] at hx
    obtain ⟨rfl, rfl⟩ := hx
    simp only [DataW.weights, ht] at hw
    refine .inr ⟨a, rfl, hl, hm, fun i hi => ?_⟩
    obtain ⟨cs, h1, h2⟩ := hrow i (by omega)
    obtain ⟨_, hlen, hcell⟩ := World.cells?_some h1
    obtain ⟨xs, k, _, hxy, _, hxl, hfld⟩ := DataW.trod_struct he h2
    simp only [Prod.mk.injEq] at hxy
    refine ⟨cs, k, hlen, fun j v hv => ?_, fun j f hj => ?_⟩
    · have hj : j < cs.length := (List.getElem?_eq_some_iff.1 hv).1
      rw [hcell j (by omega)]
      exact hv
    · have hjs : j < fs.size := (Array.getElem?_eq_some_iff.1 hj).1
      have hy : xs[j]? = some (xs[j]'(by omega)) := List.getElem?_eq_getElem (by omega)
      refine ⟨xs[j]'(by omega), (hfld j f hj).trans hy, fun x hx => lt0 x ?_, fun q hq => hw q (List.mem_cons_of_mem _ (List.mem_append_left _ ?_))⟩
      · refine List.mem_append_right _ (List.mem_flatMap.2 ⟨i, List.mem_range.2 (by omega), ?_⟩)
        rw [hxy.2]
        exact List.mem_flatMap.2 ⟨_, List.getElem_mem (by omega), hx⟩
      · refine weights_all (List.mem_map.2 ⟨i, List.mem_range.2 (by omega), rfl⟩) q ?_
        rw [hxy.1]
        simp only [DataW.weights, he]
        refine DataW.weights_mem_each (j := j) (t := f.type) (d := (xs[j]'(by omega)).1) ?_ ?_ q hq
        · rw [List.getElem?_map, Array.getElem?_toList, hj]; rfl
        · rw [List.getElem?_map, hy]; rfl

theorem open_slz {H : Type} {enc : TypeId × Value → H} {P : Program} {W : World} {t e : TypeId} {fuel : Nat} {v : Value} {y : DataW H × List MemPlace}
    (ht : P.underlying t = some (.slice e)) (he : P.underlying e = some (.int .u8)) (hc : P.cellsOf e = 1) (hb : P.bytesOf e = 1)
    (hf : DataW.trod enc P W 0 (fun _ => true) true fuel t [v] = some y) (lt0 : ∀ x ∈ y.2, x.block < W.heap.size) (hw : ∀ m ∈ y.1.weights P t, m ≤ reachBytes) :
    ∃ (A : Option Addr) (len cap : Nat) (l : List UInt8), v = .slice A len cap ∧ InBytes W A len cap l := by
  rcases open_ints ht he hc hf with ⟨hcs, hx⟩ | ⟨a, len, c, zs, hcs, _, hl, hm, hz, hx, hcell, hwz⟩
  · simp only [List.cons.injEq, and_true] at hcs
    exact ⟨none, 0, 0, [], hcs, Sl.nil_, rfl, Nat.le_refl _, fun _ => rfl, by omega⟩
  · simp only [List.cons.injEq, and_true] at hcs
    subst hx
    simp only [if_true] at hz
    have hr := hw _ (by simp only [DataW.weights, ht]; exact List.mem_cons_self ..)
    rw [hb] at hr
    simp only [lits, List.length_map, List.length_take, List.length_drop, reachBytes] at hr
    obtain ⟨l, hl'⟩ := cells_of_ints (zs.take len) (fun n hn => hwz n (List.mem_of_mem_take hn))
    have hlen : len = l.length := by
      have := congrArg List.length hl'
      rw [cb_len, List.length_map, List.length_take] at this
      omega
    refine ⟨some a, len, c, l, hcs, ⟨by rw [cb_len]; exact hlen.symm, fun hn => ⟨_, rfl, ?_, ?_⟩⟩, hlen, hl, (fun h => by cases h), by omega⟩
    · exact lt0 (.cell a.block a.off) (MemPlace.mem_row.2 ⟨0, by omega, by simp⟩)
    · intro i u hu
      rw [← hl'] at hu
      have hi : i < len := by
        rcases Nat.lt_or_ge i len with h | h
        · exact h
        · rw [List.getElem?_eq_none (by simp; omega)] at hu; cases hu
      have := hcell i (by omega)
      rw [this]
      rw [List.getElem?_map, List.getElem?_take_of_lt hi] at hu
      simp only [Option.map_eq_some_iff] at hu
      obtain ⟨z, hz', rfl⟩ := hu
      rw [List.getD_eq_getElem?_getD, hz']
      rfl

theorem open_bool1 {H : Type} {enc : TypeId × Value → H} {P : Program} {W : World} {t : TypeId} {fuel : Nat} {v : Value} {y : DataW H × List MemPlace}
    (ht : P.underlying t = some .bool) (hf : DataW.trod enc P W 0 (fun _ => true) true fuel t [v] = some y) : ∃ z, v = .bool z := by
  obtain ⟨n, hcs, _⟩ := DataW.trod_bool ht hf
  simp only [List.cons.injEq, and_true] at hcs
  exact ⟨n, hcs⟩
theorem open_str1 {H : Type} {enc : TypeId × Value → H} {P : Program} {W : World} {t : TypeId} {fuel : Nat} {v : Value} {y : DataW H × List MemPlace}
    (ht : P.underlying t = some .string) (hf : DataW.trod enc P W 0 (fun _ => true) true fuel t [v] = some y) : ∃ z : List UInt8, v = .string ⟨z.toArray⟩ ∧ z.length ≤ maxLen := by
  obtain ⟨s, hcs, _, hs⟩ := DataW.trod_string ht hf
  simp only [List.cons.injEq, and_true] at hcs
  refine ⟨s.data.toList, by rw [hcs], ?_⟩
  have : s.data.toList.length = s.size := Array.length_toList
  rw [this]
  exact hs

end Go.Proofs.YtlnoopmblmkgkaaGreatDoor
