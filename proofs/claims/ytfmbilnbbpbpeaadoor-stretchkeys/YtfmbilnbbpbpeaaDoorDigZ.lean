/- Lists of parts: how an argument of that type is opened; few. -/
import Derived.Test.YtfmbilnbbpbpeaaDoorDigW
import Derived.Deep.Matrix
namespace Go.Proofs.YtfmbilnbbpbpeaaDoor
open Go.ChangeShapes Go.WideShapes Go.ChangeAt Go.RowKit
set_option linter.unusedVariables false

/-- What a walk is told of a list of parts that came in. -/
structure InParts (w : World) (A : Option Addr) (n c : Nat) (ls : List (List UInt8)) : Prop where
  parts : Parts w w.heap.size A n ls
  cap : n ≤ c
  none_ : A = none → c = 0
  room : c ≤ maxLen
  each : ∀ l ∈ ls, l.length ≤ maxLen

theorem open_parts {H : Type} {enc : TypeId × Value → H} {P : Program} {W : World} {t e q : TypeId} {A : Option Addr} {len cap : Nat} {d : DataW H} {p : List MemPlace}
    (ht : P.underlying t = some (.slice e)) (he : P.underlying e = some (.slice q)) (hq : P.underlying q = some (.int .u8)) (ce : P.cellsOf e = 1) (cq : P.cellsOf q = 1)
    (h0 : DataW.Trod enc P W 0 (fun _ => true) true t (.slice A len cap) d p) : ∃ ls, InParts W A len cap ls := by
  obtain ⟨fuel, hf⟩ := h0
  rcases Deep.open_int_rows ht he hq ce cq hf with ⟨hcs, hx⟩ | ⟨a, l, c, AA, L, C, Z, hcs, _, hl, hm, hx, hrow⟩
  · simp [Value.cells] at hcs
    obtain ⟨rfl, rfl, rfl⟩ := hcs
    exact ⟨[], ⟨[], Sl.nil_, rfl, fun j h => absurd h (by simp)⟩, Nat.le_refl _, fun _ => rfl, Nat.zero_le _, by simp⟩
  · simp [Value.cells] at hcs
    obtain ⟨rfl, rfl, rfl⟩ := hcs
    obtain ⟨B, hB⟩ := Deep.choose_lt (n := len) (p := fun r (b : List UInt8) => ((Z r).take (L r)).map (Value.int .u8) = cb b) (fun r hr => by
      obtain ⟨_, h1, _, h3, h4, _⟩ := hrow r (by omega)
      exact cells_of_ints _ (fun n hn => h4 n (List.mem_of_mem_take hn)))
    have hlen : ∀ r, r < len → (B r).length = L r := fun r hr => by
      obtain ⟨_, h1, _, h3, _⟩ := hrow r (by omega)
      have := congrArg List.length (hB r hr)
      rw [cb_len, List.length_map, List.length_take] at this
      omega
    refine ⟨(List.range len).map B, ⟨(List.range len).map fun r => .slice (AA r) (L r) (C r), ⟨by simp, fun hn => ⟨a, rfl, ?_, fun j u hu => ?_⟩⟩, by simp, fun j hj => ?_⟩, hl, (fun h => by cases h), hm, ?_⟩
    · have := block_lt_of_cell (hrow 0 (by omega)).1
      rwa [add_block] at this
    · have hj : j < len := by
        rcases Nat.lt_or_ge j len with h | h
        · exact h
        · rw [List.getElem?_eq_none (by simpa using h)] at hu; cases hu
      rw [List.getElem?_map, List.getElem?_range hj] at hu
      simp only [Option.map_some, Option.some.injEq] at hu
      rw [← hu]
      exact (hrow j (by omega)).1
    · simp only [List.length_map, List.length_range] at hj
      obtain ⟨_, h1, _, h3, _, h5, h6⟩ := hrow j (by omega)
      refine ⟨.slice (AA j) (L j) (C j), by rw [List.getElem?_map, List.getElem?_range hj]; rfl, AA j, C j, ?_, ?_, ?_, h5⟩
      · simp [hlen j hj]
      · simp only [List.getElem_map, List.getElem_range]
        rw [hlen j hj]
        refine ⟨by rw [cb_len, hlen j hj], fun hn => ?_⟩
        rcases hA : AA j with _ | ad
        · have := h5 hA; omega
        · obtain ⟨_, hcell⟩ := h6 ad hA
          refine ⟨ad, rfl, ?_, fun i u hu => ?_⟩
          · have := block_lt_of_cell (hcell 0 (by omega))
            rwa [add_block] at this
          · have hi : i < L j := by
              rcases Nat.lt_or_ge i (L j) with h | h
              · exact h
              · rw [List.getElem?_eq_none (by rw [cb_len, hlen j hj]; exact h)] at hu; cases hu
            rw [hcell i (by omega)]
            rw [← hB j hj, List.getElem?_map, List.getElem?_take_of_lt hi] at hu
            simp only [Option.map_eq_some_iff] at hu
            obtain ⟨z, hz', rfl⟩ := hu
            rw [List.getD_eq_getElem?_getD, hz']
            rfl
      · simp only [List.getElem_map, List.getElem_range]
        rw [hlen j hj]; exact h1
    · intro b hb
      obtain ⟨r, hr, rfl⟩ := List.mem_map.1 hb
      have hr' := List.mem_range.1 hr
      obtain ⟨_, h1, h2, _⟩ := hrow r (by omega)
      rw [hlen r hr']
      omega

/-- May the parts be gone through? -/
def fewB (ls : List (List UInt8)) : Bool := decide (ls.length ≤ 20) && (ls.take 21).all fun l => decide (l.length ≤ 400)
theorem few_true {ls : List (List UInt8)} (h : fewB ls = true) : ls.length ≤ 20 ∧ ∀ l ∈ ls, l.length ≤ 400 := by
  simp only [fewB, Bool.and_eq_true, decide_eq_true_eq, List.all_eq_true] at h
  refine ⟨h.1, fun l hl => h.2 l ?_⟩
  rw [List.take_of_length_le (by omega)]
  exact hl
theorem few_false {ls : List (List UInt8)} {k : Nat} (hk : k < ls.length) (h20 : k ≤ 20) (h : 400 < ls[k].length) : fewB ls = false := by
  have : ls[k] ∈ ls.take 21 := by
    rw [List.mem_take_iff_getElem]
    exact ⟨k, by omega, rfl⟩
  simp only [fewB, Bool.and_eq_false_iff, List.all_eq_false]
  right
  exact ⟨_, this, by simp; omega⟩
theorem few_end {ls : List (List UInt8)} {k : Nat} (h : ∀ j (hj : j < ls.length), j < k → ls[j].length ≤ 400) (hk : ls.length ≤ k ∨ 20 < k) : decide (ls.length ≤ 20) = fewB ls := by
  unfold fewB
  by_cases h20 : ls.length ≤ 20
  · have : ((ls.take 21).all fun l => decide (l.length ≤ 400)) = true := by
      rw [List.all_eq_true]
      intro l hl
      obtain ⟨j, hj, rfl⟩ := List.getElem_of_mem (List.mem_of_mem_take hl)
      simpa using h j hj (by omega)
    rw [this, Bool.and_true]
  · simp [h20]

end Go.Proofs.YtfmbilnbbpbpeaaDoor

