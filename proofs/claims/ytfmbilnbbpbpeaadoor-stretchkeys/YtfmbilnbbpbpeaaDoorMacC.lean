/- New of package mac; a Key in memory. -/
import Derived.Test.YtfmbilnbbpbpeaaDoorMacB
namespace Go.Proofs.YtfmbilnbbpbpeaaDoor
open Go.RowKit
set_option linter.unusedVariables false
set_option linter.unusedSimpArgs false

theorem fold_cells (off : Nat) : ∀ (vs : List Value) (k : Nat) (cs : List Value), off + k + vs.length ≤ cs.length →
    (vs.zipIdx k).foldl (fun (a : Array Value) (c : Value × Nat) => a.setIfInBounds (off + c.2) c.1) cs.toArray = (splice cs (off + k) vs).toArray
  | [], k, cs, _ => by simp [splice]
  | v :: r, k, cs, h => by
    rw [List.zipIdx_cons, List.foldl_cons]
    simp only [List.setIfInBounds_toArray]
    rw [fold_cells off r (k + 1) (cs.set (off + k) v) (by simp at h ⊢; omega), ← splice_one cs (off + k) v r (by simp at h ⊢; omega)]
    rfl
/-- Cells laid over others, as 'fill' does it. -/
theorem fold_over (off : Nat) (vs cs : List Value) (h : off + vs.length ≤ cs.length) :
    vs.toArray.zipIdx.foldl (fun (a : Array Value) (x : Value × Nat) => match x with | (c, j) => a.setIfInBounds (off + j) c) cs.toArray = (splice cs off vs).toArray := by
  rw [← Array.foldl_toList, Array.toList_zipIdx]
  exact fold_cells off vs 0 cs h
theorem fill_two (C1 C2 Z : List Value) (n : Nat) (h1 : C1.length = n) (h2 : C2.length = n) (hz : Z.length = n + n) :
    Instr.fill ([(0, n), (n, n)].toArray[·]?) Z.toArray [(0, .agg C1.toArray), (1, .agg C2.toArray)] = some (C1 ++ C2).toArray := by
  have e1 : ([(0, n), (n, n)].toArray[0]? : Option (Nat × Nat)) = some (0, n) := rfl
  have e2 : ([(0, n), (n, n)].toArray[1]? : Option (Nat × Nat)) = some (n, n) := rfl
  have s1 : splice Z 0 C1 = C1 ++ Z.drop n := by simp [splice, h1]
  have s2 : splice (C1 ++ Z.drop n) n C2 = C1 ++ C2 := by
    unfold splice
    rw [List.take_append_of_le_length (by omega), List.take_of_length_le (by omega), List.drop_of_length_le (by simp; omega), List.append_nil]
  rw [Instr.fill]
  simp only [e1, Value.cells, List.size_toArray, h1, ne_eq, not_true_eq_false, decide_false, Bool.false_or, decide_eq_true_eq]
  rw [if_neg (by omega), fold_over 0 C1 Z (by omega), s1, Instr.fill]
  simp only [e2, Value.cells, List.size_toArray, h2, ne_eq, not_true_eq_false, decide_false, Bool.false_or, decide_eq_true_eq]
  rw [if_neg (by simp; omega), fold_over n C2 _ (by simp; omega), s2, Instr.fill]

/-- A composite literal as a step that asks no world. -/
theorem exec_build {P : Program} {o : Oper} {a : Act} (ty : TypeId) (parts : Array (Nat × Operand)) (ho : o.op = .build ty parts) (cells : List Value) (hb : P.built ty (parts.toList.map fun p => (p.1, a.eval p.2)) = some cells.toArray) (w : World) :
    (execOp a.eval o).run P w = .ok (.value (.agg cells.toArray)) w := by
  have hb' : P.built ty (parts.map fun (i, x) => (i, a.eval x)).toList = some cells.toArray := by rw [Array.toList_map]; exact hb
  unfold execOp
  simp only [ho, Sem.run_bind, run_build w ty _ cells.toArray hb', Result.andThen_ok, Sem.run_pure]

def keyZ : List Value := stc ⟨0, 0, 0, 0, 0, 0, 0, 0⟩ (List.replicate 64 0) 0 ++ stc ⟨0, 0, 0, 0, 0, 0, 0, 0⟩ (List.replicate 64 0) 0
theorem keyZ_len : keyZ.length = 73 + 73 := by unfold keyZ; rw [List.length_append, stc_len _ _ _ (by simp)]
theorem zero_key : (Tryd.prog.info? 48).map (·.zero) = some (some (.agg keyZ.toArray)) := by kernel_rfl
theorem size_key : (Tryd.prog.info? 48).map (·.size) = some 146 := by kernel_rfl
theorem key_places : (match Tryd.prog.underlying 48 with | some (.struct fields) => fields.toList.mapM (fun f => (Tryd.prog.info? f.type).map fun i => (f.offset, i.size)) | _ => none) = some [(0, 73), (73, 73)] := by kernel_rfl
theorem built_key (C1 C2 : List Value) (h1 : C1.length = 73) (h2 : C2.length = 73) : Tryd.prog.built 48 [(0, .agg C1.toArray), (1, .agg C2.toArray)] = some (C1 ++ C2).toArray := by
  have hz := zero_key
  have hp := key_places
  unfold Program.built
  cases hq : Tryd.prog.info? 48 with
  | none => simp [hq] at hz
  | some it =>
    have hz' : it.zero = some (.agg keyZ.toArray) := by simpa [hq] using hz
    cases hu : Tryd.prog.underlying 48 with
    | none => rw [hu] at hp; simp at hp
    | some d =>
      rw [hu] at hp
      cases d <;> simp only [reduceCtorEq] at hp ⊢
      rename_i fields
      simp only [hz', hp]
      exact fill_two C1 C2 keyZ 73 h1 h2 keyZ_len

/-- The Key at block g is that of these bytes. -/
def Ky (w : World) (g : Nat) (key : List UInt8) : Prop := ∃ C1 C2, StC (kx 54 (kblk key)) C1 ∧ StC (kx 92 (kblk key)) C2 ∧ Bl w g (C1 ++ C2) 48
theorem Ky.keep {w w' : World} {g : Nat} {key : List UInt8} (h : Ky w g key) (hk : w'.heap[g]? = w.heap[g]?) : Ky w' g key := by
  obtain ⟨C1, C2, h1, h2, h3⟩ := h
  exact ⟨C1, C2, h1, h2, h3.keep hk⟩
theorem Ky.lt {w : World} {g : Nat} {key : List UInt8} (h : Ky w g key) : g < w.heap.size := by obtain ⟨_, _, _, _, h⟩ := h; exact h.lt
theorem Ky.next {w w' : World} {g : Nat} {key : List UInt8} (h : Ky w g key) (hb : Below w.heap.size w w') : Ky w' g key := h.keep (hb.block g h.lt)
theorem Ky.but {w w' : World} {g k : Nat} {key : List UInt8} (h : Ky w g key) (hg : w.grownBy w' (some k)) (hk : g ≠ k) : Ky w' g key := h.keep (hg.block g h.lt (fun e => hk (by injection e)))
theorem Ky.ranges {w : World} {g : Nat} {key : List UInt8} (h : Ky w g key) : ∃ C1 C2, StC (kx 54 (kblk key)) C1 ∧ StC (kx 92 (kblk key)) C2 ∧ w.rangeAt g 0 C1 ∧ w.rangeAt g 73 C2 := by
  obtain ⟨C1, C2, h1, h2, h3⟩ := h
  refine ⟨C1, C2, h1, h2, ?_, ?_⟩
  · have := h3.range 0 73
    rwa [List.drop_zero, List.take_append_of_le_length (by rw [h1.len]; omega), List.take_of_length_le (by rw [h1.len]; omega)] at this
  · have := h3.range 73 73
    rwa [List.drop_append_of_le_length (by rw [h1.len]; omega), List.drop_of_length_le (by rw [h1.len]; omega), List.nil_append, List.take_of_length_le (by rw [h2.len]; omega)] at this
def RetKy (w : World) (key : List UInt8) (e : Ending) (w' : World) : Prop := ∃ g, e = .returned (.pointer (some ⟨g, 0, none⟩)) ∧ w.heap.size ≤ g ∧ Ky w' g key ∧ Below w.heap.size w w'

end Go.Proofs.YtfmbilnbbpbpeaaDoor

