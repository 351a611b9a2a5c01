/- Layer 9, label: a step (Do) that came in, alone and in a list. -/
import Derived.Test.YtkkpdeembndneaaDoorLabV
import Derived.Test.YtkkpdeembndneaaDoorLstS
namespace Go.Proofs.YtkkpdeembndneaaDoor
set_option maxRecDepth 100000
open Go.ChangeShapes Go.WideShapes Go.ChangeAt Go.RowKit
set_option linter.unusedVariables false
set_option linter.unusedSimpArgs false

/-- What a step says: Ask, Epoch, Master, Purpose. -/
abbrev Do9 := Bool × Int × List UInt8 × List UInt8
/-- The values of a step's fields. -/
def DoV (w : World) (B : Nat) (v0 v1 v2 v3 : Value) (x : Do9) : Prop :=
  v0 = .bool x.1 ∧ v1 = .int .i64 x.2.1 ∧ (Lit.int .i64 x.2.1).wf = true ∧ (∃ A n c, v2 = .slice A n c ∧ Sl w B A n (cb x.2.2.1) ∧ n ≤ c ∧ (A = none → c = 0) ∧ c ≤ 140737488351232) ∧ v3 = .string ⟨x.2.2.2.toArray⟩ ∧ x.2.2.2.length ≤ maxLen
theorem DoV.below {w w' : World} {B : Nat} {v0 v1 v2 v3 : Value} {x : Do9} (h : DoV w B v0 v1 v2 v3 x) (hb : Below B w w') : DoV w' B v0 v1 v2 v3 x := by
  obtain ⟨h0, h1, h2, ⟨A, n, c, h3, h4, h5⟩, h6⟩ := h
  exact ⟨h0, h1, h2, ⟨A, n, c, h3, h4.below hb, h5⟩, h6⟩

/-- A step that came in. -/
def DoIn (w : World) (v : Value) : Prop := ∃ (v0 v1 v2 v3 : Value) (x : Do9), v = .agg #[v0, v1, v2, v3] ∧ DoV w w.heap.size v0 v1 v2 v3 x

theorem opens_do {H : Type} {enc : TypeId × Value → H} {W : World} {b0 : Nat} {r : Reach} {v : Value} {d : DataW H} {p : List MemPlace} {ts : List TypeId} {ds : List (DataW H)} {j : Nat} (hv : Value.okWide Tryd.prog W r b0 41 v)
    (h : DataW.Trod enc Tryd.prog W 0 (fun _ => true) true 41 v d p) (lt0 : ∀ x ∈ p, x.block < W.heap.size)
    (hsz : (DataW.weightsEach Tryd.prog ts ds).all (· ≤ reachBytes) = true) (htj : ts[j]? = some 41) (hdj : ds[j]? = some d) : DoIn W v := by
  have hall : ∀ m ∈ d.weights Tryd.prog 41, m ≤ reachBytes := fun m hm => by
    have := List.all_eq_true.1 hsz _ (DataW.weights_mem_each htj hdj m hm)
    simpa using this
  obtain ⟨v0, v1, v2, v3, y0, y1, y2, y3, n, rfl, rfl, rfl, h0, h1, h2, h3⟩ := Joins.open_agg4 Tryd.underlying41 (by kernel_rfl) (by kernel_rfl) hv h
  have hu := Tryd.underlying41
  simp only [DataW.weights, hu, DataW.weightsEach, List.mem_append, List.map_cons, List.map_nil] at hall
  obtain ⟨b, rfl⟩ := open_bool1 Tryd.underlying4 h0
  obtain ⟨e, rfl, he⟩ := open_i64 Tryd.underlying3 h1
  obtain ⟨A2, n2, c2, l2, rfl, i2⟩ := open_slz Tryd.underlying22 Tryd.underlying5 (by kernel_rfl) (by kernel_rfl) h2 (fun x hx => lt0 x (by simp [hx])) (fun m hm => hall m (by simp [hm]))
  obtain ⟨s, rfl, hs⟩ := open_str1 Tryd.underlying9 h3
  exact ⟨_, _, _, _, (b, e, l2, s), rfl, rfl, rfl, he, ⟨A2, n2, c2, rfl, i2.sl, i2.cap, i2.none_, i2.room⟩, rfl, hs⟩

/-- A step lies at p. -/
def Do9At (w : World) (B : Nat) (p : Addr) (x : Do9) : Prop := p.block < B ∧ ∃ v0 v1 v2 v3, w.cell? p = some v0 ∧ w.cell? (p.add 1) = some v1 ∧ w.cell? (p.add 2) = some v2 ∧ w.cell? (p.add 3) = some v3 ∧ DoV w B v0 v1 v2 v3 x
theorem Do9At.below {w w' : World} {B : Nat} {p : Addr} {x : Do9} (h : Do9At w B p x) (hb : Below B w w') : Do9At w' B p x := by
  obtain ⟨hp, v0, v1, v2, v3, h0, h1, h2, h3, hv⟩ := h
  exact ⟨hp, v0, v1, v2, v3, by rw [hb.cell hp]; exact h0, by rw [hb.cell (by rw [add_block]; exact hp)]; exact h1, by rw [hb.cell (by rw [add_block]; exact hp)]; exact h2, by rw [hb.cell (by rw [add_block]; exact hp)]; exact h3, hv.below hb⟩
/-- What a walk is told of steps that came in. -/
structure InDo9 (w : World) (A : Option Addr) (n c : Nat) (ds : List Do9) : Prop where
  dos : ∀ j (h : j < ds.length), ∃ ad, A = some ad ∧ Do9At w w.heap.size (ad.add (j * 4)) ds[j]
  len : n = ds.length
  cap : n ≤ c
  none_ : A = none → c = 0

theorem opens_list_do {H : Type} {enc : TypeId × Value → H} {W : World} {A : Option Addr} {len cap : Nat} {d : DataW H} {p : List MemPlace} {ts : List TypeId} {ds : List (DataW H)} {j : Nat}
    (h0 : DataW.Trod enc Tryd.prog W 0 (fun _ => true) true 34 (.slice A len cap) d p) (lt0 : ∀ x ∈ p, x.block < W.heap.size)
    (hsz : (DataW.weightsEach Tryd.prog ts ds).all (· ≤ reachBytes) = true) (htj : ts[j]? = some 34) (hdj : ds[j]? = some d) : ∃ l, InDo9 W A len cap l := by
  have hall : ∀ m ∈ d.weights Tryd.prog 34, m ≤ reachBytes := fun m hm => by
    have := List.all_eq_true.1 hsz _ (DataW.weights_mem_each htj hdj m hm)
    simpa using this
  have hce : Tryd.prog.cellsOf 41 = 4 := by kernel_rfl
  rcases open_elems_sized Tryd.underlying34 Tryd.underlying41 h0 lt0 hall with ⟨rfl, rfl, rfl⟩ | ⟨ad, rfl, hl, hm, hrow⟩
  · exact ⟨[], fun j h => absurd h (by simp), rfl, Nat.le_refl _, fun _ => rfl⟩
  · have each : ∀ i, i < len → ∃ x : Do9, Do9At W W.heap.size (ad.add (i * 4)) x := by
      intro i hi
      obtain ⟨cs, n, hcl, hcell, hfld⟩ := hrow i hi
      rw [hce] at hcl hcell
      match cs, hcl with
      | [v0, v1, v2, v3], _ =>
        obtain ⟨y0, f0, l0, w0⟩ := hfld 0 _ rfl
        obtain ⟨y1, f1, l1, w1⟩ := hfld 1 _ rfl
        obtain ⟨y2, f2, l2, w2⟩ := hfld 2 _ rfl
        obtain ⟨y3, f3, l3, w3⟩ := hfld 3 _ rfl
        have c0 : Tryd.prog.cellsOf 4 = 1 := by kernel_rfl
        have c1 : Tryd.prog.cellsOf 3 = 1 := by kernel_rfl
        have c2 : Tryd.prog.cellsOf 22 = 1 := by kernel_rfl
        have c3 : Tryd.prog.cellsOf 9 = 1 := by kernel_rfl
        have g0 : DataW.trod enc Tryd.prog W 0 (fun _ => true) true n 4 (([v0, v1, v2, v3].drop 0).take (Tryd.prog.cellsOf 4)) = some y0 := f0
        rw [c0] at g0
        have g1 : DataW.trod enc Tryd.prog W 0 (fun _ => true) true n 3 (([v0, v1, v2, v3].drop 1).take (Tryd.prog.cellsOf 3)) = some y1 := f1
        rw [c1] at g1
        have g2 : DataW.trod enc Tryd.prog W 0 (fun _ => true) true n 22 (([v0, v1, v2, v3].drop 2).take (Tryd.prog.cellsOf 22)) = some y2 := f2
        rw [c2] at g2
        have g3 : DataW.trod enc Tryd.prog W 0 (fun _ => true) true n 9 (([v0, v1, v2, v3].drop 3).take (Tryd.prog.cellsOf 9)) = some y3 := f3
        rw [c3] at g3
        simp only [List.drop_zero, List.drop_succ_cons, List.take_succ_cons, List.take_zero] at g0 g1 g2 g3
        obtain ⟨b, rfl⟩ := open_bool1 Tryd.underlying4 g0
        obtain ⟨e, rfl, he⟩ := open_i64 Tryd.underlying3 g1
        obtain ⟨A2, n2, k2, q2, rfl, i2⟩ := open_slz Tryd.underlying22 Tryd.underlying5 (by kernel_rfl) (by kernel_rfl) g2 l2 w2
        obtain ⟨s, rfl, hs⟩ := open_str1 Tryd.underlying9 g3
        have e0 := hcell 0 _ rfl
        rw [add_none] at e0
        exact ⟨(b, e, q2, s), block_lt_of_cell e0, _, _, _, _, e0, hcell 1 _ rfl, hcell 2 _ rfl, hcell 3 _ rfl, rfl, rfl, he, ⟨A2, n2, k2, rfl, i2.sl, i2.cap, i2.none_, i2.room⟩, rfl, hs⟩
    obtain ⟨l, hll, hle⟩ := list_each each
    exact ⟨l, fun j hj => ⟨ad, rfl, hle j hj⟩, hll.symm, hl, fun h => by cases h⟩

end Go.Proofs.YtkkpdeembndneaaDoor
