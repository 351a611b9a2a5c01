/- Layer 10, nonce: counters and steps that came in. -/
import Derived.Test.YtigofelbnjjigaaNonV
import Derived.Test.YtigofelbnjjigaaLstS
namespace Go.Proofs.Ytigofelbnjjigaa
set_option maxRecDepth 100000
open Go.ChangeShapes Go.WideShapes Go.ChangeAt Go.RowKit
set_option linter.unusedVariables false
set_option linter.unusedSimpArgs false

/-- A counter that came in. -/
def CnIn (w : World) (v : Value) : Prop := ∃ e l : Int, v = .agg (cnt e l).toArray ∧ (Lit.int .i64 e).wf = true ∧ (Lit.int .i64 l).wf = true

theorem open_counter {H : Type} {enc : TypeId × Value → H} {W : World} {b0 : Nat} {r : Reach} {v : Value} {d : DataW H} {p : List MemPlace} (hv : Value.okWide Try.prog W r b0 23 v)
    (h : DataW.Trod enc Try.prog W 0 (fun _ => true) true 23 v d p) (lt0 : ∀ x ∈ p, x.block < W.heap.size) : CnIn W v := by
  obtain ⟨v0, v1, y0, y1, n, rfl, rfl, rfl, h0, h1⟩ := Joins.open_agg2 Try.underlying23 (by kernel_rfl) (by kernel_rfl) hv h
  obtain ⟨e, rfl, he⟩ := open_i64 Try.underlying3 h0
  obtain ⟨l, rfl, hl⟩ := open_i64 Try.underlying3 h1
  exact ⟨e, l, rfl, he, hl⟩

/-- A step (Turn, N) lies at p. -/
def DoAt10 (w : World) (B : Nat) (p : Addr) (x : Bool × Int) : Prop := p.block < B ∧ w.cell? p = some (.bool x.1) ∧ w.cell? (p.add 1) = some (.int .i64 x.2) ∧ (Lit.int .i64 x.2).wf = true
theorem DoAt10.below {w w' : World} {B : Nat} {p : Addr} {x : Bool × Int} (h : DoAt10 w B p x) (hb : Below B w w') : DoAt10 w' B p x := by
  obtain ⟨h1, h2, h3, h4⟩ := h
  exact ⟨h1, by rw [hb.cell h1]; exact h2, by rw [hb.cell (by rw [add_block]; exact h1)]; exact h3, h4⟩
/-- What a walk is told of steps that came in. -/
structure InDo10 (w : World) (A : Option Addr) (n c : Nat) (ds : List (Bool × Int)) : Prop where
  dos : ∀ j (h : j < ds.length), ∃ ad, A = some ad ∧ DoAt10 w w.heap.size (ad.add (j * 2)) ds[j]
  len : n = ds.length
  cap : n ≤ c
  none_ : A = none → c = 0

theorem open_list_do {H : Type} {enc : TypeId × Value → H} {W : World} {A : Option Addr} {len cap : Nat} {d : DataW H} {p : List MemPlace}
    (h0 : DataW.Trod enc Try.prog W 0 (fun _ => true) true 42 (.slice A len cap) d p) (lt0 : ∀ x ∈ p, x.block < W.heap.size) : ∃ l, InDo10 W A len cap l := by
  have hce : Try.prog.cellsOf 44 = 2 := by kernel_rfl
  rcases open_elems Try.underlying42 Try.underlying44 h0 lt0 with ⟨rfl, rfl, rfl⟩ | ⟨ad, rfl, hl, hm, hrow⟩
  · exact ⟨[], fun j h => absurd h (by simp), rfl, Nat.le_refl _, fun _ => rfl⟩
  · have each : ∀ i, i < len → ∃ x : Bool × Int, DoAt10 W W.heap.size (ad.add (i * 2)) x := by
      intro i hi
      obtain ⟨cs, n, hcl, hcell, hfld⟩ := hrow i hi
      rw [hce] at hcl hcell
      match cs, hcl with
      | [v0, v1], _ =>
        obtain ⟨y0, f0, l0⟩ := hfld 0 _ rfl
        obtain ⟨y1, f1, l1⟩ := hfld 1 _ rfl
        have c0 : Try.prog.cellsOf 4 = 1 := by kernel_rfl
        have c1 : Try.prog.cellsOf 3 = 1 := by kernel_rfl
        have g0 : DataW.trod enc Try.prog W 0 (fun _ => true) true n 4 (([v0, v1].drop 0).take (Try.prog.cellsOf 4)) = some y0 := f0
        rw [c0] at g0
        have g1 : DataW.trod enc Try.prog W 0 (fun _ => true) true n 3 (([v0, v1].drop 1).take (Try.prog.cellsOf 3)) = some y1 := f1
        rw [c1] at g1
        simp only [List.drop_zero, List.drop_succ_cons, List.take_succ_cons, List.take_zero] at g0 g1
        obtain ⟨b, rfl⟩ := open_bool1 Try.underlying4 g0
        obtain ⟨e, rfl, he⟩ := open_i64 Try.underlying3 g1
        have e0 := hcell 0 _ rfl
        rw [add_none] at e0
        exact ⟨(b, e), block_lt_of_cell e0, e0, hcell 1 _ rfl, he⟩
    obtain ⟨l, hll, hle⟩ := list_each each
    exact ⟨l, fun j hj => ⟨ad, rfl, hle j hj⟩, hll.symm, hl, fun h => by cases h⟩

end Go.Proofs.Ytigofelbnjjigaa
