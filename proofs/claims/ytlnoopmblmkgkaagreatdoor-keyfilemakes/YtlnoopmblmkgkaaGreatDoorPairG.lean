/- A list of structs (int, []byte) that came in, alone or in a field of another one, with sizes. No function of the program is named here. -/
import Derived.Test.YtlnoopmblmkgkaaGreatDoorLstS
namespace Go.Proofs.YtlnoopmblmkgkaaGreatDoor
set_option maxRecDepth 100000
open Go.ChangeShapes Go.WideShapes Go.ChangeAt Go.RowKit
set_option linter.unusedVariables false
set_option linter.unusedSimpArgs false

/-- A pair of an int and bytes lies at p. -/
def PairAt (w : World) (B : Nat) (p : Addr) (x : Int × List UInt8) : Prop :=
  (Lit.int .i64 x.1).wf = true ∧ p.block < B ∧ ∃ M c, w.cell? p = some (.int .i64 x.1) ∧ w.cell? (p.add 1) = some (.slice M x.2.length c) ∧ Sl w B M x.2.length (cb x.2) ∧ x.2.length ≤ c ∧ (M = none → c = 0) ∧ c ≤ 140737488351232
theorem PairAt.below {w w' : World} {B : Nat} {p : Addr} {x : Int × List UInt8} (h : PairAt w B p x) (hb : Below B w w') : PairAt w' B p x := by
  obtain ⟨h1, h2, M, c, h3, h4, h5, h6⟩ := h
  exact ⟨h1, h2, M, c, by rw [hb.cell h2]; exact h3, by rw [hb.cell (by rw [add_block]; exact h2)]; exact h4, h5.below hb, h6⟩
/-- What a walk is told of pairs that came in. -/
structure InPairs (w : World) (A : Option Addr) (n c : Nat) (ds : List (Int × List UInt8)) : Prop where
  at_ : ∀ j (h : j < ds.length), ∃ ad, A = some ad ∧ PairAt w w.heap.size (ad.add (j * 2)) ds[j]
  len : n = ds.length
  cap : n ≤ c
  none_ : A = none → c = 0

theorem open_pairs {H : Type} {enc : TypeId × Value → H} {P : Program} {W : World} {t e q : TypeId} {f0 f1 : Field} {fuel : Nat} {v : Value} {y : DataW H × List MemPlace}
    (ht : P.underlying t = some (.slice e)) (he : P.underlying e = some (.struct #[f0, f1])) (ce : P.cellsOf e = 2) (o0 : f0.offset = 0) (o1 : f1.offset = 1) (c0 : P.cellsOf f0.type = 1) (c1 : P.cellsOf f1.type = 1)
    (t0 : P.underlying f0.type = some (.int .i64)) (t1 : P.underlying f1.type = some (.slice q)) (tq : P.underlying q = some (.int .u8)) (cq : P.cellsOf q = 1) (bq : P.bytesOf q = 1)
    (hf : DataW.trod enc P W 0 (fun _ => true) true fuel t [v] = some y) (lt0 : ∀ x ∈ y.2, x.block < W.heap.size) (hw : ∀ m ∈ y.1.weights P t, m ≤ reachBytes) :
    ∃ A n c ds, v = .slice A n c ∧ InPairs W A n c ds := by
  obtain ⟨A, n, c, hv⟩ := Joins.slice_form ht hf
  simp only [List.cons.injEq, and_true] at hv
  subst hv
  refine ⟨A, n, c, ?_⟩
  have h0 : DataW.Trod enc P W 0 (fun _ => true) true t (.slice A n c) y.1 y.2 := ⟨fuel, by simpa [Value.cells] using hf⟩
  rcases open_elems_sized ht he h0 lt0 hw with ⟨rfl, rfl, rfl⟩ | ⟨ad, rfl, hl, hm, hrow⟩
  · exact ⟨[], rfl, fun j h => absurd h (by simp), rfl, Nat.le_refl _, fun _ => rfl⟩
  · have each : ∀ i, i < n → ∃ x : Int × List UInt8, PairAt W W.heap.size (ad.add (i * 2)) x := by
      intro i hi
      obtain ⟨cs, k, hcl, hcell, hfld⟩ := hrow i hi
      rw [ce] at hcl hcell
      match cs, hcl with
      | [v0, v1], _ =>
        obtain ⟨y0, g0, l0, w0⟩ := hfld 0 f0 rfl
        obtain ⟨y1, g1, l1, w1⟩ := hfld 1 f1 rfl
        rw [o0, c0] at g0
        rw [o1, c1] at g1
        simp only [List.drop_zero, List.drop_succ_cons, List.take_succ_cons, List.take_zero] at g0 g1
        obtain ⟨z, rfl, hz⟩ := open_i64 t0 g0
        obtain ⟨M, mn, mc, ml, rfl, hin⟩ := open_slz t1 tq cq bq g1 l1 w1
        have e0 := hcell 0 _ rfl
        rw [add_none] at e0
        have hml := hin.len
        subst hml
        exact ⟨(z, ml), hz, block_lt_of_cell e0, M, mc, e0, hcell 1 _ rfl, hin.sl, hin.cap, hin.none_, hin.room⟩
    obtain ⟨ds, hll, hle⟩ := list_each each
    exact ⟨ds, rfl, fun j hj => ⟨ad, rfl, hle j hj⟩, hll.symm, hl, fun h => by cases h⟩

end Go.Proofs.YtlnoopmblmkgkaaGreatDoor
