/- A struct of any number of one-cell fields that came in by value, opened. No function of the program is named here. -/
import Derived.Test.YtlnoopmblmkgkaaGreatDoorLG
import Derived.Deep.Fields
import Derived.Deep.Slices
import Derived.ChangeSame
import Derived.Test.YtlnoopmblmkgkaaGreatDoorLA
import Derived.Lib.SmallJoins
import Derived.SizedLaws
namespace Go.Proofs.YtlnoopmblmkgkaaGreatDoor
set_option maxRecDepth 100000
open Go.ChangeShapes Go.WideShapes Go.ChangeAt Go.RowKit
set_option linter.unusedVariables false

theorem open_aggN {H : Type} {enc : TypeId × Value → H} {P : Program} {w : World} {base : Nat} {spare : Nat → Bool} {held : Bool} {r : Reach} {b0 : Nat} {t : TypeId} {fs : Array Field} {v : Value} {d : DataW H} {p : List MemPlace}
    (hs : P.underlying t = some (.struct fs)) (hone : Deep.oneCellFields P fs = true) (hC : P.cellsOf t = fs.size) (hv : Value.okWide P w r b0 t v) (h : DataW.Trod enc P w base spare held t v d p) :
    ∃ (vs : List Value) (xs : List (DataW H × List MemPlace)) (n : Nat), v = .agg vs.toArray ∧ vs.length = fs.size ∧ xs.length = fs.size ∧ d = .agg (xs.map (·.1)) ∧ p = xs.flatMap (·.2) ∧
      ∀ (j : Nat) (f : Field), fs[j]? = some f → ∃ u y, vs[j]? = some u ∧ xs[j]? = some y ∧ DataW.trod enc P w base spare held n f.type [u] = some y := by
  obtain ⟨cs, rfl, hsz⟩ := okWide_struct hs hv
  obtain ⟨fuel, hf⟩ := h
  obtain ⟨xs, n, _, hx, hl, hlen, hfld⟩ := DataW.trod_struct hs hf
  simp only [Prod.mk.injEq] at hx
  have hcl : cs.toList.length = fs.size := by rw [Array.length_toList, hsz, hC]
  refine ⟨cs.toList, xs, n, by simp, hcl, hlen, hx.1, hx.2, fun j f hj => ?_⟩
  have hjs : j < fs.size := (Array.getElem?_eq_some_iff.1 hj).1
  obtain ⟨o, k⟩ := Deep.hone_of hone j f hj
  have h1 := hfld j f hj
  have e1 : ((Value.agg cs).cells.toList.drop f.offset).take (P.cellsOf f.type) = [cs.toList[j]'(by omega)] := by
    rw [o, k]
    show (cs.toList.drop j).take 1 = _
    rw [List.drop_eq_getElem_cons (by omega)]
    rfl
  rw [e1] at h1
  exact ⟨_, _, List.getElem?_eq_getElem (by omega), List.getElem?_eq_getElem (by omega), h1.trans (List.getElem?_eq_getElem (by omega))⟩

end Go.Proofs.YtlnoopmblmkgkaaGreatDoor

namespace Go.Proofs.YtlnoopmblmkgkaaGreatDoor
set_option maxRecDepth 100000
open Go.ChangeShapes Go.WideShapes Go.ChangeAt Go.RowKit
set_option linter.unusedVariables false

/-- From 'there is one for each' to a list. -/
theorem list_each {α : Type} [Inhabited α] {n : Nat} {p : Nat → α → Prop} (h : ∀ i, i < n → ∃ x, p i x) : ∃ l : List α, l.length = n ∧ ∀ i (hi : i < l.length), p i l[i] := by
  obtain ⟨f, hf⟩ := Deep.choose_lt h
  refine ⟨(List.range n).map f, by simp, fun i hi => ?_⟩
  simp only [List.length_map, List.length_range] at hi
  simpa using hf i hi

end Go.Proofs.YtlnoopmblmkgkaaGreatDoor

namespace Go.Proofs.YtlnoopmblmkgkaaGreatDoor
set_option maxRecDepth 100000
open Go.ChangeShapes Go.WideShapes Go.ChangeAt Go.RowKit
set_option linter.unusedVariables false
set_option linter.unusedSimpArgs false

theorem weights_all {H : Type} {P : Program} {e : TypeId} : ∀ {ds : List (DataW H)} {d : DataW H}, d ∈ ds → ∀ m ∈ d.weights P e, m ∈ DataW.weightsAll P e ds
  | x :: r, d, h, m, hm => by
    simp only [DataW.weightsAll, List.mem_append]
    rcases List.mem_cons.1 h with rfl | h
    · exact .inl hm
    · exact .inr (weights_all h m hm)

theorem open_elems_sized {H : Type} {enc : TypeId × Value → H} {P : Program} {W : World} {t e : TypeId} {fs : Array Field} {A : Option Addr} {len cap : Nat} {d : DataW H} {p : List MemPlace}
    (ht : P.underlying t = some (.slice e)) (he : P.underlying e = some (.struct fs)) (h0 : DataW.Trod enc P W 0 (fun _ => true) true t (.slice A len cap) d p) (lt0 : ∀ x ∈ p, x.block < W.heap.size) (hw : ∀ m ∈ d.weights P t, m ≤ reachBytes) :
    (A = none ∧ len = 0 ∧ cap = 0) ∨ ∃ ad, A = some ad ∧ len ≤ cap ∧ cap ≤ maxLen ∧ ∀ i, i < len → ∃ (cs : List Value) (n : Nat), cs.length = P.cellsOf e ∧ (∀ j v, cs[j]? = some v → W.cell? ((ad.add (i * P.cellsOf e)).add j) = some v) ∧
      ∀ (j : Nat) (f : Field), fs[j]? = some f → ∃ y, DataW.trod enc P W 0 (fun _ => true) true n f.type ((cs.drop f.offset).take (P.cellsOf f.type)) = some y ∧ (∀ x ∈ y.2, x.block < W.heap.size) ∧ ∀ m ∈ y.1.weights P f.type, m ≤ reachBytes := by
  obtain ⟨fuel, hf⟩ := h0
  rcases Deep.open_slice ht hf with ⟨hcs, _⟩ | ⟨a, l, c, m, n, D, Pl, hcs, _, hl, hm, hmm, hx, hrow⟩
  · simp [Value.cells] at hcs
    exact .inl hcs
  · simp [Value.cells] at hcs
    obtain ⟨rfl, rfl, rfl⟩ := hcs
    simp only [if_true] at hmm
    subst hmm
    simp only [Prod.mk.injEq] at hx
    obtain ⟨rfl, rfl⟩ := hx
    simp only [DataW.weights, ht] at hw
    refine .inr ⟨a, rfl, hl, hm, fun i hi => ?_⟩
    obtain ⟨cs, h1, h2⟩ := hrow i (by omega)
    obtain ⟨_, hlen, hcell⟩ := World.cells?_some h1
    obtain ⟨xs, k, _, hxy, _, hxl, hfld⟩ := DataW.trod_struct he h2
    simp only [Prod.mk.injEq] at hxy
    refine ⟨cs, k, hlen, fun j v hv => ?_, fun j f hj => ?_⟩
    · have hj : j < cs.length := (List.getElem?_eq_some_iff.1 hv).1
      rw [hcell j (by omega)]
      exact hv
    · have hjs : j < fs.size := (Array.getElem?_eq_some_iff.1 hj).1
      have hy : xs[j]? = some (xs[j]'(by omega)) := List.getElem?_eq_getElem (by omega)
      refine ⟨xs[j]'(by omega), (hfld j f hj).trans hy, fun x hx => lt0 x ?_, fun q hq => hw q (List.mem_cons_of_mem _ (List.mem_append_left _ ?_))⟩
      · refine List.mem_append_right _ (List.mem_flatMap.2 ⟨i, List.mem_range.2 (by omega), ?_⟩)
        rw [hxy.2]
        exact List.mem_flatMap.2 ⟨_, List.getElem_mem (by omega), hx⟩
      · refine weights_all (List.mem_map.2 ⟨i, List.mem_range.2 (by omega), rfl⟩) q ?_
        rw [hxy.1]
        simp only [DataW.weights, he]
        refine DataW.weights_mem_each (j := j) (t := f.type) (d := (xs[j]'(by omega)).1) ?_ ?_ q hq
        · rw [List.getElem?_map, Array.getElem?_toList, hj]; rfl
        · rw [List.getElem?_map, hy]; rfl

theorem open_slz {H : Type} {enc : TypeId × Value → H} {P : Program} {W : World} {t e : TypeId} {fuel : Nat} {v : Value} {y : DataW H × List MemPlace}
    (ht : P.underlying t = some (.slice e)) (he : P.underlying e = some (.int .u8)) (hc : P.cellsOf e = 1) (hb : P.bytesOf e = 1)
    (hf : DataW.trod enc P W 0 (fun _ => true) true fuel t [v] = some y) (lt0 : ∀ x ∈ y.2, x.block < W.heap.size) (hw : ∀ m ∈ y.1.weights P t, m ≤ reachBytes) :
    ∃ (A : Option Addr) (len cap : Nat) (l : List UInt8), v = .slice A len cap ∧ InBytes W A len cap l := by
  rcases open_ints ht he hc hf with ⟨hcs, hx⟩ | ⟨a, len, c, zs, hcs, _, hl, hm, hz, hx, hcell, hwz⟩
  · simp only [List.cons.injEq, and_true] at hcs
    exact ⟨none, 0, 0, [], hcs, Sl.nil_, rfl, Nat.le_refl _, fun _ => rfl, by omega⟩
  · simp only [List.cons.injEq, and_true] at hcs
    subst hx
    simp only [if_true] at hz
    have hr := hw _ (by simp only [DataW.weights, ht]; exact List.mem_cons_self ..)
    rw [hb] at hr
    simp only [lits, List.length_map, List.length_take, List.length_drop, reachBytes] at hr
    obtain ⟨l, hl'⟩ := cells_of_ints (zs.take len) (fun n hn => hwz n (List.mem_of_mem_take hn))
    have hlen : len = l.length := by
      have := congrArg List.length hl'
      rw [cb_len, List.length_map, List.length_take] at this
      omega
    refine ⟨some a, len, c, l, hcs, ⟨by rw [cb_len]; exact hlen.symm, fun hn => ⟨_, rfl, ?_, ?_⟩⟩, hlen, hl, (fun h => by cases h), by omega⟩
    · exact lt0 (.cell a.block a.off) (MemPlace.mem_row.2 ⟨0, by omega, by simp⟩)
    · intro i u hu
      rw [← hl'] at hu
      have hi : i < len := by
        rcases Nat.lt_or_ge i len with h | h
        · exact h
        · rw [List.getElem?_eq_none (by simp; omega)] at hu; cases hu
      have := hcell i (by omega)
      rw [this]
      rw [List.getElem?_map, List.getElem?_take_of_lt hi] at hu
      simp only [Option.map_eq_some_iff] at hu
      obtain ⟨z, hz', rfl⟩ := hu
      rw [List.getD_eq_getElem?_getD, hz']
      rfl

end Go.Proofs.YtlnoopmblmkgkaaGreatDoor

namespace Go.Proofs.YtlnoopmblmkgkaaGreatDoor
set_option maxRecDepth 100000
open Go.ChangeShapes Go.WideShapes Go.ChangeAt Go.RowKit
set_option linter.unusedVariables false
set_option linter.unusedSimpArgs false

/-- A pair of an int and bytes lies at p. -/
def PairAt (w : World) (B : Nat) (p : Addr) (x : Int × List UInt8) : Prop :=
  (Lit.int .i64 x.1).wf = true ∧ p.block < B ∧ ∃ M c, w.cell? p = some (.int .i64 x.1) ∧ w.cell? (p.add 1) = some (.slice M x.2.length c) ∧ Sl w B M x.2.length (cb x.2) ∧ x.2.length ≤ c ∧ (M = none → c = 0) ∧ c ≤ 140737488351232
theorem PairAt.below {w w' : World} {B : Nat} {p : Addr} {x : Int × List UInt8} (h : PairAt w B p x) (hb : Below B w w') : PairAt w' B p x := by
  obtain ⟨h1, h2, M, c, h3, h4, h5, h6⟩ := h
  exact ⟨h1, h2, M, c, by rw [hb.cell h2]; exact h3, by rw [hb.cell (by rw [add_block]; exact h2)]; exact h4, h5.below hb, h6⟩
/-- What a walk is told of pairs that came in. -/
structure InPairs (w : World) (A : Option Addr) (n c : Nat) (ds : List (Int × List UInt8)) : Prop where
  at_ : ∀ j (h : j < ds.length), ∃ ad, A = some ad ∧ PairAt w w.heap.size (ad.add (j * 2)) ds[j]
  len : n = ds.length
  cap : n ≤ c
  none_ : A = none → c = 0

theorem open_pairs {H : Type} {enc : TypeId × Value → H} {P : Program} {W : World} {t e q : TypeId} {f0 f1 : Field} {fuel : Nat} {v : Value} {y : DataW H × List MemPlace}
    (ht : P.underlying t = some (.slice e)) (he : P.underlying e = some (.struct #[f0, f1])) (ce : P.cellsOf e = 2) (o0 : f0.offset = 0) (o1 : f1.offset = 1) (c0 : P.cellsOf f0.type = 1) (c1 : P.cellsOf f1.type = 1)
    (t0 : P.underlying f0.type = some (.int .i64)) (t1 : P.underlying f1.type = some (.slice q)) (tq : P.underlying q = some (.int .u8)) (cq : P.cellsOf q = 1) (bq : P.bytesOf q = 1)
    (hf : DataW.trod enc P W 0 (fun _ => true) true fuel t [v] = some y) (lt0 : ∀ x ∈ y.2, x.block < W.heap.size) (hw : ∀ m ∈ y.1.weights P t, m ≤ reachBytes) :
    ∃ A n c ds, v = .slice A n c ∧ InPairs W A n c ds := by
  obtain ⟨A, n, c, hv⟩ := Joins.slice_form ht hf
  simp only [List.cons.injEq, and_true] at hv
  subst hv
  refine ⟨A, n, c, ?_⟩
  have h0 : DataW.Trod enc P W 0 (fun _ => true) true t (.slice A n c) y.1 y.2 := ⟨fuel, by simpa [Value.cells] using hf⟩
  rcases open_elems_sized ht he h0 lt0 hw with ⟨rfl, rfl, rfl⟩ | ⟨ad, rfl, hl, hm, hrow⟩
  · exact ⟨[], rfl, fun j h => absurd h (by simp), rfl, Nat.le_refl _, fun _ => rfl⟩
  · have each : ∀ i, i < n → ∃ x : Int × List UInt8, PairAt W W.heap.size (ad.add (i * 2)) x := by
      intro i hi
      obtain ⟨cs, k, hcl, hcell, hfld⟩ := hrow i hi
      rw [ce] at hcl hcell
      match cs, hcl with
      | [v0, v1], _ =>
        obtain ⟨y0, g0, l0, w0⟩ := hfld 0 f0 rfl
        obtain ⟨y1, g1, l1, w1⟩ := hfld 1 f1 rfl
        rw [o0, c0] at g0
        rw [o1, c1] at g1
        simp only [List.drop_zero, List.drop_succ_cons, List.take_succ_cons, List.take_zero] at g0 g1
        obtain ⟨z, rfl, hz⟩ := open_i64 t0 g0
        obtain ⟨M, mn, mc, ml, rfl, hin⟩ := open_slz t1 tq cq bq g1 l1 w1
        have e0 := hcell 0 _ rfl
        rw [add_none] at e0
        have hml := hin.len
        subst hml
        exact ⟨(z, ml), hz, block_lt_of_cell e0, M, mc, e0, hcell 1 _ rfl, hin.sl, hin.cap, hin.none_, hin.room⟩
    obtain ⟨ds, hll, hle⟩ := list_each each
    exact ⟨ds, rfl, fun j hj => ⟨ad, rfl, hle j hj⟩, hll.symm, hl, fun h => by cases h⟩

end Go.Proofs.YtlnoopmblmkgkaaGreatDoor
