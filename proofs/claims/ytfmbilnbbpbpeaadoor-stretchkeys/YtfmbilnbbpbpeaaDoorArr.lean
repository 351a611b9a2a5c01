/- Arrays and structs in memory: a block that is known whole; loads, stores, new variables of many cells without unrolling. No program is named here. -/
import Derived.Test.YtfmbilnbbpbpeaaDoorBase
import Derived.Deep.MidRow
import Derived.Deep.RegionHeld3
import Derived.StillTailTactics
namespace Go.Proofs.YtfmbilnbbpbpeaaDoor
open Go.RowKit

/-- The block g holds just the cells cs (of type t), and may be written. -/
def Bl (w : World) (g : Nat) (cs : List Value) (t : TypeId) : Prop := w.heap[g]? = some (.cells cs.toArray t (0, 0))
section
variable {w w' w0 : World} {g : Nat} {cs : List Value} {t : TypeId}
theorem Bl.lt (h : Bl w g cs t) : g < w.heap.size := (Array.getElem?_eq_some_iff.1 h).1
theorem Bl.cell (h : Bl w g cs t) (j : Nat) : w.cell? ⟨g, j, none⟩ = cs[j]? := by rw [cell_of_row w g j _ t _ h]; simp
theorem Bl.frozen (h : Bl w g cs t) (j : Nat) : w.frozen? ⟨g, j, none⟩ = false := frozen_of_row w g j _ t h
theorem Bl.range (h : Bl w g cs t) (o n : Nat) : w.rangeAt g o ((cs.drop o).take n) := fun j v hv => by
  rw [h.cell, ← hv, List.getElem?_take]
  split
  · rw [List.getElem?_drop]
  · rename_i hn; rw [List.getElem?_take, if_neg hn] at hv; cases hv
theorem Bl.whole (h : Bl w g cs t) : w.rangeAt g 0 cs := fun j v hv => by rw [h.cell, Nat.zero_add]; exact hv
theorem Bl.there_ (h : Bl w g cs t) {o n : Nat} (hn : o + n ≤ cs.length) : w.there g o n := fun j hj => ⟨by rw [h.cell, List.getElem?_eq_getElem (by omega)]; rfl, h.frozen _⟩
theorem Bl.sl (h : Bl w g cs t) {o n : Nat} {xs : List Value} (hx : xs = (cs.drop o).take n) (hn : o + n ≤ cs.length) : Sl w (g + 1) (some ⟨g, o, none⟩) n xs := by
  subst hx
  refine ⟨by simp; omega, fun _ => ⟨_, rfl, Nat.lt_succ_self _, fun j u hu => ?_⟩⟩
  rw [Addr.add_mid]
  exact h.range o n j u hu
theorem Bl.keep (h : Bl w g cs t) (hk : w'.heap[g]? = w.heap[g]?) : Bl w' g cs t := by unfold Bl; rw [hk]; exact h
theorem Bl.below (h : Bl w g cs t) {B : Nat} (hb : Below B w w') (hg : g < B) : Bl w' g cs t := h.keep (hb.block g hg)
theorem Bl.next (h : Bl w g cs t) (hb : Below w.heap.size w w') : Bl w' g cs t := h.below hb h.lt
theorem Bl.grown (h : Bl w g cs t) {row : Option Nat} (hg : w.grownBy w' row) (hr : row ≠ some g) : Bl w' g cs t := h.keep (hg.block g h.lt (fun e => hr e.symm))
theorem Bl.alloc (h : Bl w g cs t) (o : Obj) : Bl (w.alloc o) g cs t := h.keep (Below.heap_alloc w o g h.lt)
theorem Bl.drew (h : Bl w g cs t) : Bl w.drew g cs t := h
theorem Bl.drewN (h : Bl w g cs t) (n : Nat) : Bl (w.drewN n) g cs t := h
theorem Bl.new (w : World) (cs : List Value) (t : TypeId) : Bl (w.alloc (.cells cs.toArray t)) w.heap.size cs t := heap_alloc_new w _
theorem Bl.newA (w : World) (cs : Array Value) (t : TypeId) : Bl (w.alloc (.cells cs t)) w.heap.size cs.toList t := heap_alloc_new w _
theorem Bl.set (h : Bl w g cs t) (i : Nat) (v : Value) : Bl (w.setCell ⟨g, i, none⟩ v) g (cs.set i v) t := by
  have := heap_setCell_same w g i cs.toArray t v h
  unfold Bl; rw [this]; simp
theorem Bl.set_other (h : Bl w g cs t) (a : Addr) (v : Value) (hne : g ≠ a.block) : Bl (w.setCell a v) g cs t := h.keep (heap_setCell_other w a g v hne)
end

theorem splice_one (cs : List Value) (o : Nat) (v : Value) (r : List Value) (h : o + (r.length + 1) ≤ cs.length) : splice (cs.set o v) (o + 1) r = splice cs o (v :: r) := by
  have := list_seg_step cs o v r h
  simpa [splice, Nat.add_assoc, Nat.add_comm] using this
theorem Bl.sets (g : Nat) (t : TypeId) : ∀ (vs : List Value) (o : Nat) (w : World) (cs : List Value), Bl w g cs t → o + vs.length ≤ cs.length → Bl (w.setCells g o vs) g (splice cs o vs) t
  | [], o, w, cs, h, _ => by simpa [splice, World.setCells] using h
  | v :: r, o, w, cs, h, hl => by
    rw [World.setCells, ← splice_one cs o v r (by simpa using hl)]
    exact Bl.sets g t r (o + 1) _ _ (h.set o v) (by simp at hl ⊢; omega)
theorem Bl.over {w : World} {g : Nat} {cs vs : List Value} {t : TypeId} (h : Bl w g cs t) (hl : vs.length = cs.length) : Bl (w.setCells g 0 vs) g vs t := by
  have := Bl.sets g t vs 0 w cs h (by omega)
  have he : splice cs 0 vs = vs := by simp [splice, hl]
  rw [he] at this
  exact this
theorem heap_setCells_other (g k : Nat) (hk : k ≠ g) : ∀ (vs : List Value) (o : Nat) (w : World), (w.setCells g o vs).heap[k]? = w.heap[k]?
  | [], _, _ => rfl
  | v :: r, o, w => by rw [World.setCells, heap_setCells_other g k hk r, heap_setCell_other _ _ _ _ hk]
theorem Bl.sets_other {w : World} {g k : Nat} {cs : List Value} {t : TypeId} (h : Bl w k cs t) (hk : k ≠ g) (o : Nat) (vs : List Value) : Bl (w.setCells g o vs) k cs t := h.keep (heap_setCells_other g k hk vs o w)
theorem size_setCells (g : Nat) : ∀ (vs : List Value) (o : Nat) (w : World), (w.setCells g o vs).heap.size = w.heap.size
  | [], _, _ => rfl
  | v :: r, o, w => by rw [World.setCells, size_setCells g r]; simp [World.setCell]
theorem os_setCells (g : Nat) : ∀ (vs : List Value) (o : Nat) (w : World), (w.setCells g o vs).os = w.os ∧ (w.setCells g o vs).tape = w.tape ∧ (w.setCells g o vs).output = w.output
  | [], _, _ => ⟨rfl, rfl, rfl⟩
  | v :: r, o, w => by rw [World.setCells]; exact os_setCells g r _ _
theorem below_setCells {B : Nat} {a w : World} (h : Below B a w) {g : Nat} (hg : B ≤ g) (o : Nat) (vs : List Value) : Below B a (w.setCells g o vs) :=
  h.trans ⟨(os_setCells g vs o w).1, (os_setCells g vs o w).2.1, (os_setCells g vs o w).2.2, by rw [size_setCells]; exact Nat.le_refl _, fun k hk => heap_setCells_other g k (by omega) vs o w⟩

/-! Only the block g has turned. -/
theorem but_refl (w : World) (g : Nat) : w.grownBy w (some g) := World.grownBy.refl w _
theorem but_trans {a b c : World} {g : Nat} (h : a.grownBy b (some g)) (k : b.grownBy c (some g)) : a.grownBy c (some g) :=
  ⟨k.os.trans h.os, k.tape.trans h.tape, k.output.trans h.output, Nat.le_trans h.size k.size, fun i hi hr => (k.block i (Nat.lt_of_lt_of_le hi h.size) hr).trans (h.block i hi hr)⟩
theorem but_below {a b : World} {g : Nat} (h : Below a.heap.size a b) : a.grownBy b (some g) := ⟨h.os, h.tape, h.output, h.size, fun i hi _ => h.block i hi⟩
theorem but_setCells {a w : World} {g : Nat} (h : a.grownBy w (some g)) (o : Nat) (vs : List Value) : a.grownBy (w.setCells g o vs) (some g) :=
  but_trans h ⟨(os_setCells g vs o w).1, (os_setCells g vs o w).2.1, (os_setCells g vs o w).2.2, by rw [size_setCells]; exact Nat.le_refl _, fun k _ hr => heap_setCells_other g k (fun e => hr (by rw [e])) vs o w⟩
theorem but_setCell {a w : World} {g : Nat} (h : a.grownBy w (some g)) (o : Nat) (v : Value) : a.grownBy (w.setCell ⟨g, o, none⟩ v) (some g) := but_setCells h o [v]
theorem but_drewN {a w : World} {g : Nat} (h : a.grownBy w (some g)) (n : Nat) : a.grownBy (w.drewN n) (some g) := ⟨h.os, h.tape, h.output, h.size, h.block⟩
theorem below_but {B : Nat} {a w w' : World} {g : Nat} (h : Below B a w) (k : w.grownBy w' (some g)) (hB : B ≤ w.heap.size) (hg : B ≤ g) : Below B a w' :=
  h.grown k hB (fun j e => by injection e with e; omega)
theorem sl_but {w w' : World} {B n g : Nat} {A : Option Addr} {xs : List Value} (h : Sl w B A n xs) (k : w.grownBy w' (some g)) (hB : B ≤ w.heap.size) (hg : B ≤ g) : Sl w' B A n xs :=
  h.grown k hB (fun j e => by injection e with e; omega)

section
variable {P : Program}
/-- A new variable of many cells. -/
theorem wpList_alloc_zero {ops : Array Oper} {rest : List Oper} {o : Oper} {a : Act} {w : World} {Q : Exit → Act → World → Prop} (hgd : o.guard = none) (ty : TypeId) (ho : o.op = .alloc ty)
    (z : List Value) (hz : (P.info? ty).map (·.zero) = some (some (.agg z.toArray)))
    (h : wpList P ops Q rest (a.put o.dst (.pointer (some ⟨w.heap.size, 0, none⟩))) (w.alloc (.cells z.toArray ty))) : wpList P ops Q (o :: rest) a w := by
  refine wpList_plain hgd fun K hK => ?_
  cases hq : P.info? ty with
  | none => simp [hq] at hz
  | some i =>
    have hz' : i.zero = some (.agg z.toArray) := by simpa [hq] using hz
    have hr : (Instr.alloc ty true (.tuple #[])).run P w = .ok (.pointer (some ⟨w.heap.size, 0, none⟩)) (w.alloc (.cells z.toArray ty)) := by
      simp [Instr.alloc, zeroValue, typeInfo, hq, hz', newVar, newRow, Value.cells]
    unfold Oper.wp execOp
    simp only [ho, Sem.run_bind, hr, Result.andThen_ok]
    exact hK _ _ h
/-- A composite literal whose cells are known. -/
theorem wpList_build_to {ops : Array Oper} {rest : List Oper} {o : Oper} {a : Act} {w : World} {Q : Exit → Act → World → Prop} (hgd : o.guard = none) (ty : TypeId) (parts : Array (Nat × Operand)) (ho : o.op = .build ty parts)
    (cells : List Value) (hb : P.built ty (parts.toList.map fun p => (p.1, a.eval p.2)) = some cells.toArray)
    (h : wpList P ops Q rest (a.put o.dst (.agg cells.toArray)) w) : wpList P ops Q (o :: rest) a w := by
  refine wpList_plain hgd fun K hK => ?_
  unfold Oper.wp execOp
  have hb' : P.built ty (parts.map fun (i, x) => (i, a.eval x)).toList = some cells.toArray := by rw [Array.toList_map]; exact hb
  simp only [ho, Sem.run_bind, run_build w ty _ cells.toArray hb', Result.andThen_ok]
  exact hK _ _ h
end

/-- A stretch of an array of one-cell elements that lies in a block. -/
theorem run_slice_arr {P : Program} (w : World) (t e : TypeId) (g o n : Nat) (ht : P.underlying t = some (.array n e)) (he : (P.info? e).map (·.size) = some 1) (kl kh : IntKind) (L H : Int) (l h : Nat)
    (eL : L = l) (eH : H = h) (h1 : l ≤ h) (h2 : h ≤ n) (h3 : l < n) :
    (Instr.sliceAt t (.pointer (some ⟨g, o, none⟩)) (some (.int kl L)) (some (.int kh H)) none).run P w = .ok (.slice (some ⟨g, o + l, none⟩) (h - l) (n - l)) w := by
  subst eL; subst eH
  cases hq : P.info? e with
  | none => simp [hq] at he
  | some i =>
    have hs : i.size = 1 := by simpa [hq] using he
    have hn : ¬ n = l := by omega
    simp [Instr.sliceAt, Instr.sureAddr, run_underlying ht, Instr.sliceBounds, run_sliceBound, sizeOf, typeInfo, hq, hs, h1, h2, hn, Addr.add_mid]
theorem run_slice_arr_from {P : Program} (w : World) (t e : TypeId) (g o n : Nat) (ht : P.underlying t = some (.array n e)) (he : (P.info? e).map (·.size) = some 1) (kl : IntKind) (L : Int) (l : Nat)
    (eL : L = l) (h3 : l < n) :
    (Instr.sliceAt t (.pointer (some ⟨g, o, none⟩)) (some (.int kl L)) none none).run P w = .ok (.slice (some ⟨g, o + l, none⟩) (n - l) (n - l)) w := by
  subst eL
  cases hq : P.info? e with
  | none => simp [hq] at he
  | some i =>
    have hs : i.size = 1 := by simpa [hq] using he
    have hn : ¬ n = l := by omega
    have hle : l ≤ n := by omega
    simp [Instr.sliceAt, Instr.sureAddr, run_underlying ht, Instr.sliceBounds, run_sliceBound, sizeOf, typeInfo, hq, hs, hle, hn, Addr.add_mid]

/-- 'return' of a function whose one result is an array or a struct that lies in a block. -/
theorem ret_row {P : Program} {fn : Func} {R : Ending → World → Prop} {a : Act} {w : World} {p : Tmp} {ty : TypeId} {g : Nat} {cs : List Value} {t : TypeId} {d : TypeDesc} (hres : fn.results = #[.cell p ty])
    (hp : a.tmps.getD p undef = .pointer (some ⟨g, 0, none⟩)) (hb : Bl w g cs t) (hu : P.underlying ty = some d) (hd : d.isRow = true) (hi : (P.info? ty).map (·.size) = some cs.length)
    (hdf : a.defers = []) (hR : R (.returned (.agg cs.toArray)) w) : bodyPost P fn R .ret a w :=
  bodyPost_ret (results_cell_row hres a.tmps w g t cs.toArray (0, 0) d hp hb hu (by cases d <;> simp_all) (by rw [hi]; simp)) hdf hR

/-- 'copy(d, x)': d a stretch of the block g, x any slice that reads as cells. -/
theorem run_copy_but {P : Program} (w : World) (dT sT ty elem : TypeId) (hu : P.underlying dT = some (.slice elem)) (hsz : (P.info? elem).map (·.size) = some 1)
    (g off dLen dCap : Nat) (B' : Nat) (A : Option Addr) (m c : Nat) (xs : List Value) (hr : Sl w B' A m xs) (cur : List Value) (t : TypeId) (hg : Bl w g cur t)
    (hfit : off + dLen ≤ cur.length) (h1 : ∀ v ∈ xs, v.oneCell' = true) :
    ∃ w', (Builtin.copy_ #[dT, sT] ty #[.slice (some ⟨g, off, none⟩) dLen dCap, .slice A m c]).run P w = .ok (.int .i64 (Nat.min m dLen : Nat)) w' ∧
      Bl w' g (splice cur off (xs.take dLen)) t ∧ w.grownBy w' (some g) := by
  have hlen : (xs.take dLen).length = Nat.min m dLen := by rw [List.length_take, hr.1, Nat.min_comm]
  by_cases h0 : Nat.min m dLen = 0
  · have hr0 := run_copy_none (P := P) w dT sT ty elem (some ⟨g, off, none⟩) A dLen dCap m c hu hsz h0
    refine ⟨w, by rw [hr0, h0]; rfl, ?_, but_refl w g⟩
    have hx : xs.take dLen = [] := List.eq_nil_of_length_eq_zero (by omega)
    rw [hx]
    simpa [splice] using hg
  · have hm : Nat.min m dLen ≤ m ∧ Nat.min m dLen ≤ dLen := ⟨Nat.min_le_left .., Nat.min_le_right ..⟩
    obtain ⟨ad, rfl, _, hc⟩ := hr.2 (by omega)
    have hr1 := run_copy_row (P := P) w dT sT ty elem g off dLen dCap ad m c cur.toArray t (xs.take dLen) hu hsz hg hlen
      (fun j v hv => hc j v (by
        rcases Nat.lt_or_ge j dLen with h | h
        · rwa [List.getElem?_take_of_lt h] at hv
        · rw [List.getElem?_eq_none (by rw [List.length_take]; omega)] at hv; cases hv)) (by rw [hlen]; simp; omega) (fun v hv => h1 v (List.mem_of_mem_take hv))
    refine ⟨_, by rw [hr1, hlen]; rfl, ?_, ?_⟩
    · have := setRow_heap w g cur.toArray (cur.toArray.toList.take off ++ xs.take dLen ++ cur.toArray.toList.drop (off + Nat.min m dLen)).toArray t (0, 0) hg
      exact (show _ = _ by rw [this]; unfold splice; rw [hlen]; simp)
    · exact ⟨rfl, rfl, rfl, by simp, fun k _ hk => setRow_other w g k _ (fun e => hk (by rw [e]))⟩
/-- A slice that does not lie in the block g. -/
def Off (g n : Nat) (A : Option Addr) : Prop := 0 < n → ∀ ad, A = some ad → ad.block ≠ g
theorem sl_off {w w' : World} {B n g : Nat} {A : Option Addr} {xs : List Value} (h : Sl w B A n xs) (hg : w.grownBy w' (some g)) (hB : B ≤ w.heap.size) (ho : Off g n A) : Sl w' B A n xs :=
  ⟨h.1, fun hn => by
    obtain ⟨ad, e, hb, hc⟩ := h.2 hn
    refine ⟨ad, e, hb, fun j u hu => ?_⟩
    rw [World.cell?_of_block (w := w) (hg.block _ (by rw [add_block]; omega) (fun e2 => ho hn ad e (by rw [add_block] at e2; injection e2)))]
    exact hc j u hu⟩
/-- 'b[k:]'. -/
theorem sl_cut {w : World} {B n k c : Nat} {A : Option Addr} {xs : List Value} (h : Sl w B A n xs) (hk : k ≤ n) (hc : n ≤ c) : Sl w B (if c = k then A else A.map (·.add k)) (n - k) (xs.drop k) := by
  refine ⟨by rw [List.length_drop, h.1], fun hn => ?_⟩
  obtain ⟨ad, rfl, hb, hcell⟩ := h.2 (by omega)
  rw [if_neg (by omega)]
  refine ⟨ad.add k, rfl, by rw [add_block]; exact hb, fun j u hu => ?_⟩
  rw [add_add]
  exact hcell _ u (by rw [← hu, List.getElem?_drop])
theorem off_cut {g n k c : Nat} {A : Option Addr} (h : Off g n A) : Off g (n - k) (if c = k then A else A.map (·.add k)) := by
  intro hn ad e
  split at e
  · exact h (by omega) ad e
  · rcases A with _ | a
    · cases e
    · injection e with e; rw [← e, add_block]; exact h (by omega) a rfl
theorem Sl.off {w : World} {B n g : Nat} {A : Option Addr} {xs : List Value} (h : Sl w B A n xs) (hg : B ≤ g) : Off g n A := by
  intro hn ad e
  obtain ⟨ad', e', hb, _⟩ := h.2 hn
  rw [e] at e'
  injection e' with e'
  subst e'
  omega
theorem run_slice_from {P : Program} (w : World) (t e : TypeId) (ht : P.underlying t = some (.slice e)) (he : (P.info? e).map (·.size) = some 1) (A : Option Addr) (n c k : Nat) (kl : IntKind) (L : Int) (eL : L = k) (hk : k ≤ n) (hc : n ≤ c) (hA : A = none → c = 0) :
    (Instr.slice t (.slice A n c) (some (.int kl L)) none none).run P w = .ok (.slice (if c = k then A else A.map (·.add k)) (n - k) (c - k)) w := by
  subst eL
  cases hq : P.info? e with
  | none => simp [hq] at he
  | some i =>
    have hs : i.size = 1 := by simpa [hq] using he
    rcases A with _ | a
    · obtain rfl := hA rfl
      obtain rfl : n = 0 := by omega
      obtain rfl : k = 0 := by omega
      simp [Instr.slice, run_underlying ht, Instr.sliceBounds, run_sliceBound, sizeOf, typeInfo, hq]
    · simp [Instr.slice, run_underlying ht, Instr.sliceBounds, run_sliceBound, sizeOf, typeInfo, hq, hs, hk]
/-- 'b[k:]' as a step of the walk: where the rest lies stays under one name. -/
theorem wpList_slice_from {P : Program} {ops : Array Oper} {rest : List Oper} {o : Oper} {a : Act} {w : World} {Q : Exit → Act → World → Prop} (hgd : o.guard = none) (t : TypeId) (x lo : Operand) (ho : o.op = .slice t x (some lo) none none)
    (e : TypeId) (ht : P.underlying t = some (.slice e)) (he : (P.info? e).map (·.size) = some 1) (A : Option Addr) (n c k : Nat) (kl : IntKind) (L : Int) (hx : a.eval x = .slice A n c) (hlo : a.eval lo = .int kl L) (eL : L = k) (hk : k ≤ n) (hc : n ≤ c) (hA : A = none → c = 0)
    (h : ∀ A', Hid (A' = if c = k then A else A.map (·.add k)) → wpList P ops Q rest (a.put o.dst (.slice A' (n - k) (c - k))) w) : wpList P ops Q (o :: rest) a w := by
  refine wpList_plain hgd fun K hK => ?_
  have hr := run_slice_from (P := P) w t e ht he A n c k kl L eL hk hc hA
  unfold Oper.wp execOp
  simp only [ho, Option.map_some, Option.map_none, hx, hlo, Instr.sliceAt, Sem.run_bind, run_underlying ht, Result.andThen_ok, hr]
  exact hK _ _ (h _ rfl)
section
variable {P : Program}
theorem wpStill_load_mid {ops : Array Oper} {w : World} {Q : Act → Prop} {a : Act} {o : Oper} {rest : List Oper} (hgd : o.guard = none) (ty : TypeId) (x : Operand) (ho : o.op = .load ty x)
    (b f : Nat) (hx : a.eval x = .pointer (some ⟨b, f, none⟩)) (cs : List Value) (d : TypeDesc) (hc : w.rangeAt b f cs)
    (hu : P.underlying ty = some d) (hd : d.isRow = true) (hi : (P.info? ty).map (·.size) = some cs.length)
    (h : wpStill P ops w Q rest (a.put o.dst (.agg cs.toArray))) : wpStill P ops w Q (o :: rest) a := by
  have hw : Region.wanted o (yielded ops a.tmps) = true := by simp [Region.wanted, hgd]
  unfold wpStill
  rw [if_pos hw]
  unfold Oper.still execOp
  simp only [ho, hx, Instr.loadAt, Instr.sureAddr, Sem.run_bind, Sem.run_pure, Result.andThen_ok, run_loadVar_mid w b f ty cs d hc hu hd hi, Oper.stillUpon_value]
  exact h
end

/-- A load of many cells as a step of a region that draws its order. -/
theorem step_load_mid {P : Program} {ops : Array Oper} {o : Oper} {a : Act} {w : World} {K : Act → World → Prop} {Q : Exit → Act → World → Prop} {E : Prop} (hgd : o.guard = none) (ty : TypeId) (x : Operand) (ho : o.op = .load ty x)
    (b f : Nat) (hx : a.eval x = .pointer (some ⟨b, f, none⟩)) (cs : List Value) (d : TypeDesc) (hc : w.rangeAt b f cs)
    (hu : P.underlying ty = some d) (hd : d.isRow = true) (hi : (P.info? ty).map (·.size) = some cs.length)
    (hK : K (a.put o.dst (.agg cs.toArray)) w) : if Region.wanted o (yielded ops a.tmps) = true then Oper.wp P o a w K Q else E := by
  have hw : Region.wanted o (yielded ops a.tmps) = true := by simp [Region.wanted, hgd]
  rw [if_pos hw]
  exact wp_load_mid ty x ho b f hx cs d hc hu hd hi hK
theorem step_store_mid {P : Program} {ops : Array Oper} {o : Oper} {a : Act} {w : World} {K : Act → World → Prop} {Q : Exit → Act → World → Prop} {E : Prop} (hgd : o.guard = none) (ty : TypeId) (x y : Operand) (ho : o.op = .store ty x y)
    (b f : Nat) (cells : Array Value) (hx : a.eval x = .pointer (some ⟨b, f, none⟩)) (hy : a.eval y = .agg cells)
    (ht : w.there b f cells.size) (hi : (P.info? ty).map (·.size) = some cells.size) (h1 : cells.all (·.oneCell') = true)
    (hK : K (a.put o.dst undef) (w.setCells b f cells.toList)) : if Region.wanted o (yielded ops a.tmps) = true then Oper.wp P o a w K Q else E := by
  have hw : Region.wanted o (yielded ops a.tmps) = true := by simp [Region.wanted, hgd]
  rw [if_pos hw]
  exact wp_store_mid ty x y ho b f cells hx hy ht hi h1 hK

/-- 'x[i]' of an array that is a value, its elements integers. -/
theorem run_index_agg {P : Program} (w : World) (t e : TypeId) (n : Nat) (ki kx : IntKind) (ht : P.underlying t = some (.array n e)) (he : P.underlying e = some (.int kx)) (hs : (P.info? e).map (·.size) = some 1) (cs : List Value) (i : Int) (j : Nat) (v : Value) (ei : i = j) (hj : j < n) (hv : cs[j]? = some v) :
    (Instr.index t (.agg cs.toArray) (.int ki i)).run P w = .ok v w := by
  subst ei
  cases hq : P.info? e with
  | none => simp [hq] at hs
  | some ii =>
    have hsz : ii.size = 1 := by simpa [hq] using hs
    have hagg : (isAgg e).run P w = .ok false w := by
      unfold isAgg
      rw [Sem.run_bind, run_underlying he w]
      rfl
    simp [Instr.index, asIntOf, run_underlying ht, hj, part, hagg, sizeOf, typeInfo, hq, hsz, hv]
theorem own_off {w : World} {base g : Nat} {e : TypeId} {A : Option Addr} {n c : Nat} {xs : List Value} (h : w.ownsRow base e 1 (.slice A n c) n xs) (hg : g < base) : Off g n A := by
  intro _ ad e1
  subst e1
  rcases h.2 with ⟨h, _⟩ | ⟨k, cap, cur, hv, hb, _⟩
  · injection h with h; cases h
  · injection hv with h1
    injection h1 with h1
    subst h1
    intro e2
    simp only at e2
    omega
theorem own_cap {w : World} {base : Nat} {e : TypeId} {A : Option Addr} {n c : Nat} {xs : List Value} (h : w.ownsRow base e 1 (.slice A n c) n xs) : n ≤ c := by
  rcases h.2 with ⟨h, h0⟩ | ⟨k, cap, cur, hv, _, _, hc, _⟩
  · omega
  · injection hv with _ _ h3
    subst h3
    exact hc

theorem run_slice_lh {P : Program} (w : World) (t e : TypeId) (ht : P.underlying t = some (.slice e)) (he : (P.info? e).map (·.size) = some 1) (A : Option Addr) (n c l h : Nat) (kl kh : IntKind) (L H : Int) (eL : L = l) (eH : H = h) (h1 : l ≤ h) (h2 : h ≤ c) (hA : A = none → c = 0) :
    (Instr.slice t (.slice A n c) (some (.int kl L)) (some (.int kh H)) none).run P w = .ok (.slice (if c = l then A else A.map (·.add l)) (h - l) (c - l)) w := by
  subst eL; subst eH
  cases hq : P.info? e with
  | none => simp [hq] at he
  | some i =>
    have hs : i.size = 1 := by simpa [hq] using he
    rcases A with _ | a
    · obtain rfl := hA rfl
      obtain rfl : h = 0 := by omega
      obtain rfl : l = 0 := by omega
      simp [Instr.slice, run_underlying ht, Instr.sliceBounds, run_sliceBound, sizeOf, typeInfo, hq]
    · simp [Instr.slice, run_underlying ht, Instr.sliceBounds, run_sliceBound, sizeOf, typeInfo, hq, hs, h1, h2]
/-- 'b[l:h]' as a step of the walk. -/
theorem wpList_slice_lh {P : Program} {ops : Array Oper} {rest : List Oper} {o : Oper} {a : Act} {w : World} {Q : Exit → Act → World → Prop} (hgd : o.guard = none) (t : TypeId) (x lo hi : Operand) (ho : o.op = .slice t x (some lo) (some hi) none)
    (e : TypeId) (ht : P.underlying t = some (.slice e)) (he : (P.info? e).map (·.size) = some 1) (A : Option Addr) (n c l h : Nat) (kl kh : IntKind) (L H : Int) (hx : a.eval x = .slice A n c) (hlo : a.eval lo = .int kl L) (hhi : a.eval hi = .int kh H) (eL : L = l) (eH : H = h) (h1 : l ≤ h) (h2 : h ≤ c) (hA : A = none → c = 0)
    (hk : ∀ A', Hid (A' = if c = l then A else A.map (·.add l)) → wpList P ops Q rest (a.put o.dst (.slice A' (h - l) (c - l))) w) : wpList P ops Q (o :: rest) a w := by
  refine wpList_plain hgd fun K hK => ?_
  have hr := run_slice_lh (P := P) w t e ht he A n c l h kl kh L H eL eH h1 h2 hA
  unfold Oper.wp execOp
  simp only [ho, Option.map_some, Option.map_none, hx, hlo, hhi, Instr.sliceAt, Sem.run_bind, run_underlying ht, Result.andThen_ok, hr]
  exact hK _ _ (hk _ rfl)
theorem sl_mid {w : World} {B n l h c : Nat} {A : Option Addr} {xs : List Value} (hs : Sl w B A n xs) (h1 : l ≤ h) (h2 : h ≤ n) (hc : n ≤ c) : Sl w B (if c = l then A else A.map (·.add l)) (h - l) ((xs.drop l).take (h - l)) := by
  have k1 := sl_cut (k := l) hs (by omega) hc
  refine ⟨by rw [List.length_take, k1.1]; omega, fun hn => ?_⟩
  obtain ⟨ad, e, hb, hcell⟩ := k1.2 (by omega)
  refine ⟨ad, e, hb, fun j u hu => hcell j u ?_⟩
  rcases Nat.lt_or_ge j (h - l) with hj | hj
  · rwa [List.getElem?_take_of_lt hj] at hu
  · rw [List.getElem?_eq_none (by rw [List.length_take]; omega)] at hu; cases hu

theorem cb_slice (buf : List UInt8) (o n : Nat) : cb ((buf.drop o).take n) = ((cb buf).drop o).take n := by simp [cb]
/-- A quiet callee's contract, the other way round. -/
theorem still_of {P : Program} {f : FuncId} {args : Array Value} {w : World} {v : Value} (h : Calls P f args w fun e w' => e = .returned v ∧ w = w') : Calls P f args w fun e w' => e = .returned v ∧ w' = w := h.mono fun _ _ ⟨a, b⟩ => ⟨a, b.symm⟩
/-- Noughts. -/
def zeros (k : IntKind) (n : Nat) : List Value := List.replicate n (.int k 0)
theorem zeros_len (k : IntKind) (n : Nat) : (zeros k n).length = n := by simp [zeros]
theorem zeros_one (k : IntKind) (n : Nat) : ∀ v ∈ zeros k n, v.oneCell' = true := by intro v hv; rw [List.eq_of_mem_replicate hv]; rfl
theorem made_zeros (k : IntKind) (n : Nat) : (madeCells (Value.int k 0).cells n).toList = zeros k n := by
  have := toList_madeCells_one (.int k 0) n
  simpa [Value.cells, zeros] using this
/-- 'make([]T, l, c)' of one-cell integers. -/
theorem wpList_make_part {P : Program} (w : World) {ops : Array Oper} {rest : List Oper} {o : Oper} {a : Act} {Q : Exit → Act → World → Prop}
    (hg : o.guard = none) (l c : Operand) (t : TypeId) (hop : o.op = Op.makeSlice t l c)
    (base : Nat) (e : TypeId) (i : TypeInfo) (k : IntKind) (h1 : P.underlying t = some (.slice e)) (h2 : P.info? e = some i) (h3 : i.zero = some (.int k 0)) (h4 : i.size = 1)
    (kl kc : IntKind) (L C : Int) (n m : Nat) (hl : a.eval l = .int kl L) (hc : a.eval c = .int kc C) (hL : L = (n : Int)) (hC : C = (m : Int)) (hnm : n ≤ m) (b2 : i.bytes * m ≤ 281474976710656) (b3 : m ≤ maxLen) (b4 : base ≤ w.heap.size)
    (hK : ∀ w', w'.ownsRow base e 1 (.slice (some ⟨w.heap.size, 0, none⟩) n m) n (zeros k n) → w.grownBy w' none → wpList P ops Q rest (a.put o.dst (.slice (some ⟨w.heap.size, 0, none⟩) n m)) w') :
    wpList P ops Q (o :: rest) a w := by
  refine wpList_plain hg fun K hK' => ?_
  subst hL; subst hC
  have b3' := b3
  simp [maxLen] at b3'
  have hb' : (i.bytes : Int) * (m : Int) ≤ 281474976710656 := by
    have h : ((i.bytes * m : Nat) : Int) ≤ 281474976710656 := by omega
    rwa [Int.natCast_mul] at h
  have hr := run_make (P := P) w t e i _ h1 h2 h3 kl kc (n : Int) (m : Int) (by omega) (by omega) hb' (by omega)
  simp only [Int.toNat_natCast, h4, Nat.mul_one] at hr
  unfold Oper.wp
  simp [execOp, hop, hl, hc, hr, Result.andThen]
  refine hK' _ _ (hK _ ⟨by simp [zeros_len], .inr ⟨w.heap.size, m, _, rfl, b4, heap_alloc_new w _, hnm, b3, by rw [size_madeCells, Nat.mul_one], ?_⟩⟩ (World.grownBy_alloc w _ none))
  rw [made_zeros, Nat.mul_one]
  simp [zeros, hnm]
/-- Words as cells. -/
def uc (x : Nat) : Value := .int .u32 (x : Int)
def us (l : List Nat) : List Value := l.map uc
theorem us_len (l : List Nat) : (us l).length = l.length := by simp [us]
theorem us_one (l : List Nat) : ∀ v ∈ us l, v.oneCell' = true := by
  intro u hu
  obtain ⟨b, _, rfl⟩ := List.mem_map.1 hu
  rfl
theorem us_append (a b : List Nat) : us (a ++ b) = us a ++ us b := by simp [us]
theorem us_at {l : List Nat} {j : Nat} (h : j < l.length) : (us l)[j]? = some (.int .u32 (l.getD j 0 : Nat)) := by
  simp [us, uc, List.getElem?_eq_getElem h]
end Go.Proofs.YtfmbilnbbpbpeaaDoor

