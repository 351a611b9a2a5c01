/- A map in memory as a function from keys to values, whatever the values are: made, asked, stored into, deleted from. No function of the program is named here. -/
import Derived.Test.YtkkpdeembndneaaDoorLG
import Derived.Maps.OwnSet
namespace Go.Proofs.YtkkpdeembndneaaDoor
set_option maxRecDepth 100000
open Go Go.RowKit Go.Maps
set_option linter.unusedVariables false
set_option linter.unusedSimpArgs false

/-- An element is read as the value that it is. -/
def heldR (v : Value) : Option (DataW Value × List MemPlace) := some (.held v, [])
/-- What a map has at a key. -/
def heldAt (o : Option Value) (z : DataW Value) : DataW Value := match o with
  | some v => .held v
  | none => z

/-- Block b is a map of at most n entries that has, at each key, what f says. -/
def MapF (w : World) (P : Program) (k : TypeId) (b n : Nat) (f : Lit → Option Value) : Prop :=
  ∃ D : DataW Value, w.ownsMap P k heldR b n D ∧ ∀ kl, WideAt.IsKeyLit kl → Maps.has D kl = (f kl).isSome ∧ ∀ z, D.atKey kl z = heldAt (f kl) z

/-- A function with one place changed. -/
def setF (f : Lit → Option Value) (kl : Lit) (o : Option Value) : Lit → Option Value := fun x => if x.sameKey kl = true then o else f x
theorem sameKey_self {kl : Lit} (h : WideAt.IsKeyLit kl) : kl.sameKey kl = true := by cases kl <;> simp_all [Lit.sameKey, WideAt.IsKeyLit]
theorem setF_same (f : Lit → Option Value) {kl : Lit} (o : Option Value) (h : WideAt.IsKeyLit kl) : setF f kl o kl = o := if_pos (sameKey_self h)
theorem setF_other (f : Lit → Option Value) {kl x : Lit} (o : Option Value) (h : x ≠ kl) : setF f kl o x = f x := if_neg (by rw [Maps.sameKey_ne h]; decide)

section
variable {w w' : World} {P : Program} {k : TypeId} {b n : Nat} {f : Lit → Option Value}
theorem mapF_made (w : World) (P : Program) (k : TypeId) : MapF (w.alloc (.map #[] 0)) P k w.heap.size 0 (fun _ => none) :=
  ⟨_, World.ownsMap_made w P k heldR, fun kl _ => ⟨rfl, fun z => rfl⟩⟩
theorem MapF.lt (h : MapF w P k b n f) : b < w.heap.size := by obtain ⟨D, h1, _⟩ := h; exact h1.lt
theorem MapF.mono (h : MapF w P k b n f) {n' : Nat} (hn : n ≤ n') : MapF w P k b n' f := by obtain ⟨D, h1, h2⟩ := h; exact ⟨D, h1.mono hn, h2⟩
theorem MapF.row {row : Option Nat} (h : MapF w P k b n f) (hg : w.grownBy w' row) (hne : row ≠ some b) : MapF w' P k b n f := by obtain ⟨D, h1, h2⟩ := h; exact ⟨D, h1.kept hg (Ne.symm hne), h2⟩
theorem MapF.keep (h : MapF w P k b n f) (hk : w'.heap[b]? = w.heap[b]?) : MapF w' P k b n f := by
  obtain ⟨D, ⟨es, clock, hb, F, hs, hD⟩, h2⟩ := h
  exact ⟨D, ⟨es, clock, hk.trans hb, F, hs, hD⟩, h2⟩
theorem MapF.below (h : MapF w P k b n f) {B : Nat} (hb : Below B w w') (hB : b < B) : MapF w' P k b n f := h.keep (hb.block b hB)
theorem MapF.next (h : MapF w P k b n f) (hb : Below w.heap.size w w') : MapF w' P k b n f := h.below hb h.lt

theorem heldAt_inj {o : Option Value} {v z : Value} (h : heldR v = some (heldAt o (.held z), [])) : v = o.getD z := by
  unfold heldR at h
  cases o with
  | none => simpa [heldAt] using h
  | some x => simpa [heldAt] using h

/-- 'm[k]'. -/
theorem MapF.look {t e : TypeId} (h : MapF w P k b n f) (K : Keyed P k) (ht : P.underlying t = some (.map k e)) {z : Value} (hz : (zeroValue e).run P w = .ok z w) {key : Value} {kl : Lit} (hkey : keyOf P k key = some kl) :
    (Instr.lookup t (.map (some b)) key false).run P w = .ok ((f kl).getD z) w := by
  obtain ⟨D, h1, h2⟩ := h
  obtain ⟨v, ps, hrun, hv⟩ := h1.lookup K ht hz (zd := .held z) (zp := []) rfl hkey
  rw [(h2 kl (K.key hkey)).2] at hv
  have hp : ps = [] := by unfold heldR at hv; simp at hv; exact hv.2
  subst hp
  rw [hrun, heldAt_inj hv]
/-- 'v, ok := m[k]'. -/
theorem MapF.look_ok {t e : TypeId} (h : MapF w P k b n f) (K : Keyed P k) (ht : P.underlying t = some (.map k e)) {z : Value} (hz : (zeroValue e).run P w = .ok z w) {key : Value} {kl : Lit} (hkey : keyOf P k key = some kl) :
    (Instr.lookup t (.map (some b)) key true).run P w = .ok (.tuple #[(f kl).getD z, .bool (f kl).isSome]) w := by
  obtain ⟨D, h1, h2⟩ := h
  obtain ⟨v, ps, hrun, hv⟩ := h1.look_ok K ht hz (zd := .held z) (zp := []) rfl hkey
  rw [(h2 kl (K.key hkey)).2] at hv
  have hp : ps = [] := by unfold heldR at hv; simp at hv; exact hv.2
  subst hp
  rw [hrun, heldAt_inj hv, (h2 kl (K.key hkey)).1]
/-- 'm[k] = v'. -/
theorem MapF.store {t e : TypeId} (h : MapF w P k b n f) (K : Keyed P k) (ht : P.underlying t = some (.map k e)) (hn : n < maxLen) {key : Value} {kl : Lit} (hkey : keyOf P k key = some kl) (v : Value) :
    ∃ w', (Instr.mapUpdate t (.map (some b)) key v).run P w = .ok () w' ∧ MapF w' P k b (n + 1) (setF f kl (some v)) ∧ w.grownBy w' (some b) := by
  obtain ⟨D, h1, h2⟩ := h
  obtain ⟨w', hrun, h3, h4⟩ := h1.update K ht hn hkey (val := v) (d := .held v) (ps := []) rfl
  refine ⟨w', hrun, ⟨_, h3, fun x hx => ?_⟩, h4⟩
  by_cases hxk : x = kl
  · subst hxk
    rw [setF_same _ _ hx]
    exact ⟨Maps.has_put_same h1.isMap hx _, fun z => Maps.atKey_put_same h1.isMap hx _ z⟩
  · rw [setF_other f _ hxk]
    exact ⟨by rw [Maps.has_put_other hxk]; exact (h2 x hx).1, fun z => by rw [Maps.atKey_put_other hxk]; exact (h2 x hx).2 z⟩
/-- 'delete(m, k)'. -/
theorem MapF.drop {t e : TypeId} (h : MapF w P k b n f) (K : Keyed P k) (ht : P.underlying t = some (.map k e)) {key : Value} {kl : Lit} (hkey : keyOf P k key = some kl) (ty : TypeId) :
    ∃ w', (Builtin.delete_ #[t, k] ty #[.map (some b), key]).run P w = .ok (.tuple #[]) w' ∧ MapF w' P k b n (setF f kl none) ∧ w.grownBy w' (some b) := by
  obtain ⟨D, h1, h2⟩ := h
  obtain ⟨w', hrun, h3, h4⟩ := h1.drop K ht hkey ty
  refine ⟨w', hrun, ⟨_, h3, fun x hx => ?_⟩, h4.grown⟩
  by_cases hxk : x = kl
  · subst hxk
    rw [setF_same _ _ hx]
    exact ⟨Maps.has_del_same, fun z => Maps.atKey_del_same z⟩
  · rw [setF_other f _ hxk]
    exact ⟨by rw [Maps.has_del_other hxk]; exact (h2 x hx).1, fun z => by rw [Maps.atKey_del_other hxk]; exact (h2 x hx).2 z⟩
end

section
variable {P : Program} {ops : Array Oper} {rest : List Oper} {o : Oper} {a : Act} {w : World} {Q : Exit → Act → World → Prop} {k e : TypeId} {b n : Nat} {f : Lit → Option Value}
/-- 'm[k]' as a step that asks the map alone. -/
theorem exec_look (m x : Operand) (t : TypeId) (ho : o.op = .lookup t m x false) (h : MapF w P k b n f) (K : Keyed P k) (ht : P.underlying t = some (.map k e)) {z : Value} (hz : (zeroValue e).run P w = .ok z w) (hm : a.eval m = .map (some b)) {key : Value} {kl : Lit} (hx : a.eval x = key) (hkey : keyOf P k key = some kl) :
    (execOp a.eval o).run P w = .ok (.value ((f kl).getD z)) w := by
  unfold execOp
  simp only [ho, hm, hx, Sem.run_bind, h.look K ht hz hkey, Result.andThen_ok]
  rfl
theorem exec_look_ok (m x : Operand) (t : TypeId) (ho : o.op = .lookup t m x true) (h : MapF w P k b n f) (K : Keyed P k) (ht : P.underlying t = some (.map k e)) {z : Value} (hz : (zeroValue e).run P w = .ok z w) (hm : a.eval m = .map (some b)) {key : Value} {kl : Lit} (hx : a.eval x = key) (hkey : keyOf P k key = some kl) :
    (execOp a.eval o).run P w = .ok (.value (.tuple #[(f kl).getD z, .bool (f kl).isSome])) w := by
  unfold execOp
  simp only [ho, hm, hx, Sem.run_bind, h.look_ok K ht hz hkey, Result.andThen_ok]
  rfl
theorem wpList_look (hgd : o.guard = none) (m x : Operand) (t : TypeId) (ho : o.op = .lookup t m x false) (h : MapF w P k b n f) (K : Keyed P k) (ht : P.underlying t = some (.map k e)) {z : Value} (hz : (zeroValue e).run P w = .ok z w) (hm : a.eval m = .map (some b)) {key : Value} {kl : Lit} (hx : a.eval x = key) (hkey : keyOf P k key = some kl)
    (v : Value) (hv : (f kl).getD z = v) (hK : wpList P ops Q rest (a.put o.dst v) w) : wpList P ops Q (o :: rest) a w := by
  refine wpList_plain hgd fun K' hK' => ?_
  subst hv
  unfold Oper.wp
  rw [exec_look m x t ho h K ht hz hm hx hkey]
  exact hK' _ _ hK
theorem wpList_look_ok (hgd : o.guard = none) (m x : Operand) (t : TypeId) (ho : o.op = .lookup t m x true) (h : MapF w P k b n f) (K : Keyed P k) (ht : P.underlying t = some (.map k e)) {z : Value} (hz : (zeroValue e).run P w = .ok z w) (hm : a.eval m = .map (some b)) {key : Value} {kl : Lit} (hx : a.eval x = key) (hkey : keyOf P k key = some kl)
    (v : Value) (y : Bool) (hv : (f kl).getD z = v) (hy : (f kl).isSome = y) (hK : wpList P ops Q rest (a.put o.dst (.tuple #[v, .bool y])) w) : wpList P ops Q (o :: rest) a w := by
  refine wpList_plain hgd fun K' hK' => ?_
  subst hv; subst hy
  unfold Oper.wp
  rw [exec_look_ok m x t ho h K ht hz hm hx hkey]
  exact hK' _ _ hK
theorem wpList_mapStore (hgd : o.guard = none) (m x v : Operand) (t : TypeId) (ho : o.op = .mapUpdate t m x v) (h : MapF w P k b n f) (K : Keyed P k) (ht : P.underlying t = some (.map k e)) (hn : n < maxLen) (hm : a.eval m = .map (some b)) {key val : Value} {kl : Lit} (hx : a.eval x = key) (hv : a.eval v = val) (hkey : keyOf P k key = some kl)
    (hK : ∀ w', MapF w' P k b (n + 1) (setF f kl (some val)) → w.grownBy w' (some b) → wpList P ops Q rest (a.put o.dst undef) w') : wpList P ops Q (o :: rest) a w := by
  refine wpList_plain hgd fun K' hK' => ?_
  obtain ⟨w', hrun, r1, r2⟩ := h.store K ht hn hkey val
  unfold Oper.wp
  simp [execOp, ho, hm, hx, hv, hrun, Result.andThen]
  exact hK' _ _ (hK w' r1 r2)
/-- 'm[k] = v' as a step of a drawn region. -/
theorem wp_mapStore {K1 : Act → World → Prop} (m x v : Operand) (t : TypeId) (ho : o.op = .mapUpdate t m x v) (h : MapF w P k b n f) (K : Keyed P k) (ht : P.underlying t = some (.map k e)) (hn : n < maxLen) (hm : a.eval m = .map (some b)) {key val : Value} {kl : Lit} (hx : a.eval x = key) (hv : a.eval v = val) (hkey : keyOf P k key = some kl)
    (hK : ∀ w', MapF w' P k b (n + 1) (setF f kl (some val)) → w.grownBy w' (some b) → K1 (a.put o.dst undef) w') : Oper.wp P o a w K1 Q := by
  obtain ⟨w', hrun, r1, r2⟩ := h.store K ht hn hkey val
  unfold Oper.wp
  simp [execOp, ho, hm, hx, hv, hrun, Result.andThen]
  exact hK w' r1 r2
end

end Go.Proofs.YtkkpdeembndneaaDoor
