/- Lists of bytes in a list that is built by append. No function of the program is named here. -/
import Derived.Test.YtigofelbnjjigaaLG
namespace Go.Proofs.Ytigofelbnjjigaa
set_option maxRecDepth 100000
open Go Go.RowKit
set_option linter.unusedVariables false
set_option linter.unusedSimpArgs false

/-- The cells cs are slices of bytes, ls, in memory that is new since base; none of them lies in v's own block. -/
def PartsAt (w : World) (base : Nat) (v : Value) (ls : List (List UInt8)) (cs : List Value) : Prop :=
  ∀ j (h : j < ls.length), ∃ A c, cs[j]? = some (.slice A ls[j].length c) ∧ Sl w w.heap.size A ls[j].length (cb ls[j]) ∧ ls[j].length ≤ c ∧ (A = none → c = 0) ∧ (∀ g, v.ownBlock = some g → Off g ls[j].length A) ∧ ∀ ad, A = some ad → base ≤ ad.block
/-- v is a list, in memory of the call's own, of lists of bytes: its cells are cs. -/
def OwnPartsC (E : TypeId) (w : World) (base : Nat) (v : Value) (ls : List (List UInt8)) (cs : List Value) : Prop :=
  w.ownsRow base E 1 v ls.length cs ∧ PartsAt w base v ls cs
def OwnParts (E : TypeId) (w : World) (base : Nat) (v : Value) (ls : List (List UInt8)) : Prop := ∃ cs, OwnPartsC E w base v ls cs
section
variable {E : TypeId} {w w' : World} {base : Nat} {v : Value} {ls : List (List UInt8)} {cs : List Value}
theorem ownParts_nil (E : TypeId) (w : World) (base : Nat) : OwnParts E w base (.slice none 0 0) [] := ⟨[], World.ownsRow_nil w base E 1, fun j h => absurd h (by simp)⟩
theorem OwnPartsC.next (h : OwnPartsC E w base v ls cs) (hb : Below w.heap.size w w') : OwnPartsC E w' base v ls cs := by
  obtain ⟨h1, h2⟩ := h
  refine ⟨own_below h1 hb, fun j hj => ?_⟩
  obtain ⟨A, c, a1, a2, a3⟩ := h2 j hj
  exact ⟨A, c, a1, a2.nx hb, a3⟩
theorem OwnParts.next (h : OwnParts E w base v ls) (hb : Below w.heap.size w w') : OwnParts E w' base v ls := by
  obtain ⟨cs, h⟩ := h
  exact ⟨cs, h.next hb⟩
theorem OwnParts.down {base' : Nat} (h : OwnParts E w base v ls) (hb : base' ≤ base) : OwnParts E w base' v ls := by
  obtain ⟨cs, h1, h2⟩ := h
  refine ⟨cs, own_down h1 hb, fun j hj => ?_⟩
  obtain ⟨A, c, a1, a2, a3, a4, a5, a6⟩ := h2 j hj
  exact ⟨A, c, a1, a2, a3, a4, a5, fun ad e => Nat.le_trans hb (a6 ad e)⟩
/-- What lies below base may turn. -/
theorem OwnParts.kept (h : OwnParts E w base v ls) (hk : ∀ i, base ≤ i → i < w.heap.size → w'.heap[i]? = w.heap[i]?) (hs : w.heap.size ≤ w'.heap.size) : OwnParts E w' base v ls := by
  obtain ⟨cs, h1, h2⟩ := h
  refine ⟨cs, own_keep h1 (fun g hg => hk g (own_blk h1 hg) (own_lt h1 hg)), fun j hj => ?_⟩
  obtain ⟨A, c, a1, a2, a3, a4, a5, a6⟩ := h2 j hj
  refine ⟨A, c, a1, ⟨a2.1, fun hn => ?_⟩, a3, a4, a5, a6⟩
  obtain ⟨ad, e, hlt, hc⟩ := a2.2 hn
  refine ⟨ad, e, Nat.lt_of_lt_of_le hlt hs, fun j u hu => ?_⟩
  rw [World.cell?_of_block (w := w) (hk _ (by rw [add_block]; exact a6 ad e) (by rw [add_block]; exact hlt))]
  exact hc j u hu
theorem OwnParts.form (h : OwnParts E w base v ls) : ∃ A c, v = .slice A ls.length c := by
  obtain ⟨cs, h1, _⟩ := h
  exact own_form h1
/-- One more, behind 'append(v, x)': what append tells is happ, hg, hat. -/
theorem OwnPartsC.push (h : OwnPartsC E w base v ls cs) {l : List UInt8} {n : Nat} (hn : n = l.length) {A : Option Addr} {c : Nat} (hs : Sl w w.heap.size A n (cb l)) (hc : n ≤ c) (hA : A = none → c = 0) (ho : ∀ g, v.ownBlock = some g → Off g n A) (hbase : ∀ ad, A = some ad → base ≤ ad.block)
    {v' : Value} (happ : w'.ownsRow base E 1 v' (ls.length + 1) (cs ++ [.slice A n c])) (hg : w.grownBy w' v.ownBlock) (hat : v'.ownBlock = v.ownBlock ∨ v'.ownBlock = some w.heap.size) : OwnParts E w' base v' (ls ++ [l]) := by
  subst hn
  obtain ⟨h1, h2⟩ := h
  have hlen : cs.length = ls.length := by have := h1.1; omega
  have mv : ∀ {B : Option Addr} {k : Nat} {xs : List Value}, Sl w w.heap.size B k xs → (∀ g, v.ownBlock = some g → Off g k B) → Sl w' w'.heap.size B k xs ∧ ∀ g, v'.ownBlock = some g → Off g k B := by
    intro B k xs hb hoff
    refine ⟨sl_row hb hg (fun hk ad e e2 => hoff _ e2 hk ad e rfl), fun g hgv => ?_⟩
    rcases hat with e | e
    · exact hoff g (by rw [← e]; exact hgv)
    · rw [e] at hgv
      have := Option.some.inj hgv
      subst this
      exact hb.off (Nat.le_refl _)
  refine ⟨cs ++ [.slice A l.length c], by rw [List.length_append]; exact happ, fun j hj => ?_⟩
  by_cases hjl : j < ls.length
  · obtain ⟨B, d, a1, a2, a3, a4, a5, a6⟩ := h2 j hjl
    rw [List.getElem?_append_left (by omega)]
    simp only [List.getElem_append_left hjl]
    exact ⟨B, d, a1, (mv a2 a5).1, a3, a4, (mv a2 a5).2, a6⟩
  · have e : j = ls.length := by simp at hj; omega
    subst e
    rw [List.getElem?_append_right (by omega), hlen]
    simp only [Nat.sub_self, List.getElem_append_right (Nat.le_refl _)]
    exact ⟨A, c, rfl, (mv hs ho).1, hc, hA, (mv hs ho).2, hbase⟩
/-- What a call that began behind base has made lies in no block of the list's own. -/
theorem OwnPartsC.off_new (h : OwnPartsC E w base v ls cs) {A : Option Addr} {n : Nat} (ha : ∀ ad, A = some ad → w.heap.size ≤ ad.block) : ∀ g, v.ownBlock = some g → Off g n A := by
  intro g hg hn ad e
  have h1 := own_lt h.1 hg
  have h2 := ha ad e
  omega
/-- The j-th of them. -/
theorem OwnParts.at_ {A : Option Addr} {n c : Nat} (h : OwnParts E w base (.slice A n c) ls) {j : Nat} (hj : j < ls.length) : ∃ g B d, A = some ⟨g, 0, none⟩ ∧ w.cell? ⟨g, j, none⟩ = some (.slice B ls[j].length d) ∧ Sl w w.heap.size B ls[j].length (cb ls[j]) ∧ ls[j].length ≤ d ∧ (B = none → d = 0) := by
  obtain ⟨cs, h1, h2⟩ := h
  obtain ⟨B, d, a1, a2, a3, a4, _, _⟩ := h2 j hj
  obtain ⟨A', c', e'⟩ := own_form h1
  injection e' with eA en ec
  subst eA; subst en; subst ec
  obtain ⟨g, c2, e, _, _⟩ := h1.form (by omega)
  injection e with e _ _
  subst e
  refine ⟨g, B, d, rfl, ?_, a2, a3, a4⟩
  rw [h1.cellAt j (by omega), a1]
end

/-- 'make([]T, 0, m)' of one-cell elements. -/
theorem wpList_make_none {P : Program} (w : World) {ops : Array Oper} {rest : List Oper} {o : Oper} {a : Act} {Q : Exit → Act → World → Prop}
    (hg : o.guard = none) (l c : Operand) (t : TypeId) (hop : o.op = Op.makeSlice t l c)
    (base : Nat) (e : TypeId) (i : TypeInfo) (z : Value) (h1 : P.underlying t = some (.slice e)) (h2 : P.info? e = some i) (h3 : i.zero = some z) (h4 : i.size = 1) (h5 : z.cells.size = 1)
    (kl kc : IntKind) (L C : Int) (m : Nat) (hl : a.eval l = .int kl L) (hc : a.eval c = .int kc C) (hL : L = 0) (hC : C = (m : Int)) (b2 : i.bytes * m ≤ 281474976710656) (b3 : m ≤ maxLen) (b4 : base ≤ w.heap.size)
    (hK : ∀ w', w'.ownsRow base e 1 (.slice (some ⟨w.heap.size, 0, none⟩) 0 m) 0 [] → w.grownBy w' none → wpList P ops Q rest (a.put o.dst (.slice (some ⟨w.heap.size, 0, none⟩) 0 m)) w') :
    wpList P ops Q (o :: rest) a w := by
  refine wpList_plain hg fun K hK' => ?_
  subst hL; subst hC
  have b3' := b3
  simp [maxLen] at b3'
  have hb' : (i.bytes : Int) * (m : Int) ≤ 281474976710656 := by
    have h : ((i.bytes * m : Nat) : Int) ≤ 281474976710656 := by omega
    rwa [Int.natCast_mul] at h
  have hr := run_make (P := P) w t e i _ h1 h2 h3 kl kc 0 (m : Int) (by omega) (by omega) hb' (by omega)
  simp only [Int.toNat_natCast, h4, Nat.mul_one] at hr
  unfold Oper.wp
  simp [execOp, hop, hl, hc, hr, Result.andThen]
  exact hK' _ _ (hK _ ⟨rfl, .inr ⟨w.heap.size, m, _, rfl, b4, heap_alloc_new w _, Nat.zero_le _, b3, by rw [size_madeCells, Nat.mul_one], by simp⟩⟩ (World.grownBy_alloc w _ none))

theorem results_tmp_cell_tmp {fn : Func} {t p u : Tmp} {ty : TypeId} (h : fn.results = #[.tmp t, .cell p ty, .tmp u]) (tmps : Array Value) (P : Program) (w : World) :
    (results fn tmps).run P w =
      ((asAddr (tmps.getD p undef)).run P w).andThen fun a w₁ => ((loadVar ty a).run P w₁).andThen fun x w₂ => .ok (.tuple #[tmps.getD t undef, x, tmps.getD u undef]) w₂ := by
  simp only [results, h]
  simp [Sem.run_bind, Result.andThen]

theorem ret_tmp_row_tmp {P : Program} {fn : Func} {R : Ending → World → Prop} {a : Act} {w : World} {t0 p u : Tmp} {ty : TypeId} {g : Nat} {cs : List Value} {t : TypeId} {d : TypeDesc} (hres : fn.results = #[.tmp t0, .cell p ty, .tmp u])
    (hp : a.tmps.getD p undef = .pointer (some ⟨g, 0, none⟩)) (hb : Bl w g cs t) (hu : P.underlying ty = some d) (hd : d.isRow = true) (hi : (P.info? ty).map (·.size) = some cs.length)
    (hdf : a.defers = []) (hR : R (.returned (.tuple #[a.tmps.getD t0 undef, .agg cs.toArray, a.tmps.getD u undef])) w) : bodyPost P fn R .ret a w := by
  refine bodyPost_ret ?_ hdf hR
  rw [results_tmp_cell_tmp hres, hp]
  simp only [asAddr, Sem.run_pure, Result.andThen_ok]
  rw [run_loadVar_mid w g 0 ty cs d hb.whole hu hd hi]
  rfl

end Go.Proofs.Ytigofelbnjjigaa
