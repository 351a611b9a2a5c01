/- A region that draws its order: what only reads is taken first, up to the first operation K that turns the world; behind it the base's own walk of all orders. A scope that is jumped back in. No program is named here. -/
import Derived.Test.YtfmbehjllkmfiaaLA
import Derived.OrdersHeld
import Derived.ScopeJumps
import Derived.WalkMore
import Derived.Test.YtfmbehjllkmfiaaLW
import Derived.Laws.ResultCell
import Derived.Laws.Cover1
namespace Go.Proofs.Ytfmbehjllkmfiaa
set_option maxRecDepth 100000
open Go Go.RowKit

section
variable {P : Program} {ops : Array Oper} {Q : Exit → Act → World → Prop} {md : Region.Mode} {S : World → Prop} {K : Nat}

/-- Whatever order is picked from here on; S holds till the operation K has come up; from there on nothing is asked. -/
def wpAnyK (P : Program) (md : Region.Mode) (ops : Array Oper) (Q : Exit → Act → World → Prop) (S : World → Prop) (K : Nat) : Nat → Array Bool → Act → World → Prop
  | 0, listed, a, w => Region.ready md ops listed = [] ∧ Q .normal a w
  | fuel + 1, listed, a, w =>
    (Region.ready md ops listed = [] → Q .normal a w) ∧
    ∀ i ∈ Region.ready md ops listed, wpOp P ops Q i (fun a' w' => if i = K then wpAny P md ops Q fuel (listed.setIfInBounds i true) a' w' else S w' ∧ wpAnyK P md ops Q S K fuel (listed.setIfInBounds i true) a' w') a w

theorem wpAny_of_K : ∀ (fuel : Nat) (listed : Array Bool) (a : Act) (w : World), wpAnyK P md ops Q S K fuel listed a w → wpAny P md ops Q fuel listed a w
  | 0, _, _, _, h => h
  | fuel + 1, _, _, _, h => ⟨h.1, fun i hi => wpOp_mono (fun a' w' h' => by
      split at h'
      · exact h'
      · exact wpAny_of_K fuel _ a' w' h'.2) (h.2 i hi)⟩

theorem wpAnyK_first {i : Nat} {oi oK : Oper} {v : Value} (hi : ops[i]? = some oi) (hsel : ∀ (j : Nat) (o : Oper) cs b, ops[j]? = some o → o.op ≠ .select cs b)
    (hQ : ∀ c a w, Q (.panic c) (a.put oi.dst v) w → Q (.panic c) a w) (hoK : ops[K]? = some oK) (hKi : ∃ e ∈ oK.after, Region.binds md e = true ∧ e.on = i) (hne : i ≠ K) :
    ∀ (fuel : Nat) (listed : Array Bool) (a : Act) (w : World),
      (∀ j oj, ops[j]? = some oj → j ≠ i → listed.getD j true = false → (∀ e ∈ oj.after, Region.binds md e = true → e.on ≠ i) → oi.apart ops oj = true) →
      i ∈ Region.ready md ops listed → YieldsIf P ops S oi v a → S w →
      wpAnyK P md ops Q S K fuel (listed.setIfInBounds i true) (a.put oi.dst v) w → wpAnyK P md ops Q S K (fuel + 1) listed a w := by
  intro fuel
  induction fuel with
  | zero =>
    intro listed a w _ hr hy hS H
    refine ⟨fun h => (by rw [h] at hr; cases hr), fun j hj => ?_⟩
    by_cases hji : j = i
    · subst hji
      exact hy.wpOp hi hS (by rw [if_neg hne]; exact ⟨hS, H⟩)
    · have := ready_mono hj hji
      rw [H.1] at this
      cases this
  | succ fuel ih =>
    intro listed a w hfree hr hy hS H
    refine ⟨fun h => (by rw [h] at hr; cases hr), fun j hj => ?_⟩
    by_cases hji : j = i
    · subst hji
      exact hy.wpOp hi hS (by rw [if_neg hne]; exact ⟨hS, H⟩)
    · have h1 := H.2 j (ready_mono hj hji)
      obtain ⟨hjun, oj, hoj, hall⟩ := mem_ready.1 hj
      have hnot : ∀ e ∈ oj.after, Region.binds md e = true → e.on ≠ i := fun e he hb heq => by
        have h1 := hall e he hb
        have h0 := (mem_ready.1 hr).1
        rw [heq] at h1
        rcases Nat.lt_or_ge i listed.size with h' | h'
        · simp [h'] at h0 h1; rw [h0] at h1; cases h1
        · simp [Array.getElem?_eq_none h'] at h1
      have hjK : j ≠ K := by
        rintro rfl
        rw [hoK] at hoj
        injection hoj with hoj
        subst hoj
        obtain ⟨e, he, hb, heq⟩ := hKi
        exact hnot e he hb heq
      simp only [if_neg hjK] at h1 ⊢
      have h2 := wpOp_putIf hoj (hfree j oj hoj hji hjun hnot) (fun cs b => hsel i oi cs b hi) (fun cs b => hsel j oj cs b hoj) hQ hy h1
      have hfree' : ∀ k ok, ops[k]? = some ok → k ≠ i → (listed.setIfInBounds j true).getD k true = false →
          (∀ e ∈ ok.after, Region.binds md e = true → e.on ≠ i) → oi.apart ops ok = true := fun k ok hk hki hun hno => by
        refine hfree k ok hk hki ?_ hno
        by_cases hjk : j = k
        · subst hjk; exact hjun
        · rw [getD_set_ne true hjk] at hun; exact hun
      refine wpOp_mono (fun a' w' h3 => ⟨h3.2.1, ih (listed.setIfInBounds j true) a' w' hfree' (ready_mono hr (Ne.symm hji)) h3.1 h3.2.1 ?_⟩) h2
      rw [Array.setIfInBounds_comm _ _ hji]
      exact h3.2.2

theorem wpAnyK_first0 {i : Nat} {oi : Oper} {v : Value} (hi : ops[i]? = some oi) (hsel : ∀ (j : Nat) (o : Oper) cs b, ops[j]? = some o → o.op ≠ .select cs b)
    (hQ : ∀ c a w, Q (.panic c) (a.put oi.dst v) w → Q (.panic c) a w) (hne : i ≠ K) :
    ∀ (fuel : Nat) (listed : Array Bool) (a : Act) (w : World),
      (∀ j oj, ops[j]? = some oj → j ≠ i → listed.getD j true = false → (∀ e ∈ oj.after, Region.binds md e = true → e.on ≠ i) → oi.apart ops oj = true) →
      i ∈ Region.ready md ops listed → Yields P ops oi v a → S w →
      wpAnyK P md ops Q S K fuel (listed.setIfInBounds i true) (a.put oi.dst v) w → wpAnyK P md ops Q S K (fuel + 1) listed a w := by
  intro fuel
  induction fuel with
  | zero =>
    intro listed a w _ hr hy hS H
    refine ⟨fun h => (by rw [h] at hr; cases hr), fun j hj => ?_⟩
    by_cases hji : j = i
    · subst hji
      exact hy.wpOp hi (by rw [if_neg hne]; exact ⟨hS, H⟩)
    · have := ready_mono hj hji
      rw [H.1] at this
      cases this
  | succ fuel ih =>
    intro listed a w hfree hr hy hS H
    refine ⟨fun h => (by rw [h] at hr; cases hr), fun j hj => ?_⟩
    by_cases hji : j = i
    · subst hji
      exact hy.wpOp hi (by rw [if_neg hne]; exact ⟨hS, H⟩)
    · have h1 := H.2 j (ready_mono hj hji)
      obtain ⟨hjun, oj, hoj, hall⟩ := mem_ready.1 hj
      have hnot : ∀ e ∈ oj.after, Region.binds md e = true → e.on ≠ i := fun e he hb heq => by
        have h1 := hall e he hb
        have h0 := (mem_ready.1 hr).1
        rw [heq] at h1
        rcases Nat.lt_or_ge i listed.size with h' | h'
        · simp [h'] at h0 h1; rw [h0] at h1; cases h1
        · simp [Array.getElem?_eq_none h'] at h1
      have h2 := wpOp_put hoj (hfree j oj hoj hji hjun hnot) (fun cs b => hsel i oi cs b hi) (fun cs b => hsel j oj cs b hoj) hQ hy h1
      have hfree' : ∀ k ok, ops[k]? = some ok → k ≠ i → (listed.setIfInBounds j true).getD k true = false →
          (∀ e ∈ ok.after, Region.binds md e = true → e.on ≠ i) → oi.apart ops ok = true := fun k ok hk hki hun hno => by
        refine hfree k ok hk hki ?_ hno
        by_cases hjk : j = k
        · subst hjk; exact hjun
        · rw [getD_set_ne true hjk] at hun; exact hun
      refine wpOp_mono (fun a' w' h3 => ?_) h2
      by_cases hjK : j = K
      · rw [if_pos hjK]
        rw [if_pos hjK] at h3
        refine wpAny_first hi hsel hQ fuel _ a' w' hfree' (ready_mono hr (Ne.symm hji)) h3.1 ?_
        rw [Array.setIfInBounds_comm _ _ hji]
        exact h3.2
      · rw [if_neg hjK]
        rw [if_neg hjK] at h3
        refine ⟨h3.2.1, ih (listed.setIfInBounds j true) a' w' hfree' (ready_mono hr (Ne.symm hji)) h3.1 h3.2.1 ?_⟩
        rw [Array.setIfInBounds_comm _ _ hji]
        exact h3.2.2

theorem wpAnyK_take0 {i : Nat} {oi : Oper} {v : Value} {fuel : Nat} {listed : Array Bool} {a : Act} {w : World} (hi : ops[i]? = some oi)
    (hs : Region.noSelect ops = true) (hf : Region.free md ops listed i = true) (hr : (Region.ready md ops listed).contains i = true) (hne : (i != K) = true)
    (hQ : ∀ c a w, Q (.panic c) (a.put oi.dst v) w → Q (.panic c) a w) (hy : Yields P ops oi v a) (hS : S w)
    (h : wpAnyK P md ops Q S K fuel (listed.setIfInBounds i true) (a.put oi.dst v) w) : wpAnyK P md ops Q S K (fuel + 1) listed a w :=
  wpAnyK_first0 hi (Region.noSelect_spec hs) hQ (by simpa using hne) fuel listed a w (Region.free_spec hi hf) (by simpa using hr) hy hS h

/-- Does the operation K wait for i? -/
def waitsB (md : Region.Mode) (ops : Array Oper) (K i : Nat) : Bool := i != K && match ops[K]? with
  | some o => o.after.any fun e => Region.binds md e && e.on == i
  | none => false

theorem wpAnyK_take {i : Nat} {oi : Oper} {v : Value} {fuel : Nat} {listed : Array Bool} {a : Act} {w : World} (hi : ops[i]? = some oi)
    (hs : Region.noSelect ops = true) (hf : Region.free md ops listed i = true) (hr : (Region.ready md ops listed).contains i = true) (hw : waitsB md ops K i = true)
    (hQ : ∀ c a w, Q (.panic c) (a.put oi.dst v) w → Q (.panic c) a w) (hy : YieldsIf P ops S oi v a) (hS : S w)
    (h : wpAnyK P md ops Q S K fuel (listed.setIfInBounds i true) (a.put oi.dst v) w) : wpAnyK P md ops Q S K (fuel + 1) listed a w := by
  unfold waitsB at hw
  rw [Bool.and_eq_true] at hw
  cases hoK : ops[K]? with
  | none => rw [hoK] at hw; exact absurd hw.2 (by simp)
  | some oK =>
    rw [hoK] at hw
    obtain ⟨e, he, hb⟩ := Array.any_eq_true'.1 hw.2
    simp only [Bool.and_eq_true, beq_iff_eq] at hb
    exact wpAnyK_first hi (Region.noSelect_spec hs) hQ hoK ⟨e, he, hb⟩ (by simpa using hw.1) fuel listed a w (Region.free_spec hi hf) (by simpa using hr) hy hS h

/-- One operation alone may come up, and it is not K. -/
theorem wpAnyK_one {i : Nat} {oi : Oper} {fuel : Nat} {listed : Array Bool} {a : Act} {w : World} (hr : Region.ready md ops listed = [i]) (hi : ops[i]? = some oi) (hne : i ≠ K) (hw : Region.wanted oi (yielded ops a.tmps) = true)
    (h : ∀ K' : Act → World → Prop, Hid (∀ a' w', S w' → wpAnyK P md ops Q S K fuel (listed.setIfInBounds i true) a' w' → K' a' w') → Oper.wp P oi a w K' Q) : wpAnyK P md ops Q S K (fuel + 1) listed a w := by
  refine ⟨fun h0 => (by rw [hr] at h0; cases h0), fun j hj => ?_⟩
  rw [hr, List.mem_singleton] at hj
  subst hj
  unfold wpOp
  simp only [hi, hw, if_true]
  refine .inl (h _ (fun a' w' h1 h2 => ?_))
  rw [if_neg hne]
  exact ⟨h1, h2⟩

/-- K comes up. -/
theorem wpAnyK_K {oi : Oper} {fuel : Nat} {listed : Array Bool} {a : Act} {w : World} (hr : Region.ready md ops listed = [K]) (hi : ops[K]? = some oi) (hw : Region.wanted oi (yielded ops a.tmps) = true)
    (h : ∀ K' : Act → World → Prop, Hid (∀ a' w', wpAny P md ops Q fuel (listed.setIfInBounds K true) a' w' → K' a' w') → Oper.wp P oi a w K' Q) : wpAnyK P md ops Q S K (fuel + 1) listed a w := by
  refine ⟨fun h0 => (by rw [hr] at h0; cases h0), fun j hj => ?_⟩
  rw [hr, List.mem_singleton] at hj
  subst hj
  unfold wpOp
  simp only [hi, hw, if_true]
  exact .inl (h _ (fun a' w' h1 => h1))

/-- One operation alone may come up, behind K. -/
theorem wpAny_one {i : Nat} {oi : Oper} {fuel : Nat} {listed : Array Bool} {a : Act} {w : World} (hr : Region.ready md ops listed = [i]) (hi : ops[i]? = some oi) (hw : Region.wanted oi (yielded ops a.tmps) = true)
    (h : ∀ K' : Act → World → Prop, Hid (∀ a' w', wpAny P md ops Q fuel (listed.setIfInBounds i true) a' w' → K' a' w') → Oper.wp P oi a w K' Q) : wpAny P md ops Q (fuel + 1) listed a w := by
  refine ⟨fun h0 => (by rw [hr] at h0; cases h0), fun j hj => ?_⟩
  rw [hr, List.mem_singleton] at hj
  subst hj
  unfold wpOp
  simp only [hi, hw, if_true]
  exact .inl (h _ (fun a' w' h1 => h1))

/-- The beginning. -/
theorem wp_region_K {id : Nat} {a : Act} {w : World} (K : Nat) (S : World → Prop) (hm : P.follows .mixedOrders = true) (hS : S w.drew)
    (h : S w.drew → wpAnyK P .any ops Q S K ops.size (Array.replicate ops.size false) a w.drew) : (Code.region id ops true).wp P Q a w :=
  wp_region_any hm (wpAny_of_K _ _ _ _ (h hS))

/-- A scope that is jumped back in: what holds at the label, at the start and at each jump. -/
theorem wp_scope_back {c rest : Code} {a : Act} {w : World} (l : Nat) (J : Act → World → Prop) (μ : Act → World → Nat) (hf : findLabel c l = some (Code.skip.seq rest))
    (first : (∀ a w, J a w → rest.wp P (Exit.jump l J Q) a w) → c.wp P (Exit.jump l J Q) a w)
    (pass : ∀ a w, J a w → rest.wp P (Exit.jump l (fun a' w' => J a' w' ∧ μ a' w' < μ a w) Q) a w) : (Code.scope c).wp P Q a w := by
  refine wp_scope_jumps l J μ hf (first fun a w hJ => ?_) (fun a w hJ => wp_seq (wp_skip (pass a w hJ)))
  intro b k cs
  obtain ⟨e, a', w', hq, harr⟩ := pass a w hJ b k cs
  refine ⟨e, a', w', ?_, harr⟩
  cases e <;> first | exact hq | exact ⟨hq.1, hq.2.1⟩

end
end Go.Proofs.Ytfmbehjllkmfiaa

namespace Go.Proofs.Ytfmbehjllkmfiaa
set_option maxRecDepth 100000
open Go.RowKit
set_option linter.unusedVariables false
set_option linter.unusedSimpArgs false

/-- A parameter of many cells that is put into a variable. -/
theorem wpList_box_agg {P : Program} {ops : Array Oper} {rest : List Oper} {o : Oper} {a : Act} {w : World} {Q : Exit → Act → World → Prop} (hgd : o.guard = none) (ty : TypeId) (x : Operand) (ho : o.op = .box ty x)
    (cs : List Value) (hx : a.eval x = .agg cs.toArray)
    (h : wpList P ops Q rest (a.put o.dst (.pointer (some ⟨w.heap.size, 0, none⟩))) (w.alloc (.cells cs.toArray ty))) : wpList P ops Q (o :: rest) a w := by
  refine wpList_plain hgd fun K hK => ?_
  have hr : (Instr.box ty (.agg cs.toArray)).run P w = .ok (.pointer (some ⟨w.heap.size, 0, none⟩)) (w.alloc (.cells cs.toArray ty)) := by
    simp [Instr.box, newVar, newRow, Value.cells]
  unfold Oper.wp execOp
  simp only [ho, hx, Sem.run_bind, hr, Result.andThen_ok]
  exact hK _ _ h

theorem ret_row_tmp {P : Program} {fn : Func} {R : Ending → World → Prop} {a : Act} {w : World} {p u : Tmp} {ty : TypeId} {g : Nat} {cs : List Value} {t : TypeId} {d : TypeDesc} (hres : fn.results = #[.cell p ty, .tmp u])
    (hp : a.tmps.getD p undef = .pointer (some ⟨g, 0, none⟩)) (hb : Bl w g cs t) (hu : P.underlying ty = some d) (hd : d.isRow = true) (hi : (P.info? ty).map (·.size) = some cs.length)
    (hdf : a.defers = []) (hR : R (.returned (.tuple #[.agg cs.toArray, a.tmps.getD u undef])) w) : bodyPost P fn R .ret a w := by
  refine bodyPost_ret ?_ hdf hR
  rw [results_cell_tmp hres, hp]
  simp only [asAddr, Sem.run_pure, Result.andThen_ok]
  rw [run_loadVar_mid w g 0 ty cs d hb.whole hu hd hi]
  rfl

/-- Words of 64 bits as cells. -/
def wc (x : Nat) : Value := .int .u64 (x : Int)
def wq (l : List Nat) : List Value := l.map wc
theorem wq_len (l : List Nat) : (wq l).length = l.length := by simp [wq]
theorem wq_one (l : List Nat) : ∀ v ∈ wq l, v.oneCell' = true := by
  intro u hu
  obtain ⟨b, _, rfl⟩ := List.mem_map.1 hu
  rfl
theorem wq_append (a b : List Nat) : wq (a ++ b) = wq a ++ wq b := by simp [wq]
theorem wq_at {l : List Nat} {j : Nat} (h : j < l.length) : (wq l)[j]? = some (.int .u64 (l[j] : Nat)) := by
  simp [wq, wc, List.getElem?_eq_getElem h]
theorem wq_set (x : List Nat) (i v : Nat) : (wq x).set i (.int .u64 (v : Int)) = wq (x.set i v) := by simp [wq, List.map_set, wc]
theorem wq_zeros (n : Nat) : wq (List.replicate n 0) = zeros .u64 n := by simp [wq, wc, zeros]

/-- Integers as cells. -/
def ic (x : Nat) : Value := .int .i64 (x : Int)
def is (l : List Nat) : List Value := l.map ic
theorem is_len (l : List Nat) : (is l).length = l.length := by simp [is]
theorem is_one (l : List Nat) : ∀ v ∈ is l, v.oneCell' = true := by
  intro u hu
  obtain ⟨b, _, rfl⟩ := List.mem_map.1 hu
  rfl
theorem is_append (a b : List Nat) : is (a ++ b) = is a ++ is b := by simp [is]
theorem is_at {l : List Nat} {j : Nat} (h : j < l.length) : (is l)[j]? = some (.int .i64 (l[j] : Nat)) := by
  simp [is, ic, List.getElem?_eq_getElem h]
theorem is_set (x : List Nat) (i v : Nat) : (is x).set i (.int .i64 (v : Int)) = is (x.set i v) := by simp [is, List.map_set, ic]
theorem is_zeros (n : Nat) : is (List.replicate n 0) = zeros .i64 n := by simp [is, ic, zeros]
theorem is_take (x : List Nat) (n : Nat) : is (x.take n) = (is x).take n := by simp [is]
theorem is_drop (x : List Nat) (n : Nat) : is (x.drop n) = (is x).drop n := by simp [is]

/-- Two new variables of many cells. -/
theorem two_new (w : World) (S Z : List Value) (T T2 : TypeId) :
    Bl ((w.alloc (.cells S.toArray T)).alloc (.cells Z.toArray T2)) w.heap.size S T ∧
    Bl ((w.alloc (.cells S.toArray T)).alloc (.cells Z.toArray T2)) (w.heap.size + 1) Z T2 ∧
    ((w.alloc (.cells S.toArray T)).alloc (.cells Z.toArray T2)).heap.size = w.heap.size + 2 ∧
    Below w.heap.size w ((w.alloc (.cells S.toArray T)).alloc (.cells Z.toArray T2)) := by
  have e1 : (w.alloc (.cells S.toArray T)).heap.size = w.heap.size + 1 := by simp
  have b2 : Bl ((w.alloc (.cells S.toArray T)).alloc (.cells Z.toArray T2)) (w.heap.size + 1) Z T2 := by rw [← e1]; exact Bl.new _ _ _
  exact ⟨(Bl.new w S T).alloc _, b2, by simp, ((Below.refl _ w).alloc (Nat.le_refl _) _).alloc (by simp) _⟩

/-- Three new variables of many cells. -/
theorem three_new (w : World) (S R Z : List Value) (T T1 T2 : TypeId) :
    Bl (((w.alloc (.cells S.toArray T)).alloc (.cells R.toArray T1)).alloc (.cells Z.toArray T2)) w.heap.size S T ∧
    Bl (((w.alloc (.cells S.toArray T)).alloc (.cells R.toArray T1)).alloc (.cells Z.toArray T2)) (w.heap.size + 1) R T1 ∧
    Bl (((w.alloc (.cells S.toArray T)).alloc (.cells R.toArray T1)).alloc (.cells Z.toArray T2)) (w.heap.size + 2) Z T2 ∧
    (((w.alloc (.cells S.toArray T)).alloc (.cells R.toArray T1)).alloc (.cells Z.toArray T2)).heap.size = w.heap.size + 3 ∧
    Below w.heap.size w (((w.alloc (.cells S.toArray T)).alloc (.cells R.toArray T1)).alloc (.cells Z.toArray T2)) := by
  obtain ⟨b1, b2, hz, hb⟩ := two_new w S R T T1
  have b3 : Bl (((w.alloc (.cells S.toArray T)).alloc (.cells R.toArray T1)).alloc (.cells Z.toArray T2)) (w.heap.size + 2) Z T2 := by rw [← hz]; exact Bl.new _ _ _
  exact ⟨b1.alloc _, b2.alloc _, b3, by simp, hb.alloc (by rw [hz]; omega) _⟩

end Go.Proofs.Ytfmbehjllkmfiaa

namespace Go.Proofs.Ytfmbehjllkmfiaa
set_option maxRecDepth 100000
open Go.RowKit
set_option linter.unusedVariables false
set_option linter.unusedSimpArgs false

/-- Where the bytes of a slice lie: in memory that is new since w, or where another one's lay. -/
def From (w : World) (n : Nat) (A : Option Addr) (n' : Nat) (A' : Option Addr) : Prop := 0 < n' → ∀ ad', A' = some ad' → w.heap.size ≤ ad'.block ∨ (0 < n ∧ ∃ ad, A = some ad ∧ ad.block = ad'.block)

theorem From.refl (w : World) (n : Nat) (A : Option Addr) : From w n A n A := fun hn ad e => .inr ⟨hn, ad, e, rfl⟩

theorem from_new {w : World} {n n' : Nat} {A A' : Option Addr} (h : ∀ ad, A' = some ad → w.heap.size ≤ ad.block) : From w n A n' A' := fun _ ad e => .inl (h ad e)

theorem from_cut (w : World) (n k c : Nat) (A : Option Addr) : From w n A (n - k) (if c = k then A else A.map (·.add k)) := by
  intro hn ad e
  right
  refine ⟨by omega, ?_⟩
  split at e
  · exact ⟨ad, e, rfl⟩
  · rcases A with _ | a
    · cases e
    · injection e with e; exact ⟨a, rfl, by rw [← e, add_block]⟩

theorem From.off {w : World} {n n' g : Nat} {A A' : Option Addr} (h : From w n A n' A') (ho : Off g n A) (hg : g < w.heap.size) : Off g n' A' := by
  intro hn ad e
  rcases h hn ad e with h1 | ⟨h0, a, ea, eb⟩
  · omega
  · rw [← eb]; exact ho h0 a ea

theorem From.down {w w1 : World} {n n' : Nat} {A A' : Option Addr} (h : From w1 n A n' A') (hs : w.heap.size ≤ w1.heap.size) : From w n A n' A' := by
  intro hn ad e
  rcases h hn ad e with h1 | h1
  · exact .inl (by omega)
  · exact .inr h1

/-- The bytes of a slice lie where another one's lay. -/
def Cut (n : Nat) (A : Option Addr) (n' : Nat) (A' : Option Addr) : Prop := 0 < n' → ∀ ad', A' = some ad' → 0 < n ∧ ∃ ad, A = some ad ∧ ad.block = ad'.block

theorem Cut.refl (n : Nat) (A : Option Addr) : Cut n A n A := fun hn ad e => ⟨hn, ad, e, rfl⟩

theorem cut_head {n k : Nat} (A : Option Addr) (h : k ≤ n) : Cut n A k A := fun hn ad e => ⟨by omega, ad, e, rfl⟩

theorem cut_none (n : Nat) (A A' : Option Addr) : Cut n A 0 A' := fun hn => absurd hn (by omega)

theorem cut_tail (n k c : Nat) (A : Option Addr) : Cut n A (n - k) (if c = k then A else A.map (·.add k)) := by
  intro hn ad e
  refine ⟨by omega, ?_⟩
  split at e
  · exact ⟨ad, e, rfl⟩
  · rcases A with _ | a
    · cases e
    · injection e with e; exact ⟨a, rfl, by rw [← e, add_block]⟩

theorem Cut.from_ {n n' : Nat} {A A' : Option Addr} (h : Cut n A n' A') (w : World) : From w n A n' A' := fun hn ad e => .inr (h hn ad e)

theorem Cut.off {n n' g : Nat} {A A' : Option Addr} (h : Cut n A n' A') (ho : Off g n A) : Off g n' A' := by
  intro hn ad e
  obtain ⟨h0, a, ea, eb⟩ := h hn ad e
  rw [← eb]; exact ho h0 a ea

theorem Cut.lt {w : World} {B n n' : Nat} {A A' : Option Addr} {xs : List Value} (h : Cut n A n' A') (hs : Sl w B A n xs) : 0 < n' → ∀ ad, A' = some ad → ad.block < B := by
  intro hn ad e
  obtain ⟨h0, a, ea, eb⟩ := h hn ad e
  obtain ⟨a2, ea2, hb, _⟩ := hs.2 h0
  rw [ea] at ea2; injection ea2 with ea2; subst ea2
  rw [← eb]; exact hb

/-- What is owned, cut at its head. -/
theorem own_head {w : World} {base : Nat} {e : TypeId} {A : Option Addr} {n c h : Nat} {xs : List Value} (ho : w.ownsRow base e 1 (.slice A n c) n xs) (hn : h ≤ n) : w.ownsRow base e 1 (.slice A h c) h (xs.take h) := by
  obtain ⟨h1, h2⟩ := ho
  refine ⟨by rw [List.length_take]; omega, ?_⟩
  rcases h2 with ⟨h2, h0⟩ | ⟨g, cap, cur, hv, hb, hh, hc, hm, hs, ht⟩
  · injection h2 with a1 a2 a3
    subst a1; subst a3
    exact .inl ⟨by rw [show h = 0 by omega], by omega⟩
  · injection hv with a1 a2 a3
    subst a1; subst a3
    refine .inr ⟨g, c, cur, rfl, hb, hh, by omega, hm, hs, ?_⟩
    rw [← ht, List.take_take]
    congr 1
    omega

/-- 'append(s, make([]T, m)...)' as a step. -/
theorem wpList_append_zeros {P : Program} (w : World) {ops : Array Oper} {rest : List Oper} {o : Oper} {a : Act} {Q : Exit → Act → World → Prop} (hgd : o.guard = none) (s x : Operand) (t tn : TypeId)
    (ho : o.op = .call { callee := .builtin .append, args := #[s, x], argTypes := #[t, tn] }) (v v' : Value) (k : IntKind) (m : Int) (w' : World) (hs : a.eval s = v) (hx : a.eval x = .int k m)
    (hr : (Builtin.append_ #[t, tn] o.type #[v, .int k m]).run P w = .ok v' w') (h : wpList P ops Q rest (a.put o.dst v') w') : wpList P ops Q (o :: rest) a w := by
  refine wpList_plain hgd fun K hK => ?_
  unfold Oper.wp execOp
  simp only [ho, resolve, invoke, builtin, Sem.run_bind, Sem.run_pure, Result.andThen_ok, List.map_toArray, List.map_cons, List.map_nil, hs, hx, hr]
  exact hK _ _ h

/-- The cells of a struct at any address. -/
theorem run_loadVar_at {P : Program} (w : World) (p : Addr) (ty : TypeId) (cs : List Value) (d : TypeDesc) (hc : ∀ j v, cs[j]? = some v → w.cell? (p.add j) = some v)
    (hu : P.underlying ty = some d) (hd : d.isRow = true) (hi : (P.info? ty).map (·.size) = some cs.length) :
    (loadVar ty p).run P w = .ok (.agg cs.toArray) w := by
  have hl : (loadCells p cs.length).run P w = .ok cs.toArray w := run_loadCells_list (P := P) w p cs hc
  cases hq : P.info? ty with
  | none => simp [hq] at hi
  | some i =>
    have hs : i.size = cs.length := by simpa [hq] using hi
    have hagg : (isAgg ty).run P w = .ok true w := by
      unfold isAgg
      rw [Sem.run_bind, run_underlying hu w]
      cases d <;> simp_all
    simp [loadVar, Sem.run_bind, hagg, sizeOf, typeInfo, hq, hs, hl]

theorem wpList_load_at {P : Program} {ops : Array Oper} {rest : List Oper} {o : Oper} {a : Act} {w : World} {Q : Exit → Act → World → Prop} (hgd : o.guard = none) (ty : TypeId) (x : Operand) (ho : o.op = .load ty x)
    (p : Addr) (hx : a.eval x = .pointer (some p)) (cs : List Value) (d : TypeDesc) (hc : ∀ j v, cs[j]? = some v → w.cell? (p.add j) = some v)
    (hu : P.underlying ty = some d) (hd : d.isRow = true) (hi : (P.info? ty).map (·.size) = some cs.length)
    (h : wpList P ops Q rest (a.put o.dst (.agg cs.toArray)) w) : wpList P ops Q (o :: rest) a w := by
  refine wpList_plain hgd fun K hK => ?_
  unfold Oper.wp execOp
  simp only [ho, hx, Instr.loadAt, Instr.sureAddr, Sem.run_bind, Sem.run_pure, Result.andThen_ok, run_loadVar_at w p ty cs d hc hu hd hi]
  exact hK _ _ h

/-- Only g has turned of what was there; then a row that was not there yet. -/
theorem but_row {a b c : World} {g : Nat} {row : Option Nat} (h : a.grownBy b (some g)) (k : b.grownBy c row) (hr : ∀ j, row = some j → a.heap.size ≤ j) : a.grownBy c (some g) :=
  ⟨k.os.trans h.os, k.tape.trans h.tape, k.output.trans h.output, Nat.le_trans h.size k.size, fun i hi hne => (k.block i (Nat.lt_of_lt_of_le hi h.size) (fun e => by have := hr i e.symm; omega)).trans (h.block i hi hne)⟩
theorem but_next {a b c : World} {g : Nat} (h : a.grownBy b (some g)) (k : Below b.heap.size b c) : a.grownBy c (some g) := but_trans h (but_below k)

/-- Bytes of the call's own, one of which is counted up. -/
theorem own_up {wr : World} {base gx n cx j : Nat} {xs : List UInt8} {e : TypeId} (h : wr.ownsRow base e 1 (.slice (some ⟨gx, 0, none⟩) n cx) n (cb xs)) (hj : j < xs.length) :
    wr.cell? ⟨gx, j, none⟩ = some (.int .u8 (xs[j].toNat : Int)) ∧ wr.frozen? ⟨gx, j, none⟩ = false ∧ Hid (((xs[j].toNat : Int) + 1) % 256 = ((UInt8.ofNat ((xs[j].toNat + 1) % 256)).toNat : Int)) ∧
    Hid ((wr.setCell ⟨gx, j, none⟩ (.int .u8 ((UInt8.ofNat ((xs[j].toNat + 1) % 256)).toNat : Int))).ownsRow base e 1 (.slice (some ⟨gx, 0, none⟩) n cx) n (cb (xs.set j (UInt8.ofNat ((xs[j].toNat + 1) % 256))))) := by
  have hn : xs.length = n := by have := h.1; rw [cb_len] at this; omega
  refine ⟨by rw [h.cellAt j (by omega), cb_at hj], h.frozenAt j, byte_up xs[j], ?_⟩
  have := (h.stored j (bc (UInt8.ofNat ((xs[j].toNat + 1) % 256)))).1
  rw [← cb_set] at this
  exact this

theorem made_bl {w w1 : World} {n : Nat} (hown : w1.ownsRow w.heap.size 5 1 (.slice (some ⟨w.heap.size, 0, none⟩) n n) n (madeCells (Value.int .u8 0).cells (n * 1)).toList) (hgrow : w.grownBy w1 none) :
    Bl w1 w.heap.size (cb (List.replicate n 0)) 5 ∧ Below w.heap.size w w1 := by
  refine ⟨?_, (Below.refl w.heap.size w).grown hgrow (Nat.le_refl _) (by simp)⟩
  have hown1 : w1.ownsRow w.heap.size 5 1 (.slice (some ⟨w.heap.size, 0, none⟩) n n) n (cb (List.replicate n 0)) := by
    rw [cb_zeros]
    have := toList_madeCells_one (.int .u8 0) n
    simpa [Value.cells, this] using hown
  exact block_of_own hown1

theorem splice_all (k : Nat) (l : List UInt8) (hk : k ≤ l.length) : splice (cb (List.replicate k 0)) 0 ((cb l).take k) = cb (l.take k) := by
  have h1 : (cb l).take k = cb (l.take k) := by simp [cb]
  rw [h1]
  unfold splice
  rw [List.take_zero, List.nil_append, Nat.zero_add, List.drop_of_length_le (by rw [cb_len, cb_len]; simp; omega), List.append_nil]

/-- append onto a slice of the call's own, of a slice that reads as cells, as a step of a drawn region. -/
theorem wp_appendS {P : Program} {o : Oper} {a : Act} {w : World} {K : Act → World → Prop} {Q : Exit → Act → World → Prop} (s x : Operand) (t : TypeId)
    (ho : o.op = .call { callee := .builtin .append, args := #[s, x], argTypes := #[t, t] })
    (base : Nat) (e : TypeId) (i : TypeInfo) (z : Value) (bytes : Nat) (ht : P.underlying t = some (.slice e)) (hi : P.info? e = some i) (hz : i.zero = some z)
    (hsize : i.size = 1) (hby : i.bytes = bytes) (hzs : z.cells.size = 1)
    (v : Value) (n : Nat) (xs : List Value) (hs : a.eval s = v) (hown : w.ownsRow base e 1 v n xs)
    (B : Nat) (A : Option Addr) (m c : Nat) (news : List Value) (hx : a.eval x = .slice A m c) (hr : Sl w B A m news) (hc : A = none → c = 0) (h1 : ∀ u ∈ news, u.oneCell' = true)
    (h63 : n + m ≤ maxLen) (hbytes : (n + m) * bytes ≤ 140737488355328) (hbase : base ≤ w.heap.size)
    (h : ∀ v' w', w'.ownsRow base e 1 v' (n + m) (xs ++ news) → w.grownBy w' v.ownBlock → (v'.ownBlock = v.ownBlock ∨ v'.ownBlock = some w.heap.size) → K (a.put o.dst v') w') : Oper.wp P o a w K Q := by
  obtain ⟨v', w', hrun, h2, h3, h4⟩ := run_append_sl (P := P) w base t o.type e i z bytes ht hi hz hsize hby hzs v n xs hown B A m c news hr hc h1 h63 hbytes hbase
  unfold Oper.wp execOp
  simp only [ho, resolve, invoke, builtin, Sem.run_bind, Sem.run_pure, Result.andThen_ok, List.map_toArray, List.map_cons, List.map_nil, hs, hx, hrun]
  exact h v' w' h2 h3 h4

theorem results_cell_two {fn : Func} {p u v : Tmp} {ty : TypeId} (h : fn.results = #[.cell p ty, .tmp u, .tmp v]) (tmps : Array Value) (P : Program) (w : World) :
    (results fn tmps).run P w =
      ((asAddr (tmps.getD p undef)).run P w).andThen fun a w₁ => ((loadVar ty a).run P w₁).andThen fun x w₂ => .ok (.tuple #[x, tmps.getD u undef, tmps.getD v undef]) w₂ := by
  simp only [results, h]
  simp [Sem.run_bind, Result.andThen]

theorem ret_row_two {P : Program} {fn : Func} {R : Ending → World → Prop} {a : Act} {w : World} {p u v : Tmp} {ty : TypeId} {g : Nat} {cs : List Value} {t : TypeId} {d : TypeDesc} (hres : fn.results = #[.cell p ty, .tmp u, .tmp v])
    (hp : a.tmps.getD p undef = .pointer (some ⟨g, 0, none⟩)) (hb : Bl w g cs t) (hu : P.underlying ty = some d) (hd : d.isRow = true) (hi : (P.info? ty).map (·.size) = some cs.length)
    (hdf : a.defers = []) (hR : R (.returned (.tuple #[.agg cs.toArray, a.tmps.getD u undef, a.tmps.getD v undef])) w) : bodyPost P fn R .ret a w := by
  refine bodyPost_ret ?_ hdf hR
  rw [results_cell_two hres, hp]
  simp only [asAddr, Sem.run_pure, Result.andThen_ok]
  rw [run_loadVar_mid w g 0 ty cs d hb.whole hu hd hi]
  rfl

theorem sl_lt {w : World} {B n : Nat} {A : Option Addr} {xs : List Value} (h : Sl w B A n xs) (hn : 0 < n) {ad : Addr} (e : A = some ad) : ad.block < B := by
  obtain ⟨a, e2, hb, _⟩ := h.2 hn
  rw [e] at e2; injection e2 with e2; subst e2; exact hb

theorem run_slice_top {P : Program} (w : World) (t e : TypeId) (s : Nat) (ht : P.underlying t = some (.slice e)) (he : (P.info? e).map (·.size) = some s) (A : Option Addr) (n c h : Nat) (kh : IntKind) (H : Int) (eH : H = h) (h1 : h ≤ c) :
    (Instr.slice t (.slice A n c) none (some (.int kh H)) none).run P w = .ok (.slice A h c) w := by
  subst eH
  cases hq : P.info? e with
  | none => simp [hq] at he
  | some i =>
    have hs : i.size = s := by simpa [hq] using he
    rcases A with _ | a <;> simp [Instr.slice, run_underlying ht, Instr.sliceBounds, run_sliceBound, sizeOf, typeInfo, hq, hs, h1, add_none]

/-- 's[:h]' of elements of any size, as a step. -/
theorem wpList_slice_top {P : Program} {ops : Array Oper} {rest : List Oper} {o : Oper} {a : Act} {w : World} {Q : Exit → Act → World → Prop} (hgd : o.guard = none) (t : TypeId) (x hi : Operand) (ho : o.op = .slice t x none (some hi) none)
    (e : TypeId) (s : Nat) (ht : P.underlying t = some (.slice e)) (he : (P.info? e).map (·.size) = some s) (A : Option Addr) (n c h : Nat) (kh : IntKind) (H : Int) (hx : a.eval x = .slice A n c) (hhi : a.eval hi = .int kh H) (eH : H = h) (h1 : h ≤ c)
    (hk : wpList P ops Q rest (a.put o.dst (.slice A h c)) w) : wpList P ops Q (o :: rest) a w := by
  refine wpList_plain hgd fun K hK => ?_
  have hr := run_slice_top (P := P) w t e s ht he A n c h kh H eH h1
  unfold Oper.wp execOp
  simp only [ho, Option.map_some, Option.map_none, hx, hhi, Instr.sliceAt, Sem.run_bind, run_underlying ht, Result.andThen_ok, hr]
  exact hK _ _ hk

theorem run_slice_end {P : Program} (w : World) (t e : TypeId) (s : Nat) (ht : P.underlying t = some (.slice e)) (he : (P.info? e).map (·.size) = some s) (A : Option Addr) (n c k : Nat) (kl : IntKind) (L : Int) (eL : L = k) (hk : k ≤ n) (hc : n ≤ c) (hA : A = none → c = 0) :
    (Instr.slice t (.slice A n c) (some (.int kl L)) none none).run P w = .ok (.slice (if c = k then A else A.map (·.add (k * s))) (n - k) (c - k)) w := by
  subst eL
  cases hq : P.info? e with
  | none => simp [hq] at he
  | some i =>
    have hs : i.size = s := by simpa [hq] using he
    rcases A with _ | a
    · obtain rfl := hA rfl
      obtain rfl : n = 0 := by omega
      obtain rfl : k = 0 := by omega
      simp [Instr.slice, run_underlying ht, Instr.sliceBounds, run_sliceBound, sizeOf, typeInfo, hq]
    · simp [Instr.slice, run_underlying ht, Instr.sliceBounds, run_sliceBound, sizeOf, typeInfo, hq, hs, hk]

/-- 's[k:]' of elements of any size, as a step: where the rest lies stays under one name. -/
theorem wpList_slice_end {P : Program} {ops : Array Oper} {rest : List Oper} {o : Oper} {a : Act} {w : World} {Q : Exit → Act → World → Prop} (hgd : o.guard = none) (t : TypeId) (x lo : Operand) (ho : o.op = .slice t x (some lo) none none)
    (e : TypeId) (s : Nat) (ht : P.underlying t = some (.slice e)) (he : (P.info? e).map (·.size) = some s) (A : Option Addr) (n c k : Nat) (kl : IntKind) (L : Int) (hx : a.eval x = .slice A n c) (hlo : a.eval lo = .int kl L) (eL : L = k) (hk : k ≤ n) (hc : n ≤ c) (hA : A = none → c = 0)
    (A' : Option Addr) (hA' : A' = if c = k then A else A.map (·.add (k * s))) (h : wpList P ops Q rest (a.put o.dst (.slice A' (n - k) (c - k))) w) : wpList P ops Q (o :: rest) a w := by
  refine wpList_plain hgd fun K hK => ?_
  have hr := run_slice_end (P := P) w t e s ht he A n c k kl L eL hk hc hA
  unfold Oper.wp execOp
  simp only [ho, Option.map_some, Option.map_none, hx, hlo, Instr.sliceAt, Sem.run_bind, run_underlying ht, Result.andThen_ok, hr, ← hA']
  exact hK _ _ h

/-- A new variable of many cells, as a step of a drawn region. -/
theorem wp_alloc_zero {P : Program} {o : Oper} {a : Act} {w : World} {K : Act → World → Prop} {Q : Exit → Act → World → Prop} (ty : TypeId) (ho : o.op = .alloc ty)
    (z : List Value) (hz : (P.info? ty).map (·.zero) = some (some (.agg z.toArray))) (h : K (a.put o.dst (.pointer (some ⟨w.heap.size, 0, none⟩))) (w.alloc (.cells z.toArray ty))) : Oper.wp P o a w K Q := by
  cases hq : P.info? ty with
  | none => simp [hq] at hz
  | some i =>
    have hz' : i.zero = some (.agg z.toArray) := by simpa [hq] using hz
    have hr : (Instr.alloc ty true (.tuple #[])).run P w = .ok (.pointer (some ⟨w.heap.size, 0, none⟩)) (w.alloc (.cells z.toArray ty)) := by
      simp [Instr.alloc, zeroValue, typeInfo, hq, hz', newVar, newRow, Value.cells]
    unfold Oper.wp execOp
    simp only [ho, Sem.run_bind, hr, Result.andThen_ok]
    exact h

/-- A struct at any address, as a step. -/
theorem exec_load_at {P : Program} {a : Act} {o : Oper} (w : World) (ty : TypeId) (x : Operand) (ho : o.op = .load ty x) (p : Addr) (hx : a.eval x = .pointer (some p)) (cs : List Value) (d : TypeDesc) (hc : ∀ j v, cs[j]? = some v → w.cell? (p.add j) = some v)
    (hu : P.underlying ty = some d) (hd : d.isRow = true) (hi : (P.info? ty).map (·.size) = some cs.length) : (execOp a.eval o).run P w = .ok (.value (.agg cs.toArray)) w := by
  unfold execOp
  simp only [ho, hx, Instr.loadAt, Instr.sureAddr, Sem.run_bind, Sem.run_pure, Result.andThen_ok, run_loadVar_at w p ty cs d hc hu hd hi]

end Go.Proofs.Ytfmbehjllkmfiaa

namespace Go.Proofs.Ytfmbehjllkmfiaa
set_option maxRecDepth 100000
open Go.RowKit
set_option linter.unusedVariables false
set_option linter.unusedSimpArgs false

/-- What digits to the base b are worth, the lowest first. -/
def bv (b : Nat) : List Nat → Nat
  | [] => 0
  | d :: r => d + b * bv b r
theorem bv_append (b : Nat) (x y : List Nat) : bv b (x ++ y) = bv b x + b ^ x.length * bv b y := by
  induction x with
  | nil => simp [bv]
  | cons d r ih => simp only [List.cons_append, bv, ih, List.length_cons, Nat.pow_succ, Nat.mul_add]; rw [Nat.mul_comm (b ^ r.length) b, Nat.mul_assoc]; omega
theorem bv_snoc (b : Nat) (x : List Nat) (d : Nat) : bv b (x ++ [d]) = bv b x + b ^ x.length * d := by rw [bv_append]; simp [bv]
theorem bv_lt {b : Nat} (hb : 0 < b) (x : List Nat) (h : ∀ d ∈ x, d < b) : bv b x < b ^ x.length := by
  induction x with
  | nil => simp [bv]
  | cons d r ih =>
    have h1 := ih (fun e he => h e (by simp [he]))
    have h2 := h d (by simp)
    have h3 : b * (bv b r + 1) ≤ b * b ^ r.length := Nat.mul_le_mul_left _ h1
    rw [Nat.mul_add, Nat.mul_one] at h3
    simp only [bv, List.length_cons, Nat.pow_succ]
    rw [Nat.mul_comm (b ^ r.length) b]
    omega
theorem bv_zeros (b n : Nat) : bv b (List.replicate n 0) = 0 := by
  induction n with
  | zero => rfl
  | succ n ih => rw [List.replicate_succ, bv, ih]; simp
theorem bv_split (b : Nat) (x : List Nat) (k : Nat) (hk : k ≤ x.length) : bv b x = bv b (x.take k) + b ^ k * bv b (x.drop k) := by
  conv => lhs; rw [← List.take_append_drop k x]
  rw [bv_append, List.length_take, Nat.min_eq_left hk]
theorem bv_take (b : Nat) (x : List Nat) (k : Nat) (hk : k < x.length) : bv b (x.take (k + 1)) = bv b (x.take k) + b ^ k * x[k] := by
  rw [List.take_succ_eq_append_getElem hk, bv_snoc, List.length_take, Nat.min_eq_left (by omega)]
theorem bv_set (b : Nat) (x : List Nat) (k v : Nat) (hk : k < x.length) : bv b (x.set k v) + b ^ k * x[k] = bv b x + b ^ k * v := by
  induction x generalizing k with
  | nil => simp at hk
  | cons d r ih =>
    cases k with
    | zero => simp [bv]; omega
    | succ k =>
      have h := ih k (by simpa using hk)
      simp only [List.set_cons_succ, bv, List.getElem_cons_succ, Nat.pow_succ]
      have h2 := congrArg (b * ·) h
      simp only [Nat.mul_add] at h2
      rw [Nat.mul_comm (b ^ k) b, Nat.mul_assoc, Nat.mul_assoc]
      omega
theorem bv_add_set (b : Nat) (x : List Nat) (k v : Nat) (hk : k < x.length) : bv b (x.set k (x[k] + v)) = bv b x + b ^ k * v := by
  have h := bv_set b x k (x[k] + v) hk
  rw [Nat.mul_add] at h
  omega
theorem bv_zip (b : Nat) (f : Nat → Nat → Nat) (m n : Nat) (hf : ∀ s t, f s t = m * s + n * t) (x y : List Nat) (h : y.length = x.length) : bv b (List.zipWith f x y) = m * bv b x + n * bv b y := by
  induction x generalizing y with
  | nil => cases y with
    | nil => simp [bv]
    | cons _ _ => simp at h
  | cons d r ih => cases y with
    | nil => simp at h
    | cons e s =>
      simp only [List.zipWith_cons_cons, bv, ih s (by simpa using h), hf, Nat.mul_add]
      rw [← Nat.mul_assoc, ← Nat.mul_assoc, ← Nat.mul_assoc, ← Nat.mul_assoc, Nat.mul_comm b m, Nat.mul_comm b n]
      omega

end Go.Proofs.Ytfmbehjllkmfiaa

namespace Go.Proofs.Ytfmbehjllkmfiaa
set_option maxRecDepth 100000
open Go Go.RowKit
set_option linter.unusedVariables false
set_option linter.unusedSimpArgs false

/-- Of lists of one length, the one that comes ahead is the smaller number. -/
theorem lessB_val : ∀ (x y : List UInt8), x.length = y.length → Op.bytesLess x y = decide (val x < val y)
  | [], [], _ => by simp [Op.bytesLess]
  | a :: x, b :: y, h => by
    have hl : x.length = y.length := by simpa using h
    have hx := val_lt x
    have hy := val_lt y
    rw [hl] at hx
    rw [Op.bytesLess, lessB_val x y hl, val_cons, val_cons, hl]
    generalize 256 ^ y.length = K at hx hy
    generalize val x = vx at hx
    generalize val y = vy at hy
    rcases Nat.lt_trichotomy a.toNat b.toNat with hab | hab | hab
    · have h1 : decide (a < b) = true := by simpa using UInt8.lt_iff_toNat_lt.2 hab
      have h2 : a.toNat * K + vx < b.toNat * K + vy := by
        have : (a.toNat + 1) * K ≤ b.toNat * K := Nat.mul_le_mul_right K hab
        rw [Nat.add_mul] at this
        omega
      rw [h1, decide_eq_true h2]; rfl
    · have e : a = b := UInt8.toNat_inj.1 hab
      subst e
      have h1 : decide (a < a) = false := by simp
      rw [h1]
      simp
    · have h1 : decide (a < b) = false := by
        rw [decide_eq_false_iff_not, UInt8.lt_iff_toNat_lt]; omega
      have h3 : (a == b) = false := by
        rw [beq_eq_false_iff_ne]; intro e; subst e; omega
      have h2 : ¬ a.toNat * K + vx < b.toNat * K + vy := by
        have : (b.toNat + 1) * K ≤ a.toNat * K := Nat.mul_le_mul_right K hab
        rw [Nat.add_mul] at this
        omega
      rw [h1, h3, decide_eq_false h2]; rfl

theorem val_app : ∀ (x y : List UInt8), val (x ++ y) = val x * 256 ^ y.length + val y
  | [], y => by simp [val_nil]
  | a :: x, y => by
    rw [List.cons_append, val_cons, val_cons, val_app x y, List.length_append, Nat.pow_add, Nat.add_mul, Nat.mul_assoc, Nat.add_assoc]

/-- Lists of one length with one value are one. -/
theorem val_inj : ∀ (x y : List UInt8), x.length = y.length → val x = val y → x = y
  | [], [], _, _ => rfl
  | a :: x, b :: y, h, hv => by
    have hl : x.length = y.length := by simpa using h
    have hx := val_lt x
    have hy := val_lt y
    rw [val_cons, val_cons, hl] at hv
    rw [hl] at hx
    have hab : a.toNat = b.toNat := by
      generalize 256 ^ y.length = K at hx hy hv
      rcases Nat.lt_trichotomy a.toNat b.toNat with hab | hab | hab
      · have : (a.toNat + 1) * K ≤ b.toNat * K := Nat.mul_le_mul_right K hab
        rw [Nat.add_mul] at this
        omega
      · exact hab
      · have : (b.toNat + 1) * K ≤ a.toNat * K := Nat.mul_le_mul_right K hab
        rw [Nat.add_mul] at this
        omega
    have e : a = b := UInt8.toNat_inj.1 hab
    subst e
    rw [val_inj x y hl (by omega)]

/-- What 's <= t' says where s is the greater. -/
theorem not_leq {b l : List UInt8} (hl : b.length = l.length) (h : val l < val b) : (Op.bytesLess b l || b == l) = false := by
  rw [lessB_val b l hl, decide_eq_false (by omega)]
  have : (b == l) = false := by rw [beq_eq_false_iff_ne]; intro e; subst e; omega
  rw [this]; rfl
theorem not_leq_nil {b : List UInt8} (h : 0 < b.length) : (Op.bytesLess b [] || b == []) = false := by
  cases b with
  | nil => simp at h
  | cons a r => simp [Op.bytesLess]

/-- A nonce: four bytes and eight, big end first. -/
def nonceL (e n : Nat) : List UInt8 := stored e false ++ told8 n
theorem nonceL_len (e n : Nat) : (nonceL e n).length = 12 := by unfold nonceL; rw [List.length_append, stored_len, told8_len]
theorem nonceL_val (e n : Nat) (he : e < 4294967296) (hn : n < 18446744073709551616) : val (nonceL e n) = e * 18446744073709551616 + n := by
  unfold nonceL stored told8
  rw [val_app]
  simp only [Bool.false_eq_true, if_false, List.length_reverse, le_len]
  rw [val_le, val_le, Nat.mod_eq_of_lt (by simpa using he), Nat.mod_eq_of_lt (by simpa using hn)]
theorem nonceL_lt {e e' n n' : Nat} (he : e < 4294967296) (hn : n < 18446744073709551616) (he' : e' < 4294967296) (hn' : n' < 18446744073709551616) (h : e < e' ∨ (e ≤ e' ∧ n < n')) : val (nonceL e n) < val (nonceL e' n') := by
  rw [nonceL_val e n he hn, nonceL_val e' n' he' hn']
  omega
/-- Any twelve bytes are the nonce of what they are read as. -/
theorem nonceL_of {b : List UInt8} (h : b.length = 12) : nonceL (val (b.take 4)) (val (b.drop 4)) = b := by
  have h4 : (b.take 4).length = 4 := by rw [List.length_take]; omega
  have h8 : (b.drop 4).length = 8 := by rw [List.length_drop]; omega
  have v4 := val_lt (b.take 4)
  have v8 := val_lt (b.drop 4)
  rw [h4] at v4
  rw [h8] at v8
  refine val_inj _ _ (by rw [nonceL_len, h]) ?_
  rw [nonceL_val _ _ (by simpa using v4) (by simpa using v8)]
  have := val_app (b.take 4) (b.drop 4)
  rw [List.take_append_drop, h8] at this
  rw [this]

end Go.Proofs.Ytfmbehjllkmfiaa

namespace Go.Proofs.Ytfmbehjllkmfiaa
set_option maxRecDepth 100000
set_option maxRecDepth 100000
open Go Go.RowKit
set_option linter.unusedVariables false
set_option linter.unusedSimpArgs false

/-- The cells cs are slices of bytes, ls, in memory that is new since base; none of them lies in v's own block. -/
def PartsAt (w : World) (base : Nat) (v : Value) (ls : List (List UInt8)) (cs : List Value) : Prop :=
  ∀ j (h : j < ls.length), ∃ A c, cs[j]? = some (.slice A ls[j].length c) ∧ Sl w w.heap.size A ls[j].length (cb ls[j]) ∧ ls[j].length ≤ c ∧ (A = none → c = 0) ∧ (∀ g, v.ownBlock = some g → Off g ls[j].length A) ∧ ∀ ad, A = some ad → base ≤ ad.block
/-- v is a list, in memory of the call's own, of lists of bytes: its cells are cs. -/
def OwnPartsC (E : TypeId) (w : World) (base : Nat) (v : Value) (ls : List (List UInt8)) (cs : List Value) : Prop :=
  w.ownsRow base E 1 v ls.length cs ∧ PartsAt w base v ls cs
def OwnParts (E : TypeId) (w : World) (base : Nat) (v : Value) (ls : List (List UInt8)) : Prop := ∃ cs, OwnPartsC E w base v ls cs
section
variable {E : TypeId} {w w' : World} {base : Nat} {v : Value} {ls : List (List UInt8)} {cs : List Value}
theorem ownParts_nil (E : TypeId) (w : World) (base : Nat) : OwnParts E w base (.slice none 0 0) [] := ⟨[], World.ownsRow_nil w base E 1, fun j h => absurd h (by simp)⟩
theorem OwnPartsC.next (h : OwnPartsC E w base v ls cs) (hb : Below w.heap.size w w') : OwnPartsC E w' base v ls cs := by
  obtain ⟨h1, h2⟩ := h
  refine ⟨own_below h1 hb, fun j hj => ?_⟩
  obtain ⟨A, c, a1, a2, a3⟩ := h2 j hj
  exact ⟨A, c, a1, a2.nx hb, a3⟩
theorem OwnParts.next (h : OwnParts E w base v ls) (hb : Below w.heap.size w w') : OwnParts E w' base v ls := by
  obtain ⟨cs, h⟩ := h
  exact ⟨cs, h.next hb⟩
theorem OwnParts.down {base' : Nat} (h : OwnParts E w base v ls) (hb : base' ≤ base) : OwnParts E w base' v ls := by
  obtain ⟨cs, h1, h2⟩ := h
  refine ⟨cs, own_down h1 hb, fun j hj => ?_⟩
  obtain ⟨A, c, a1, a2, a3, a4, a5, a6⟩ := h2 j hj
  exact ⟨A, c, a1, a2, a3, a4, a5, fun ad e => Nat.le_trans hb (a6 ad e)⟩
/-- What lies below base may turn. -/
theorem OwnParts.kept (h : OwnParts E w base v ls) (hk : ∀ i, base ≤ i → i < w.heap.size → w'.heap[i]? = w.heap[i]?) (hs : w.heap.size ≤ w'.heap.size) : OwnParts E w' base v ls := by
  obtain ⟨cs, h1, h2⟩ := h
  refine ⟨cs, own_keep h1 (fun g hg => hk g (own_blk h1 hg) (own_lt h1 hg)), fun j hj => ?_⟩
  obtain ⟨A, c, a1, a2, a3, a4, a5, a6⟩ := h2 j hj
  refine ⟨A, c, a1, ⟨a2.1, fun hn => ?_⟩, a3, a4, a5, a6⟩
  obtain ⟨ad, e, hlt, hc⟩ := a2.2 hn
  refine ⟨ad, e, Nat.lt_of_lt_of_le hlt hs, fun j u hu => ?_⟩
  rw [World.cell?_of_block (w := w) (hk _ (by rw [add_block]; exact a6 ad e) (by rw [add_block]; exact hlt))]
  exact hc j u hu
theorem OwnParts.form (h : OwnParts E w base v ls) : ∃ A c, v = .slice A ls.length c := by
  obtain ⟨cs, h1, _⟩ := h
  exact own_form h1
/-- One more, behind 'append(v, x)': what append tells is happ, hg, hat. -/
theorem OwnPartsC.push (h : OwnPartsC E w base v ls cs) {l : List UInt8} {n : Nat} (hn : n = l.length) {A : Option Addr} {c : Nat} (hs : Sl w w.heap.size A n (cb l)) (hc : n ≤ c) (hA : A = none → c = 0) (ho : ∀ g, v.ownBlock = some g → Off g n A) (hbase : ∀ ad, A = some ad → base ≤ ad.block)
    {v' : Value} (happ : w'.ownsRow base E 1 v' (ls.length + 1) (cs ++ [.slice A n c])) (hg : w.grownBy w' v.ownBlock) (hat : v'.ownBlock = v.ownBlock ∨ v'.ownBlock = some w.heap.size) : OwnParts E w' base v' (ls ++ [l]) := by
  subst hn
  obtain ⟨h1, h2⟩ := h
  have hlen : cs.length = ls.length := by have := h1.1; omega
  have mv : ∀ {B : Option Addr} {k : Nat} {xs : List Value}, Sl w w.heap.size B k xs → (∀ g, v.ownBlock = some g → Off g k B) → Sl w' w'.heap.size B k xs ∧ ∀ g, v'.ownBlock = some g → Off g k B := by
    intro B k xs hb hoff
    refine ⟨sl_row hb hg (fun hk ad e e2 => hoff _ e2 hk ad e rfl), fun g hgv => ?_⟩
    rcases hat with e | e
    · exact hoff g (by rw [← e]; exact hgv)
    · rw [e] at hgv
      have := Option.some.inj hgv
      subst this
      exact hb.off (Nat.le_refl _)
  refine ⟨cs ++ [.slice A l.length c], by rw [List.length_append]; exact happ, fun j hj => ?_⟩
  by_cases hjl : j < ls.length
  · obtain ⟨B, d, a1, a2, a3, a4, a5, a6⟩ := h2 j hjl
    rw [List.getElem?_append_left (by omega)]
    simp only [List.getElem_append_left hjl]
    exact ⟨B, d, a1, (mv a2 a5).1, a3, a4, (mv a2 a5).2, a6⟩
  · have e : j = ls.length := by simp at hj; omega
    subst e
    rw [List.getElem?_append_right (by omega), hlen]
    simp only [Nat.sub_self, List.getElem_append_right (Nat.le_refl _)]
    exact ⟨A, c, rfl, (mv hs ho).1, hc, hA, (mv hs ho).2, hbase⟩
/-- What a call that began behind base has made lies in no block of the list's own. -/
theorem OwnPartsC.off_new (h : OwnPartsC E w base v ls cs) {A : Option Addr} {n : Nat} (ha : ∀ ad, A = some ad → w.heap.size ≤ ad.block) : ∀ g, v.ownBlock = some g → Off g n A := by
  intro g hg hn ad e
  have h1 := own_lt h.1 hg
  have h2 := ha ad e
  omega
/-- The j-th of them. -/
theorem OwnParts.at_ {A : Option Addr} {n c : Nat} (h : OwnParts E w base (.slice A n c) ls) {j : Nat} (hj : j < ls.length) : ∃ g B d, A = some ⟨g, 0, none⟩ ∧ w.cell? ⟨g, j, none⟩ = some (.slice B ls[j].length d) ∧ Sl w w.heap.size B ls[j].length (cb ls[j]) ∧ ls[j].length ≤ d ∧ (B = none → d = 0) := by
  obtain ⟨cs, h1, h2⟩ := h
  obtain ⟨B, d, a1, a2, a3, a4, _, _⟩ := h2 j hj
  obtain ⟨A', c', e'⟩ := own_form h1
  injection e' with eA en ec
  subst eA; subst en; subst ec
  obtain ⟨g, c2, e, _, _⟩ := h1.form (by omega)
  injection e with e _ _
  subst e
  refine ⟨g, B, d, rfl, ?_, a2, a3, a4⟩
  rw [h1.cellAt j (by omega), a1]
end

/-- 'make([]T, 0, m)' of one-cell elements. -/
theorem wpList_make_none {P : Program} (w : World) {ops : Array Oper} {rest : List Oper} {o : Oper} {a : Act} {Q : Exit → Act → World → Prop}
    (hg : o.guard = none) (l c : Operand) (t : TypeId) (hop : o.op = Op.makeSlice t l c)
    (base : Nat) (e : TypeId) (i : TypeInfo) (z : Value) (h1 : P.underlying t = some (.slice e)) (h2 : P.info? e = some i) (h3 : i.zero = some z) (h4 : i.size = 1) (h5 : z.cells.size = 1)
    (kl kc : IntKind) (L C : Int) (m : Nat) (hl : a.eval l = .int kl L) (hc : a.eval c = .int kc C) (hL : L = 0) (hC : C = (m : Int)) (b2 : i.bytes * m ≤ 281474976710656) (b3 : m ≤ maxLen) (b4 : base ≤ w.heap.size)
    (hK : ∀ w', w'.ownsRow base e 1 (.slice (some ⟨w.heap.size, 0, none⟩) 0 m) 0 [] → w.grownBy w' none → wpList P ops Q rest (a.put o.dst (.slice (some ⟨w.heap.size, 0, none⟩) 0 m)) w') :
    wpList P ops Q (o :: rest) a w := by
  refine wpList_plain hg fun K hK' => ?_
  subst hL; subst hC
  have b3' := b3
  simp [maxLen] at b3'
  have hb' : (i.bytes : Int) * (m : Int) ≤ 281474976710656 := by
    have h : ((i.bytes * m : Nat) : Int) ≤ 281474976710656 := by omega
    rwa [Int.natCast_mul] at h
  have hr := run_make (P := P) w t e i _ h1 h2 h3 kl kc 0 (m : Int) (by omega) (by omega) hb' (by omega)
  simp only [Int.toNat_natCast, h4, Nat.mul_one] at hr
  unfold Oper.wp
  simp [execOp, hop, hl, hc, hr, Result.andThen]
  exact hK' _ _ (hK _ ⟨rfl, .inr ⟨w.heap.size, m, _, rfl, b4, heap_alloc_new w _, Nat.zero_le _, b3, by rw [size_madeCells, Nat.mul_one], by simp⟩⟩ (World.grownBy_alloc w _ none))

theorem results_tmp_cell_tmp {fn : Func} {t p u : Tmp} {ty : TypeId} (h : fn.results = #[.tmp t, .cell p ty, .tmp u]) (tmps : Array Value) (P : Program) (w : World) :
    (results fn tmps).run P w =
      ((asAddr (tmps.getD p undef)).run P w).andThen fun a w₁ => ((loadVar ty a).run P w₁).andThen fun x w₂ => .ok (.tuple #[tmps.getD t undef, x, tmps.getD u undef]) w₂ := by
  simp only [results, h]
  simp [Sem.run_bind, Result.andThen]

theorem ret_tmp_row_tmp {P : Program} {fn : Func} {R : Ending → World → Prop} {a : Act} {w : World} {t0 p u : Tmp} {ty : TypeId} {g : Nat} {cs : List Value} {t : TypeId} {d : TypeDesc} (hres : fn.results = #[.tmp t0, .cell p ty, .tmp u])
    (hp : a.tmps.getD p undef = .pointer (some ⟨g, 0, none⟩)) (hb : Bl w g cs t) (hu : P.underlying ty = some d) (hd : d.isRow = true) (hi : (P.info? ty).map (·.size) = some cs.length)
    (hdf : a.defers = []) (hR : R (.returned (.tuple #[a.tmps.getD t0 undef, .agg cs.toArray, a.tmps.getD u undef])) w) : bodyPost P fn R .ret a w := by
  refine bodyPost_ret ?_ hdf hR
  rw [results_tmp_cell_tmp hres, hp]
  simp only [asAddr, Sem.run_pure, Result.andThen_ok]
  rw [run_loadVar_mid w g 0 ty cs d hb.whole hu hd hi]
  rfl

end Go.Proofs.Ytfmbehjllkmfiaa

namespace Go.Proofs.Ytfmbehjllkmfiaa
set_option maxRecDepth 100000
open Go Go.RowKit
set_option linter.unusedVariables false
set_option linter.unusedSimpArgs false

theorem InBytes.nx {w w' : World} {A : Option Addr} {n c : Nat} {l : List UInt8} (h : InBytes w A n c l) (hb : Below w.heap.size w w') : InBytes w' A n c l := ⟨h.sl.nx hb, h.len, h.cap, h.none_, h.room⟩

/-- A struct in a new variable: the world behind it under a name. -/
theorem put_f (w : World) (cs : List Value) (T : TypeId) : ∃ W, Hid (w.alloc (.cells cs.toArray T) = W) ∧ Bl W w.heap.size cs T ∧ Below w.heap.size w W ∧ W.heap.size = w.heap.size + 1 := by
  exact ⟨_, (rfl : _ = _), Bl.new w cs T, (Below.refl _ w).alloc (Nat.le_refl _) _, alloc_size w _⟩

/-- Bytes in memory. -/
structure By (w : World) (A : Option Addr) (n c : Nat) (l : List UInt8) : Prop where
  sl : Sl w w.heap.size A n (cb l)
  len : n = l.length
  cap : n ≤ c
  none_ : A = none → c = 0
theorem By.nx {w w' : World} {A : Option Addr} {n c : Nat} {l : List UInt8} (h : By w A n c l) (hb : Below w.heap.size w w') : By w' A n c l := ⟨h.sl.nx hb, h.len, h.cap, h.none_⟩
theorem by_nil (w : World) : By w none 0 0 [] := ⟨Sl.nil_, rfl, Nat.le_refl _, fun _ => rfl⟩
theorem InBytes.bys {w : World} {A : Option Addr} {n c : Nat} {l : List UInt8} (h : InBytes w A n c l) : By w A n c l := ⟨h.sl, h.len, h.cap, h.none_⟩
theorem NewBytes.bys {E : TypeId} {w w' : World} {n : Nat} {l : List UInt8} {A : Option Addr} {c : Nat} (h : NewBytes E w n l A c w') : By w' A n c l := ⟨h.sl, by rw [← cb_len l, h.sl.1], own_cap h.own, h.none_⟩
theorem By.nb {w w' : World} {g : Nat} {A : Option Addr} {n c : Nat} {l : List UInt8} (h : By w A n c l) (hb : w.grownBy w' (some g)) (ho : Off g n A) : By w' A n c l := ⟨h.sl.nb hb ho, h.len, h.cap, h.none_⟩

theorem By.off_lt {w : World} {A : Option Addr} {n c : Nat} {l : List UInt8} (h : By w A n c l) {g : Nat} (hg : w.heap.size ≤ g) : Off g n A := by
  intro hn ad e he
  obtain ⟨ad', e', hb', _⟩ := h.sl.2 hn
  rw [e] at e'
  injection e' with e'
  subst e'
  omega

/-- Bytes from the place k on. -/
theorem By.cut {w : World} {A A' : Option Addr} {n c k : Nat} {l : List UInt8} (h : By w A n c l) (hk : k ≤ n) (hA : A' = if c = k then A else A.map (·.add k)) : By w A' (n - k) (c - k) (l.drop k) := by
  have hlen := h.len
  have hcap := h.cap
  refine ⟨⟨by rw [cb_len, List.length_drop]; omega, fun h0 => ?_⟩, by rw [List.length_drop]; omega, by omega, fun he => ?_⟩
  · obtain ⟨ad, rfl, hb, hc⟩ := h.sl.2 (by omega)
    rw [if_neg (by omega)] at hA
    refine ⟨ad.add k, hA, by rw [add_block]; exact hb, fun j u hu => ?_⟩
    rw [add_add]
    refine hc (k + j) u ?_
    rw [cb, List.getElem?_map] at hu ⊢
    rwa [List.getElem?_drop] at hu
  · rw [he] at hA
    by_cases hck : c = k
    · omega
    · rw [if_neg hck] at hA
      rcases A with _ | ad
      · have := h.none_ rfl; omega
      · cases hA
theorem By.head {w : World} {A : Option Addr} {n c k : Nat} {l : List UInt8} (h : By w A n c l) (hk : k ≤ n) : By w A k c (l.take k) :=
  ⟨by have := sl_take (h := k) h.sl hk; rwa [show (cb l).take k = cb (l.take k) by simp [cb]] at this, by rw [List.length_take, ← h.len]; omega, Nat.le_trans hk h.cap, h.none_⟩

end Go.Proofs.Ytfmbehjllkmfiaa

namespace Go.Proofs.Ytfmbehjllkmfiaa
set_option maxRecDepth 100000
open Go.ChangeShapes Go.WideShapes Go.ChangeAt Go.RowKit
set_option linter.unusedVariables false
set_option linter.unusedSimpArgs false

/-- Whole numbers as cells. -/
def iz (zs : List Int) : List Value := zs.map (Value.int .i64)
theorem iz_len (zs : List Int) : (iz zs).length = zs.length := by simp [iz]
theorem iz_at {zs : List Int} {j : Nat} (h : j < zs.length) : (iz zs)[j]? = some (.int .i64 zs[j]) := by simp [iz, List.getElem?_eq_getElem h]
theorem iz_append (a b : List Int) : iz (a ++ b) = iz a ++ iz b := by simp [iz]
theorem iz_one (zs : List Int) : ∀ v ∈ iz zs, v.oneCell' = true := by
  intro u hu
  obtain ⟨b, _, rfl⟩ := List.mem_map.1 hu
  rfl
/-- What a walk is told of a list of whole numbers that came in. -/
structure InInts (w : World) (A : Option Addr) (n c : Nat) (zs : List Int) : Prop where
  sl : Sl w w.heap.size A n (iz zs)
  len : n = zs.length
  cap : n ≤ c
  none_ : A = none → c = 0
  room : c * 8 ≤ 140737488351232
  wf : ∀ z ∈ zs, (Lit.int .i64 z).wf = true

theorem open_i64s {H : Type} {enc : TypeId × Value → H} {P : Program} {W : World} {t e : TypeId} {A : Option Addr} {len cap : Nat} {d : DataW H} {p : List MemPlace} {ts : List TypeId} {ds : List (DataW H)} {j : Nat}
    (ht : P.underlying t = some (.slice e)) (he : P.underlying e = some (.int .i64)) (hc : P.cellsOf e = 1) (hb : P.bytesOf e = 8)
    (h0 : DataW.Trod enc P W 0 (fun _ => true) true t (.slice A len cap) d p) (lt0 : ∀ x ∈ p, x.block < W.heap.size)
    (hsz : (DataW.weightsEach P ts ds).all (· ≤ reachBytes) = true) (htj : ts[j]? = some t) (hdj : ds[j]? = some d) :
    ∃ l : List Int, InInts W A len cap l := by
  obtain ⟨fuel, hf⟩ := h0
  rcases open_ints ht he hc hf with ⟨hcs, hx⟩ | ⟨a, l, c, zs, hcs, _, hl, hm, hz, hx, hcell, hwz⟩
  · simp [Value.cells] at hcs
    obtain ⟨rfl, rfl, rfl⟩ := hcs
    exact ⟨[], Sl.nil_, rfl, Nat.le_refl _, fun _ => rfl, by omega, fun z hz => by simp at hz⟩
  · simp [Value.cells] at hcs
    obtain ⟨rfl, rfl, rfl⟩ := hcs
    simp only [Prod.mk.injEq] at hx
    obtain ⟨rfl, rfl⟩ := hx
    simp only [if_true] at hz
    have hr := sized_slice hsz htj hdj ht
    rw [hb] at hr
    simp only [lits, List.length_map, List.length_take, List.length_drop, reachBytes] at hr
    have hlen : len = (zs.take len).length := by rw [List.length_take]; omega
    refine ⟨zs.take len, ⟨by rw [iz_len]; exact hlen.symm, fun hn => ⟨_, rfl, ?_, ?_⟩⟩, hlen, hl, (fun h => by cases h), by omega, fun z hz' => hwz z (List.mem_of_mem_take hz')⟩
    · exact lt0 (.cell a.block a.off) (MemPlace.mem_row.2 ⟨0, by omega, by simp⟩)
    · intro i u hu
      have hi : i < len := by
        rcases Nat.lt_or_ge i len with h | h
        · exact h
        · rw [List.getElem?_eq_none (by rw [iz_len]; omega)] at hu; cases hu
      have := hcell i (by omega)
      rw [this]
      rw [iz, List.getElem?_map, List.getElem?_take_of_lt hi] at hu
      simp only [Option.map_eq_some_iff] at hu
      obtain ⟨z, hz', rfl⟩ := hu
      rw [List.getD_eq_getElem?_getD, hz']
      rfl

end Go.Proofs.Ytfmbehjllkmfiaa

namespace Go.Proofs.Ytfmbehjllkmfiaa
set_option maxRecDepth 100000
open Go Go.RowKit
set_option linter.unusedVariables false
set_option linter.unusedSimpArgs false

section
variable {P : Program}
/-- 'append(s, x...)', elements of any size, s owned by the call, x any slice that reads as cells, nil let in. -/
theorem run_append_slK (w : World) (base : Nat) (t ty e : TypeId) (i : TypeInfo) (z : Value) (size bytes : Nat) (ht : P.underlying t = some (.slice e)) (hi : P.info? e = some i) (hz : i.zero = some z)
    (hsize : i.size = size) (hby : i.bytes = bytes) (hzs : z.cells.size = size) (h0 : 0 < size)
    (v : Value) (n : Nat) (xs : List Value) (hown : w.ownsRow base e size v n xs)
    (B : Nat) (A : Option Addr) (m c : Nat) (news : List Value) (hr : Sl w B A (m * size) news) (hc : A = none → c = 0) (h1 : ∀ u ∈ news, u.oneCell' = true)
    (h63 : n + m ≤ maxLen) (hbytes : (n + m) * bytes ≤ 140737488355328) (hbase : base ≤ w.heap.size) :
    ∃ v' w', (Builtin.append_ #[t, t] ty #[v, .slice A m c]).run P w = .ok v' w' ∧ w'.ownsRow base e size v' (n + m) (xs ++ news) ∧ w.grownBy w' v.ownBlock ∧
      (v'.ownBlock = v.ownBlock ∨ v'.ownBlock = some w.heap.size) := by
  rcases A with _ | ad
  · have hm : m = 0 := by
      rcases Nat.eq_zero_or_pos m with h | h
      · exact h
      · obtain ⟨ad, h, _⟩ := hr.2 (Nat.mul_pos h h0); cases h
    subst hm
    have hn : news = [] := List.eq_nil_of_length_eq_zero (by rw [hr.1]; omega)
    subst hn
    obtain rfl := hc rfl
    exact ⟨v, w, run_append_owned_none (P := P) (w := w) base t ty e i size ht hi v n xs hown, by simpa using hown, World.grownBy.refl w _, .inl rfl⟩
  · have hcells : ∀ j u, news[j]? = some u → w.cell? (ad.add j) = some u := by
      intro j u hu
      obtain ⟨ad', h, _, hc⟩ := hr.2 (by have := (List.getElem?_eq_some_iff.1 hu).1; rw [hr.1] at this; omega)
      injection h with h
      subst h
      exact hc j u hu
    obtain ⟨v', w', hrun, h2, h3, _, h5⟩ := run_append_own_at (P := P) w base t ty e i z size bytes ht hi hz hsize hby hzs h0 v n xs hown ad m c news hr.1 hcells h1 h63 hbytes hbase
    exact ⟨v', w', hrun, h2, h3, h5⟩

theorem wpList_append_slK (w : World) {ops : Array Oper} {rest : List Oper} {o : Oper} {a : Act} {Q : Exit → Act → World → Prop} (hgd : o.guard = none) (s x : Operand) (t : TypeId)
    (ho : o.op = .call { callee := .builtin .append, args := #[s, x], argTypes := #[t, t] })
    (base : Nat) (e : TypeId) (i : TypeInfo) (z : Value) (size bytes : Nat) (ht : P.underlying t = some (.slice e)) (hi : P.info? e = some i) (hz : i.zero = some z)
    (hsize : i.size = size) (hby : i.bytes = bytes) (hzs : z.cells.size = size) (h0 : 0 < size)
    (v : Value) (n : Nat) (xs : List Value) (hs : a.eval s = v) (hown : w.ownsRow base e size v n xs)
    (B : Nat) (A : Option Addr) (m c : Nat) (news : List Value) (hx : a.eval x = .slice A m c) (hr : Sl w B A (m * size) news) (hc : A = none → c = 0) (h1 : ∀ u ∈ news, u.oneCell' = true)
    (h63 : n + m ≤ maxLen) (hbytes : (n + m) * bytes ≤ 140737488355328) (hbase : base ≤ w.heap.size)
    (h : ∀ v' w', w'.ownsRow base e size v' (n + m) (xs ++ news) → w.grownBy w' v.ownBlock → (v'.ownBlock = v.ownBlock ∨ v'.ownBlock = some w.heap.size) → wpList P ops Q rest (a.put o.dst v') w') : wpList P ops Q (o :: rest) a w := by
  refine wpList_plain hgd fun K hK => ?_
  obtain ⟨v', w', hrun, h2, h3, h4⟩ := run_append_slK (P := P) w base t o.type e i z size bytes ht hi hz hsize hby hzs h0 v n xs hown B A m c news hr hc h1 h63 hbytes hbase
  unfold Oper.wp execOp
  simp only [ho, resolve, invoke, builtin, Sem.run_bind, Sem.run_pure, Result.andThen_ok, List.map_toArray, List.map_cons, List.map_nil, hs, hx, hrun]
  exact hK _ _ (h v' w' h2 h3 h4)
end

/-- What is owned reads as its cells, elements of any size. -/
theorem slK_own {w : World} {base : Nat} {e : TypeId} {size n c : Nat} {A : Option Addr} {xs : List Value} (h : w.ownsRow base e size (.slice A n c) n xs) : Sl w w.heap.size A (n * size) xs ∧ n ≤ c ∧ (A = none → c = 0) := by
  obtain ⟨h1, ⟨hv, hn⟩ | ⟨g, cap, cur, hv, hb, hg, r1, r2, r3, r4⟩⟩ := h
  · injection hv with ha hl hc
    subst ha; subst hc; subst hn
    exact ⟨⟨h1, fun h => absurd h (by omega)⟩, Nat.le_refl _, fun _ => rfl⟩
  · injection hv with ha hl hc
    subst ha; subst hc
    refine ⟨⟨h1, fun _ => ⟨_, rfl, (Array.getElem?_eq_some_iff.1 hg).1, fun j u hu => ?_⟩⟩, r1, by intro h; cases h⟩
    rw [Addr.add_mid, Nat.zero_add, cell_of_row w g j cur e _ hg]
    rw [← r4, List.getElem?_take] at hu
    split at hu
    · simpa using hu
    · cases hu

theorem ownK_form {w : World} {base : Nat} {e : TypeId} {size : Nat} {v : Value} {n : Nat} {xs : List Value} (h : w.ownsRow base e size v n xs) : ∃ A c, v = .slice A n c := by
  rcases h.2 with ⟨hv, hn⟩ | ⟨g, cap, cur, hv, _⟩
  · exact ⟨none, 0, by rw [hv, hn]⟩
  · exact ⟨_, _, hv⟩

/-- A load of many cells at any address, behind a guard that lets it through. -/
theorem wpList_load_atG {P : Program} {ops : Array Oper} {rest : List Oper} {o : Oper} {a : Act} {w : World} {Q : Exit → Act → World → Prop} (hw : Region.wanted o (yielded ops a.tmps) = true) (ty : TypeId) (x : Operand) (ho : o.op = .load ty x)
    (p : Addr) (hx : a.eval x = .pointer (some p)) (cs : List Value) (d : TypeDesc) (hc : ∀ j v, cs[j]? = some v → w.cell? (p.add j) = some v)
    (hu : P.underlying ty = some d) (hd : d.isRow = true) (hi : (P.info? ty).map (·.size) = some cs.length)
    (h : wpList P ops Q rest (a.put o.dst (.agg cs.toArray)) w) : wpList P ops Q (o :: rest) a w := by
  unfold wpList
  rw [if_pos hw]
  refine .inl ?_
  unfold Oper.wp execOp
  simp only [ho, hx, Instr.loadAt, Instr.sureAddr, Sem.run_bind, Sem.run_pure, Result.andThen_ok, run_loadVar_at w p ty cs d hc hu hd hi]
  exact h
/-- A load of many cells at any address, in a region that stands still. -/
theorem wpStill_load_at {P : Program} {ops : Array Oper} {w : World} {Q : Act → Prop} {a : Act} {o : Oper} {rest : List Oper} (hgd : o.guard = none) (ty : TypeId) (x : Operand) (ho : o.op = .load ty x)
    (p : Addr) (hx : a.eval x = .pointer (some p)) (cs : List Value) (d : TypeDesc) (hc : ∀ j v, cs[j]? = some v → w.cell? (p.add j) = some v)
    (hu : P.underlying ty = some d) (hd : d.isRow = true) (hi : (P.info? ty).map (·.size) = some cs.length)
    (h : wpStill P ops w Q rest (a.put o.dst (.agg cs.toArray))) : wpStill P ops w Q (o :: rest) a := by
  have hw : Region.wanted o (yielded ops a.tmps) = true := by simp [Region.wanted, hgd]
  unfold wpStill
  rw [if_pos hw]
  unfold Oper.still execOp
  simp only [ho, hx, Instr.loadAt, Instr.sureAddr, Sem.run_bind, Sem.run_pure, Result.andThen_ok, run_loadVar_at w p ty cs d hc hu hd hi, Oper.stillUpon_value]
  exact h
/-- A struct built, behind a guard that lets it through. -/
theorem wpList_buildG {P : Program} {ops : Array Oper} {rest : List Oper} {o : Oper} {a : Act} {w : World} {Q : Exit → Act → World → Prop} (hw : Region.wanted o (yielded ops a.tmps) = true) (ty : TypeId) (parts : Array (Nat × Operand)) (ho : o.op = .build ty parts)
    (cells : List Value) (hb : P.built ty (parts.toList.map fun p => (p.1, a.eval p.2)) = some cells.toArray)
    (h : wpList P ops Q rest (a.put o.dst (.agg cells.toArray)) w) : wpList P ops Q (o :: rest) a w := by
  unfold wpList
  rw [if_pos hw]
  refine .inl ?_
  have hb' : P.built ty (parts.map fun (i, x) => (i, a.eval x)).toList = some cells.toArray := by rw [Array.toList_map]; exact hb
  unfold Oper.wp execOp
  simp only [ho, Sem.run_bind, run_build w ty _ cells.toArray hb', Result.andThen_ok]
  exact h

/-- A struct built, in a region that stands still. -/
theorem wpStill_build {P : Program} {ops : Array Oper} {w : World} {Q : Act → Prop} {a : Act} {o : Oper} {rest : List Oper} (hgd : o.guard = none) (ty : TypeId) (parts : Array (Nat × Operand)) (ho : o.op = .build ty parts)
    (cells : List Value) (hb : P.built ty (parts.toList.map fun p => (p.1, a.eval p.2)) = some cells.toArray) (h : wpStill P ops w Q rest (a.put o.dst (.agg cells.toArray))) : wpStill P ops w Q (o :: rest) a := by
  have hw : Region.wanted o (yielded ops a.tmps) = true := by simp [Region.wanted, hgd]
  unfold wpStill
  rw [if_pos hw]
  unfold Oper.still
  rw [exec_build ty parts ho cells hb w]
  simp only [Oper.stillUpon_value]
  exact h

/-- A field of a struct that is no variable, as a step. -/
theorem wpList_field {P : Program} {ops : Array Oper} {rest : List Oper} {o : Oper} {a : Act} {w : World} {Q : Exit → Act → World → Prop} (hgd : o.guard = none) (t : TypeId) (x : Operand) (i : Nat) (ho : o.op = .field t x i) (v : Value) (hr : (execOp a.eval o).run P w = .ok (.value v) w) (h : wpList P ops Q rest (a.put o.dst v) w) : wpList P ops Q (o :: rest) a w := by
  refine wpList_plain hgd fun K hK => ?_
  unfold Oper.wp
  rw [hr]
  exact hK _ _ h

/-- An operation that gives a value and leaves the world as it is, as a step. -/
theorem wpList_valueA {P : Program} {ops : Array Oper} {rest : List Oper} {o : Oper} {a : Act} {w : World} {Q : Exit → Act → World → Prop} (hgd : o.guard = none) (v : Value) (hr : (execOp a.eval o).run P w = .ok (.value v) w) (h : wpList P ops Q rest (a.put o.dst v) w) : wpList P ops Q (o :: rest) a w := by
  refine wpList_plain hgd fun K hK => ?_
  unfold Oper.wp
  rw [hr]
  exact hK _ _ h

end Go.Proofs.Ytfmbehjllkmfiaa
