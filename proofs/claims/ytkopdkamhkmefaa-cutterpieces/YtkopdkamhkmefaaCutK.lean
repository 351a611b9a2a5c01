/- General: only some blocks have turned. No program is named here. -/
import Derived.Test.YtkopdkamhkmefaaLW
namespace Go.Proofs.Ytkopdkamhkmefaa
set_option maxRecDepth 100000
open Go Go.RowKit
set_option linter.unusedVariables false
set_option linter.unusedSimpArgs false

/-- Only the blocks of 'own' have turned. -/
structure Turns (own : List Nat) (w w' : World) : Prop where
  os : w'.os = w.os
  tape : w'.tape = w.tape
  output : w'.output = w.output
  size : w.heap.size ≤ w'.heap.size
  block : ∀ k, k < w.heap.size → k ∉ own → w'.heap[k]? = w.heap[k]?
section
variable {own : List Nat} {a w w' w'' : World} {B : Nat}
theorem Turns.refl (own : List Nat) (w : World) : Turns own w w := ⟨rfl, rfl, rfl, Nat.le_refl _, fun _ _ _ => rfl⟩
theorem Turns.trans (h : Turns own w w') (k : Turns own w' w'') : Turns own w w'' :=
  ⟨k.os.trans h.os, k.tape.trans h.tape, k.output.trans h.output, Nat.le_trans h.size k.size, fun i hi hn => (k.block i (Nat.lt_of_lt_of_le hi h.size) hn).trans (h.block i hi hn)⟩
theorem Turns.of_below (h : Below w.heap.size w w') : Turns own w w' := ⟨h.os, h.tape, h.output, h.size, fun i hi _ => h.block i hi⟩
theorem Turns.of_but {g : Nat} (h : w.grownBy w' (some g)) (hg : g ∈ own) : Turns own w w' := ⟨h.os, h.tape, h.output, h.size, fun i hi hn => h.block i hi (fun e => hn (by injection e with e; rw [e]; exact hg))⟩
theorem Turns.below (h : Turns own w w') (hb : Below B a w) (hB : B ≤ w.heap.size) (ho : ∀ k, k ∈ own → B ≤ k) : Below B a w' :=
  hb.trans ⟨h.os, h.tape, h.output, h.size, fun i hi => h.block i (by omega) (fun hk => by have := ho i hk; omega)⟩
theorem Turns.bl {g : Nat} {cs : List Value} {t : TypeId} (h : Turns own w w') (hb : Bl w g cs t) (hg : g ∉ own) : Bl w' g cs t := hb.keep (h.block g hb.lt hg)
theorem Turns.sl {n : Nat} {A : Option Addr} {xs : List Value} (h : Turns own w w') (hs : Sl w B A n xs) (hB : B ≤ w.heap.size) (ho : 0 < n → ∀ ad, A = some ad → ad.block ∉ own) : Sl w' B A n xs :=
  ⟨hs.1, fun hn => by
    obtain ⟨ad, e, hb, hc⟩ := hs.2 hn
    refine ⟨ad, e, hb, fun j u hu => ?_⟩
    rw [World.cell?_of_block (w := w) (h.block _ (by rw [add_block]; omega) (by rw [add_block]; exact ho hn ad e))]
    exact hc j u hu⟩
end

/-- The one operation that may come up, in a region walked under a held fact. -/
theorem wpAnyH_one {P : Program} {md : Region.Mode} {ops : Array Oper} {Q : Exit → Act → World → Prop} {S : World → Prop} {i : Nat} {oi : Oper} {fuel : Nat} {listed : Array Bool} {a : Act} {w : World} (hr : Region.ready md ops listed = [i]) (hi : ops[i]? = some oi)
    (hw : Region.wanted oi (yielded ops a.tmps) = true)
    (h : ∀ K' : Act → World → Prop, Shut (∀ a w, S w → (S w → wpAnyH P md ops Q S fuel (listed.setIfInBounds i true) a w) → K' a w) → Oper.wp P oi a w K' Q) : wpAnyH P md ops Q S (fuel + 1) listed a w :=
  wpAnyH_ready hr (by simp) (AllReadyH.cons hi (fun K hK => by rw [if_pos hw]; exact h K hK) AllReadyH.nil)

/-- append in a region that draws its order, by its run. -/
theorem op_append14 {P : Program} {o : Oper} {a : Act} {w w' : World} {K : Act → World → Prop} {Q : Exit → Act → World → Prop} (s x : Operand) (t : TypeId)
    (ho : o.op = .call { callee := .builtin .append, args := #[s, x], argTypes := #[t, t] }) (v y v' : Value) (hs : a.eval s = v) (hx : a.eval x = y)
    (hrun : (Builtin.append_ #[t, t] o.type #[v, y]).run P w = .ok v' w') (h : K (a.put o.dst v') w') : Oper.wp P o a w K Q := by
  unfold Oper.wp execOp
  simp only [ho, resolve, invoke, builtin, Sem.run_bind, Sem.run_pure, Result.andThen_ok, List.map_toArray, List.map_cons, List.map_nil, hs, hx, hrun]
  exact h

/-- 's[k:]' behind a guard that lets it through. -/
theorem wpList_slice_fromG {P : Program} {ops : Array Oper} {rest : List Oper} {o : Oper} {a : Act} {w : World} {Q : Exit → Act → World → Prop} (hw : Region.wanted o (yielded ops a.tmps) = true) (t : TypeId) (x lo : Operand) (ho : o.op = .slice t x (some lo) none none)
    (e : TypeId) (ht : P.underlying t = some (.slice e)) (he : (P.info? e).map (·.size) = some 1) (A : Option Addr) (n c k : Nat) (kl : IntKind) (L : Int) (hx : a.eval x = .slice A n c) (hlo : a.eval lo = .int kl L) (eL : L = k) (hk : k ≤ n) (hc : n ≤ c) (hA : A = none → c = 0)
    (h : ∀ A', Hid (A' = if c = k then A else A.map (·.add k)) → wpList P ops Q rest (a.put o.dst (.slice A' (n - k) (c - k))) w) : wpList P ops Q (o :: rest) a w := by
  have hr := run_slice_from (P := P) w t e ht he A n c k kl L eL hk hc hA
  unfold wpList
  rw [if_pos hw]
  refine .inl ?_
  unfold Oper.wp execOp
  simp only [ho, Option.map_some, Option.map_none, hx, hlo, Instr.sliceAt, Sem.run_bind, run_underlying ht, Result.andThen_ok, hr]
  exact h _ rfl

/-- A step behind a guard that lets it through, in a region that stands still. -/
theorem wpStill_guarded {P : Program} {ops : Array Oper} {w : World} {Q : Act → Prop} {a : Act} {o : Oper} {rest : List Oper} (hw : Region.wanted o (yielded ops a.tmps) = true)
    (h : ∀ K : Act → Prop, (∀ a, wpStill P ops w Q rest a → K a) → o.still P a w K) : wpStill P ops w Q (o :: rest) a := by
  unfold wpStill
  rw [if_pos hw]
  exact h _ (fun _ h => h)

/-- 's[l:h]' of a slice that is there, in a region that stands still. -/
theorem wpStill_slice_lh {P : Program} {ops : Array Oper} {w : World} {Q : Act → Prop} {a : Act} {o : Oper} {rest : List Oper} (hw : Region.wanted o (yielded ops a.tmps) = true) (t : TypeId) (x lo hi : Operand) (ho : o.op = .slice t x (some lo) (some hi) none)
    (e : TypeId) (ht : P.underlying t = some (.slice e)) (he : (P.info? e).map (·.size) = some 1) (ad : Addr) (n c l h : Nat) (kl kh : IntKind) (L H : Int) (hx : a.eval x = .slice (some ad) n c) (hlo : a.eval lo = .int kl L) (hhi : a.eval hi = .int kh H) (eL : L = l) (eH : H = h) (h1 : l ≤ h) (h2 : h ≤ c) (h3 : l < c)
    (k : wpStill P ops w Q rest (a.put o.dst (.slice (some (ad.add l)) (h - l) (c - l)))) : wpStill P ops w Q (o :: rest) a := by
  have hr := run_slice_lh (P := P) w t e ht he (some ad) n c l h kl kh L H eL eH h1 h2 (by intro e; cases e)
  rw [if_neg (by omega : ¬ c = l), Option.map_some] at hr
  unfold wpStill
  rw [if_pos hw]
  unfold Oper.still execOp
  simp only [ho, Option.map_some, Option.map_none, hx, hlo, hhi, Instr.sliceAt, Sem.run_bind, run_underlying ht, Result.andThen_ok, hr, Sem.run_pure, Oper.stillUpon_value]
  exact k
/-- A conversion in a region that stands still, by its run. -/
theorem wpStill_convert {P : Program} {ops : Array Oper} {w : World} {Q : Act → Prop} {a : Act} {o : Oper} {rest : List Oper} (hw : Region.wanted o (yielded ops a.tmps) = true) (t t' : TypeId) (x : Operand) (ho : o.op = .convert t t' x) (v s : Value) (hx : a.eval x = v)
    (hr : (convert t t' v).run P w = .ok s w) (k : wpStill P ops w Q rest (a.put o.dst s)) : wpStill P ops w Q (o :: rest) a := by
  unfold wpStill
  rw [if_pos hw]
  unfold Oper.still execOp
  simp only [ho, hx, Sem.run_bind, hr, Result.andThen_ok, Sem.run_pure, Oper.stillUpon_value]
  exact k

end Go.Proofs.Ytkopdkamhkmefaa
