/- A source of the program and one of the document beside one another, through a step. -/
import Derived.Test.YtmemgiekkedeoaaLF
namespace Go.Proofs.Ytmemgiekkedeoaa
set_option maxRecDepth 100000
open Go.RowKit
set_option linter.unusedVariables false
set_option linter.unusedSimpArgs false

/-- The program's source lies at g, the document's in the variable gr; both have the bytes l left and d drawn; their bytes lie in no block of F. -/
structure Both (F : Nat → Prop) (w : World) (g gr : Nat) (A : Option Addr) (n c : Nat) (l : List UInt8) (d : Nat) (R : Option Addr) (rc : Nat) : Prop where
  src : Src w g A n c l d
  bl : Bl w gr (rsC R n rc (d : Int)) 29
  sl : Sl w w.heap.size R n (cb l)
  cap : n ≤ rc
  nn : R = none → rc = 0
  away : ∀ k, F k → Off k n A ∧ Off k n R

section
variable {F : Nat → Prop} {w w' : World} {g gr n c d rc k mn : Nat} {A R : Option Addr} {l : List UInt8}
/- of a program with 29 -/
theorem Both.next (h : Both F w g gr A n c l d R rc) (hb : Below w.heap.size w w') : Both F w' g gr A n c l d R rc := ⟨h.src.next hb, h.bl.next hb, h.sl.nx hb, h.cap, h.nn, h.away⟩
theorem Both.other (h : Both F w g gr A n c l d R rc) (hg : w.grownBy w' (some k)) (hk : F k) (h1 : k ≠ g) (h2 : k ≠ gr) : Both F w' g gr A n c l d R rc :=
  ⟨h.src.but hg h1 (h.away k hk).1, h.bl.grown hg (fun e => by injection e with e; exact h2 e), h.sl.nb hg (h.away k hk).2, h.cap, h.nn, h.away⟩
theorem Both.row {row : Option Nat} (h : Both F w g gr A n c l d R rc) (hg : w.grownBy w' row) (h1 : row ≠ some g) (h2 : row ≠ some gr) (ha : 0 < n → ∀ ad, A = some ad → row ≠ some ad.block) (hr : 0 < n → ∀ ad, R = some ad → row ≠ some ad.block) : Both F w' g gr A n c l d R rc :=
  ⟨h.src.row hg h1 ha, h.bl.grown hg h2, sl_row h.sl hg hr, h.cap, h.nn, h.away⟩
theorem Both.step {e : Ending} (h : Both F w g gr A n c l d R rc) (hF : ∀ k, F k → k < w.heap.size) (hg : F g) (hgr : F gr) (hne : g ≠ gr) (hp : DoesPost w g n A l d R n mn e w') :
    ∃ A' n' c' l' d' R' rc', e = .returned (.tuple #[.agg (rsC R' n' rc' ((d' : Nat) : Int)).toArray, .bool true]) ∧ w'.there gr 0 (rsC R' n' rc' (d' : Int)).toArray.size ∧
      (∃ W, Hid (w'.setCells gr 0 (rsC R' n' rc' (d' : Int)).toArray.toList = W) ∧ Both F W g gr A' n' c' l' d' R' rc' ∧ w'.grownBy W (some gr)) ∧ n' + d' ≤ n + d + mn ∧ w.grownBy w' (some g) := by
  obtain ⟨R', rn', rc', A', n', c', l', d', rfl, s1, f1, r1, k1, z1, f2, hs, hgr1⟩ := hp
  have hn : rn' = n' := by rw [s1.len, ← r1.1, cb_len]
  subst hn
  have b1 := h.bl.grown hgr1 (fun e => by injection e with e; exact hne e)
  have g2 : w'.grownBy (w'.setCells gr 0 (rsC R' rn' rc' (d' : Int))) (some gr) := but_setCells (but_refl w' _) 0 _
  have haw : ∀ k, F k → Off k rn' A' ∧ Off k rn' R' := fun k hk => ⟨f1.off (h.away k hk).1 (hF k hk), f2.off (h.away k hk).2 (hF k hk)⟩
  exact ⟨A', rn', c', l', d', R', rc', rfl, b1.there_ (by simp [rsC]), ⟨_, (rfl : _ = _), ⟨s1.but g2 (Ne.symm hne) (haw gr hgr).1, b1.over rfl, r1.nb g2 (haw gr hgr).2, k1, z1, haw⟩, g2⟩, hs, hgr1⟩
end

/-- A source of the document's is put into a new variable: the world behind it under a name. -/
theorem put_rs (w : World) (R : Option Addr) (n c : Nat) (d : Int) (T : TypeId) : ∃ W, Hid ((w.alloc (.cells (rsC none 0 0 0).toArray T)).setCells w.heap.size 0 (rsC R n c d).toArray.toList = W) ∧ (w.alloc (.cells (rsC none 0 0 0).toArray T)).there w.heap.size 0 (rsC R n c d).toArray.size ∧
    Bl W w.heap.size (rsC R n c d) T ∧ Below w.heap.size w W ∧ W.heap.size = w.heap.size + 1 := by
  obtain ⟨b0, hb0, hsz0⟩ := put_new w (rsC none 0 0 0) (rsC R n c d) T rfl
  exact ⟨_, (rfl : _ = _), (Bl.new w (rsC none 0 0 0) T).there_ (by simp [rsC]), b0, hb0, hsz0⟩

theorem sl_lt {w : World} {B n : Nat} {A : Option Addr} {xs : List Value} (h : Sl w B A n xs) (hn : 0 < n) {ad : Addr} (e : A = some ad) : ad.block < B := by
  obtain ⟨a, e2, hb, _⟩ := h.2 hn
  rw [e] at e2; injection e2 with e2; subst e2; exact hb

theorem built_rs0 (R : Option Addr) (rn rc : Nat) : Try.prog.built 29 [(0, .slice R rn rc)] = some (rsC R rn rc 0).toArray := by kernel_rfl

theorem few_yes {n0 : Nat} {ds : List (Int × List UInt8)} (h : fewB n0 ds = true) : ds.length ≤ 30 ∧ n0 ≤ 4000 ∧ ∀ j (hj : j < ds.length), ds[j].2.length ≤ 400 := by
  unfold fewB at h
  rw [decide_eq_true_eq] at h
  exact ⟨h.1, h.2.1, fun j hj => h.2.2 _ (List.getElem_mem hj)⟩

theorem run_slice_top {P : Program} (w : World) (t e : TypeId) (s : Nat) (ht : P.underlying t = some (.slice e)) (he : (P.info? e).map (·.size) = some s) (A : Option Addr) (n c h : Nat) (kh : IntKind) (H : Int) (eH : H = h) (h1 : h ≤ c) :
    (Instr.slice t (.slice A n c) none (some (.int kh H)) none).run P w = .ok (.slice A h c) w := by
  subst eH
  cases hq : P.info? e with
  | none => simp [hq] at he
  | some i =>
    have hs : i.size = s := by simpa [hq] using he
    rcases A with _ | a <;> simp [Instr.slice, run_underlying ht, Instr.sliceBounds, run_sliceBound, sizeOf, typeInfo, hq, hs, h1, add_none]

/-- 's[:h]' of elements of any size, as a step. -/
theorem wpList_slice_top {P : Program} {ops : Array Oper} {rest : List Oper} {o : Oper} {a : Act} {w : World} {Q : Exit → Act → World → Prop} (hgd : o.guard = none) (t : TypeId) (x hi : Operand) (ho : o.op = .slice t x none (some hi) none)
    (e : TypeId) (s : Nat) (ht : P.underlying t = some (.slice e)) (he : (P.info? e).map (·.size) = some s) (A : Option Addr) (n c h : Nat) (kh : IntKind) (H : Int) (hx : a.eval x = .slice A n c) (hhi : a.eval hi = .int kh H) (eH : H = h) (h1 : h ≤ c)
    (hk : wpList P ops Q rest (a.put o.dst (.slice A h c)) w) : wpList P ops Q (o :: rest) a w := by
  refine wpList_plain hgd fun K hK => ?_
  have hr := run_slice_top (P := P) w t e s ht he A n c h kh H eH h1
  unfold Oper.wp execOp
  simp only [ho, Option.map_some, Option.map_none, hx, hhi, Instr.sliceAt, Sem.run_bind, run_underlying ht, Result.andThen_ok, hr]
  exact hK _ _ hk

theorem run_slice_end {P : Program} (w : World) (t e : TypeId) (s : Nat) (ht : P.underlying t = some (.slice e)) (he : (P.info? e).map (·.size) = some s) (A : Option Addr) (n c k : Nat) (kl : IntKind) (L : Int) (eL : L = k) (hk : k ≤ n) (hc : n ≤ c) (hA : A = none → c = 0) :
    (Instr.slice t (.slice A n c) (some (.int kl L)) none none).run P w = .ok (.slice (if c = k then A else A.map (·.add (k * s))) (n - k) (c - k)) w := by
  subst eL
  cases hq : P.info? e with
  | none => simp [hq] at he
  | some i =>
    have hs : i.size = s := by simpa [hq] using he
    rcases A with _ | a
    · obtain rfl := hA rfl
      obtain rfl : n = 0 := by omega
      obtain rfl : k = 0 := by omega
      simp [Instr.slice, run_underlying ht, Instr.sliceBounds, run_sliceBound, sizeOf, typeInfo, hq]
    · simp [Instr.slice, run_underlying ht, Instr.sliceBounds, run_sliceBound, sizeOf, typeInfo, hq, hs, hk]

/-- 's[k:]' of elements of any size, as a step: where the rest lies stays under one name. -/
theorem wpList_slice_end {P : Program} {ops : Array Oper} {rest : List Oper} {o : Oper} {a : Act} {w : World} {Q : Exit → Act → World → Prop} (hgd : o.guard = none) (t : TypeId) (x lo : Operand) (ho : o.op = .slice t x (some lo) none none)
    (e : TypeId) (s : Nat) (ht : P.underlying t = some (.slice e)) (he : (P.info? e).map (·.size) = some s) (A : Option Addr) (n c k : Nat) (kl : IntKind) (L : Int) (hx : a.eval x = .slice A n c) (hlo : a.eval lo = .int kl L) (eL : L = k) (hk : k ≤ n) (hc : n ≤ c) (hA : A = none → c = 0)
    (A' : Option Addr) (hA' : A' = if c = k then A else A.map (·.add (k * s))) (h : wpList P ops Q rest (a.put o.dst (.slice A' (n - k) (c - k))) w) : wpList P ops Q (o :: rest) a w := by
  refine wpList_plain hgd fun K hK => ?_
  have hr := run_slice_end (P := P) w t e s ht he A n c k kl L eL hk hc hA
  unfold Oper.wp execOp
  simp only [ho, Option.map_some, Option.map_none, hx, hlo, Instr.sliceAt, Sem.run_bind, run_underlying ht, Result.andThen_ok, hr, ← hA']
  exact hK _ _ h

/-- A new variable of many cells, as a step of a drawn region. -/
theorem wp_alloc_zero {P : Program} {o : Oper} {a : Act} {w : World} {K : Act → World → Prop} {Q : Exit → Act → World → Prop} (ty : TypeId) (ho : o.op = .alloc ty)
    (z : List Value) (hz : (P.info? ty).map (·.zero) = some (some (.agg z.toArray))) (h : K (a.put o.dst (.pointer (some ⟨w.heap.size, 0, none⟩))) (w.alloc (.cells z.toArray ty))) : Oper.wp P o a w K Q := by
  cases hq : P.info? ty with
  | none => simp [hq] at hz
  | some i =>
    have hz' : i.zero = some (.agg z.toArray) := by simpa [hq] using hz
    have hr : (Instr.alloc ty true (.tuple #[])).run P w = .ok (.pointer (some ⟨w.heap.size, 0, none⟩)) (w.alloc (.cells z.toArray ty)) := by
      simp [Instr.alloc, zeroValue, typeInfo, hq, hz', newVar, newRow, Value.cells]
    unfold Oper.wp execOp
    simp only [ho, Sem.run_bind, hr, Result.andThen_ok]
    exact h

/-- A struct at any address, as a step. -/
theorem exec_load_at {P : Program} {a : Act} {o : Oper} (w : World) (ty : TypeId) (x : Operand) (ho : o.op = .load ty x) (p : Addr) (hx : a.eval x = .pointer (some p)) (cs : List Value) (d : TypeDesc) (hc : ∀ j v, cs[j]? = some v → w.cell? (p.add j) = some v)
    (hu : P.underlying ty = some d) (hd : d.isRow = true) (hi : (P.info? ty).map (·.size) = some cs.length) : (execOp a.eval o).run P w = .ok (.value (.agg cs.toArray)) w := by
  unfold execOp
  simp only [ho, hx, Instr.loadAt, Instr.sureAddr, Sem.run_bind, Sem.run_pure, Result.andThen_ok, run_loadVar_at w p ty cs d hc hu hd hi]

/-- More blocks are told apart: those that are new. -/
theorem Both.wide {F F' : Nat → Prop} {w : World} {g gr n c d rc : Nat} {A R : Option Addr} {l : List UInt8} (h : Both F w g gr A n c l d R rc) (hF : ∀ k, F' k → F k ∨ w.heap.size ≤ k) : Both F' w g gr A n c l d R rc :=
  ⟨h.src, h.bl, h.sl, h.cap, h.nn, fun k hk => (hF k hk).elim (h.away k) (fun h1 => ⟨Sl.off h.src.sl h1, Sl.off h.sl h1⟩)⟩ /- 29 -/

/-- A source and its copy, each with the document's beside it. -/
theorem both_pair {F F2 : Nat → Prop} {w0 w12 : World} {g gr h hr n c c' d rc : Nat} {A A' R : Option Addr} {l : List UInt8} (B : Both F w0 g gr A n c l d R rc) (hb : Below w0.heap.size w0 w12) (s2 : Src w12 h A' n c' l d)
    (b2 : Bl w12 hr (rsC R n rc (d : Int)) 29) (hh : w0.heap.size ≤ h) (hhr : w0.heap.size ≤ hr) (hnA : ∀ ad, A' = some ad → w0.heap.size ≤ ad.block) (hoA : Off hr n A') (hF : ∀ k, F k → k < w0.heap.size) (hF2 : ∀ k, F2 k → F k ∨ k = h ∨ k = hr) :
    Both F2 w12 g gr A n c l d R rc ∧ Both F2 w12 h hr A' n c' l d R rc := by
  refine ⟨(B.wide (fun k hk => ?_)).next hb, ⟨s2, b2, B.sl.nx hb, B.cap, B.nn, fun k hk => ?_⟩⟩
  · rcases hF2 k hk with h1 | rfl | rfl
    · exact .inl h1
    · exact .inr hh
    · exact .inr hhr
  · rcases hF2 k hk with h1 | rfl | rfl
    · exact ⟨fun h0 ad e e2 => by have h2 := hnA ad e; have h3 := hF k h1; omega, (B.away k h1).2⟩
    · exact ⟨s2.off, Sl.off B.sl hh⟩
    · exact ⟨hoA, Sl.off B.sl hhr⟩

end Go.Proofs.Ytmemgiekkedeoaa
