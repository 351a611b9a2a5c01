/- A range over an iterator that keeps a state of its own in memory between two rounds: what the iterator may turn are blocks of some types, laid since it was called. No program is named here. -/
import Derived.Test.YtkopdkamhkmefaaRng
import Derived.Test.YtkopdkamhkmefaaCutK
namespace Go.Proofs.Ytkopdkamhkmefaa
set_option maxRecDepth 100000
open Go Go.RowKit
set_option linter.unusedVariables false
set_option linter.unusedSimpArgs false

/-- What lay below B lies as it lay; so do all cells of no type of T. -/
structure Lax (T : TypeId → Prop) (B : Nat) (A A' : World) : Prop where
  os : A'.os = A.os
  tape : A'.tape = A.tape
  output : A'.output = A.output
  size : A.heap.size ≤ A'.heap.size
  old : ∀ k : Nat, k < B → A'.heap[k]? = A.heap[k]?
  cells : ∀ (k : Nat) (cs : Array Value) (t : TypeId) fr, A.heap[k]? = some (Obj.cells cs t fr) → ¬ T t → A'.heap[k]? = some (Obj.cells cs t fr)
section
variable {T : TypeId → Prop} {B B' : Nat} {A A' A'' : World}
theorem Lax.refl (T : TypeId → Prop) (B : Nat) (A : World) : Lax T B A A := ⟨rfl, rfl, rfl, Nat.le_refl _, fun _ _ => rfl, fun _ _ _ _ h _ => h⟩
theorem Lax.trans (h : Lax T B A A') (k : Lax T B A' A'') : Lax T B A A'' :=
  ⟨k.os.trans h.os, k.tape.trans h.tape, k.output.trans h.output, Nat.le_trans h.size k.size, fun i hi => (k.old i hi).trans (h.old i hi), fun i cs t fr e ht => k.cells i cs t fr (h.cells i cs t fr e ht) ht⟩
theorem Lax.mono (h : Lax T B A A') (hB : B' ≤ B) : Lax T B' A A' := ⟨h.os, h.tape, h.output, h.size, fun i hi => h.old i (by omega), h.cells⟩
theorem Lax.of_below (h : Below A.heap.size A A') (hB : B ≤ A.heap.size) : Lax T B A A' :=
  ⟨h.os, h.tape, h.output, h.size, fun i hi => h.block i (by omega), fun i cs t fr e _ => (h.block i (Array.getElem?_eq_some_iff.1 e).1).trans e⟩
theorem Lax.of_turns {own : List Nat} (h : Turns own A A') (hB : B ≤ A.heap.size) (ho : ∀ k, k ∈ own → B ≤ k ∧ ∃ cs t, Bl A k cs t ∧ T t) : Lax T B A A' :=
  ⟨h.os, h.tape, h.output, h.size, fun i hi => h.block i (by omega) (fun hk => by have := (ho i hk).1; omega), fun i cs t fr e ht => (h.block i (Array.getElem?_eq_some_iff.1 e).1 (fun hk => by
    obtain ⟨_, cs', t', hb, ht'⟩ := ho i hk
    have e2 : A.heap[i]? = some (Obj.cells cs'.toArray t' (0, 0)) := hb
    rw [e] at e2
    injection e2 with e2
    injection e2 with _ e3 _
    rw [e3] at ht
    exact ht ht')).trans e⟩
theorem Lax.putObj {l : Nat} {o : Obj} (o' : Obj) (h : A.heap[l]? = some o) (ho : o.isCells = false) (hB : B ≤ l) : Lax T B A (A.putObj l o') :=
  ⟨rfl, rfl, rfl, by rw [World.putObj_size]; exact Nat.le_refl _, fun i hi => World.putObj_heap_other (by omega), fun i cs t fr e _ => (World.putObj_heap_other (fun e2 => by
    subst e2
    rw [h] at e
    injection e with e
    subst e
    cases ho)).trans e⟩
theorem Lax.bl {g : Nat} {cs : List Value} {t : TypeId} (h : Lax T B A A') (hb : Bl A g cs t) (ht : g < B ∨ ¬ T t) : Bl A' g cs t := by
  rcases ht with ht | ht
  · exact hb.keep (h.old g ht)
  · exact h.cells g _ _ _ hb ht
theorem Lax.sl {n : Nat} {a : Option Addr} {xs : List Value} (h : Lax T B A A') (hs : Sl A B a n xs) : Sl A' B a n xs :=
  hs.map_ fun p hp => World.cell?_of_block (h.old _ hp)
theorem Lax.below (h : Lax T B A A') {w : World} {b : Nat} (hb : Below b w A) (hB : b ≤ B) : Below b w A' := hb.trans ⟨h.os, h.tape, h.output, h.size, fun i hi => h.old i (by omega)⟩
end
/-- A word that abides all that. -/
def LaxFrom {β : Type} (T : TypeId → Prop) (B : Nat) (I : β → World → Prop) : Prop := ∀ s A A', I s A → Lax T B A A' → I s A'

/-- An iterator that may turn cells of the types T, laid since it was called. -/
def IterT {α : Type} (n : Nat) (P : Program) (g : Nat) (lb : Array Value) (encs : α → Array Value) (T : TypeId → Prop) (Kp : World → World → Prop) (S Sp : List α → Prop) (N : Nat) (w : World) : Prop :=
  ∀ (l : Nat) (J Jx : List α → World → Prop) (W : World), Below w.heap.size w W → LaxFrom T W.heap.size J → LaxFrom T W.heap.size Jx →
    (∀ pre x W1, J pre W1 → pre.length < N → YieldAt Fence.wide (n - 1) P l (encs x) W1 fun e W' => (e = .returned (.bool true) ∧ J (pre ++ [x]) W' ∧ Kp W1 W') ∨ (e = .returned (.bool false) ∧ Jx (pre ++ [x]) W')) →
    J [] W → CallsIn Fence.wide n P g (#[.func (.yield l) #[] #[]] ++ lb) W fun e W' => (∃ v, e = .returned v) ∧ ((∃ xs, S xs ∧ J xs W') ∨ (∃ pre, Sp pre ∧ Jx pre W'))

/-- How a round may end. -/
def roundEnd {α : Type} (B : Nat) (Kp : World → World → Prop) (I : List α → World → Prop) (Ix : Code → List α → World → Prop) (xs : List α) (W : World) : Exit → Act → World → Prop
  | .normal, _, W' => KeepsFrom B W W' ∧ Kp W W' ∧ I xs W'
  | .ret, _, W' => KeepsFrom B W W' ∧ Ix .ret xs W'
  | .exit id, _, W' => KeepsFrom B W W' ∧ Ix (.exit id) xs W'
  | _, _, _ => False

section
variable {α : Type} {n : Nat} {P : Program} {g : Operand} {ps : Array Tmp} {assign body : Code} {Q : Exit → Act → World → Prop} {a : Act} {w : World}
set_option maxHeartbeats 1000000 in
theorem wpIn_range_lax (h1 : 1 ≤ n) {gf : Nat} {lb : Array Value} (hg : a.eval g = .func (.func gf) #[] lb) (eg : ∀ args w, (callFunc gf args).run P w = .ok (.enter gf args) w)
    {encs : α → Array Value} {T : TypeId → Prop} {Kp : World → World → Prop} {S Sp : List α → Prop} {N : Nat} {w0 : World} (hseq : IterT (n - 1) P gf lb encs T Kp S Sp N w0)
    (hKt : ∀ {X Y Z : World}, Kp X Y → Kp Y Z → Kp X Z) (hKb : ∀ (W : World) (l : Nat) (o o' : Obj), w.heap.size ≤ l → W.heap[l]? = some o → o.isCells = false → Kp W (W.putObj l o')) (hb0 : Below w0.heap.size w0 w) (hps : ∀ x, (encs x).size = ps.size)
    (I : List α → World → Prop) (Ix : Code → List α → World → Prop) (hI : LaxFrom T w.heap.size I) (hIx : ∀ c, LaxFrom T w.heap.size (Ix c)) (h0 : I [] w) (Ax : α → Act → Prop)
    (hassign : ∀ (l : Nat) (x : α) (W : World), assign.wpIn (Fence.wide.inRound l) (n - 1 - 1) P (Exit.then (fun a' W' => W' = W ∧ Ax x a') (fun _ _ _ => False)) { tmps := (ps.zip (encs x)).foldl (fun t (p, v) => t.setIfInBounds p v) a.tmps, defers := [] } W)
    (hbody : ∀ (l : Nat) (pre : List α) (x : α) (a' : Act) (W : World), w.heap.size ≤ l → I pre W → Ax x a' → pre.length < N → body.wpIn (Fence.wide.inRound l) (n - 1 - 1) P (roundEnd w.heap.size Kp I Ix (pre ++ [x]) W) a' W)
    (hdone : ∀ (D : Nat) (xs : List α) (W : World), w.heap.size ≤ D → S xs → I xs W → W.heap[D]? = some (.deferred (some [])) → Q .normal { a with defers := { target := .collected D, args := #[] } :: a.defers } W)
    (hstop : ∀ (D : Nat) (c : Code) (pre : List α) (W : World), w.heap.size ≤ D → Sp pre → Ix c pre W → W.heap[D]? = some (.deferred (some [])) → c.wpIn Fence.wide n P Q { a with defers := { target := .collected D, args := #[] } :: a.defers } W) :
    (Code.rangeFunc g ps assign body).wpIn Fence.wide n P Q a w := by
  refine wpIn_rangeFunc fun fn hfn => ?_
  -- the two blocks of book-keeping: D the rounds' deferred calls, D + 1 the record
  obtain ⟨D, hD⟩ : ∃ D, D = w.heap.size := ⟨_, rfl⟩
  obtain ⟨rec, hrec⟩ : ∃ rec : LoopState → Option Code → Loop, rec = fun st pe => { state := st, pending := pe, fn := fn, tmps := a.tmps, params := ps, assign := assign, body := body, defers := w.heap.size } := ⟨_, rfl⟩
  obtain ⟨W1, hW1⟩ : ∃ W1, W1 = (w.alloc (.deferred (some []))).alloc (.loop (rec .ready none)) := ⟨_, rfl⟩
  have hs1 : W1.heap.size = D + 2 := by rw [hW1, hD]; simp
  have hbw : Below w.heap.size w W1 := by rw [hW1]; exact ((Below.refl _ w).alloc (Nat.le_refl _) _).alloc (by simp) _
  have hr1 : W1.heap[D + 1]? = some (.loop (rec .ready none)) := by
    have := World.alloc_heap_new (w.alloc (.deferred (some []))) (.loop (rec .ready none))
    rw [World.size_alloc, ← hD, ← hW1] at this
    exact this
  have hd1 : W1.heap[D]? = some (.deferred (some [])) := by
    rw [hW1]
    exact (Below.heap_alloc _ _ _ (by simp; omega)).trans (by rw [hD]; exact World.alloc_heap_new w _)
  have hI1 : I [] W1 := hI _ _ _ h0 (Lax.of_below hbw (Nat.le_refl _))
  have hput : ∀ (k : Nat) (o o' : Obj) (W : World) (s : List α), I s W → W.heap[k]? = some o → o.isCells = false → D ≤ k → I s (W.putObj k o') := fun k o o' W s hi e ho hk => hI _ _ _ hi (Lax.putObj o' e ho (by omega))
  have hputx : ∀ (c : Code) (k : Nat) (o o' : Obj) (W : World) (s : List α), Ix c s W → W.heap[k]? = some o → o.isCells = false → D ≤ k → Ix c s (W.putObj k o') := fun c k o o' W s hi e ho hk => hIx c _ _ _ hi (Lax.putObj o' e ho (by omega))
  refine ⟨D + 1, [{ target := .collected D, args := #[] }], W1, { target := .fn (.func gf) lb, args := #[.func (.yield (D + 1)) #[] #[]] }, W1, gf, #[.func (.yield (D + 1)) #[] #[]] ++ lb, W1, ?_, ?_, ?_, ?_, fun _ => h1, ?_⟩
  · rw [hW1, hrec, hD]; exact run_enterLoop_outer _ _ _ _ _
  · simp only [resolve, hg]
    simp [go_sem]
  · intro f' _; trivial
  · simp [invoke, go_sem, eg]
  · refine (hseq (D + 1) (fun pre W => I pre W ∧ W.heap[D + 1]? = some (.loop (rec .ready none)) ∧ W.heap[D]? = some (.deferred (some [])))
      (fun pre W => ∃ c, Ix c pre W ∧ W.heap[D + 1]? = some (.loop (rec .done (some c))) ∧ W.heap[D]? = some (.deferred (some []))) W1 (hb0.trans (hbw.mono (by have := hb0.size; omega)))
      (fun s X Y h hl => ⟨hI _ _ _ h.1 (hl.mono (by omega)), (hl.old _ (by omega)).trans h.2.1, (hl.old _ (by omega)).trans h.2.2⟩)
      (fun s X Y h hl => by
        obtain ⟨c, h2, h3, h4⟩ := h
        exact ⟨c, hIx c _ _ _ h2 (hl.mono (by omega)), (hl.old _ (by omega)).trans h3, (hl.old _ (by omega)).trans h4⟩)
      ?round ⟨hI1, hr1, hd1⟩).mono ?after
    case round =>
      rintro pre x W ⟨hi, hr, hd⟩ hlen
      have hy := run_yield (P := P) (args := encs x) hr (by rw [hrec]; exact hps x)
      rw [hrec] at hy
      refine ⟨fn, _, assign, body, hy, roundIn_of_wpIn hfn (wpIn_mono (hassign (D + 1) x W) ?_)⟩
      clear hy
      rintro e a' W' he
      cases e with
      | normal =>
        obtain ⟨rfl, hax⟩ := he
        refine ⟨_, run_beginRound hr (by rw [hrec]), ?_⟩
        obtain ⟨W2, hW2⟩ : ∃ W2, W2 = W'.putObj (D + 1) (.loop { rec .ready none with state := .busy }) := ⟨_, rfl⟩
        have hr2 : W2.heap[D + 1]? = some (.loop { rec .ready none with state := .busy }) := by rw [hW2]; exact World.putObj_heap_same (Array.getElem?_eq_some_iff.1 hr).1
        have hd2 : W2.heap[D]? = some (.deferred (some [])) := by rw [hW2]; exact (World.putObj_heap_other (by omega)).trans hd
        have hi2 : I pre W2 := by rw [hW2]; exact hput _ _ _ _ _ hi hr rfl (by omega)
        have hk2 : Kp W' W2 := by rw [hW2]; exact hKb _ _ _ _ (by omega) hr rfl
        rw [← hW2]
        clear hW2
        have fin : ∀ (jump : Option Code) (W3 : World), KeepsFrom w.heap.size W2 W3 → ∃ W4, (Instr.endRound (D + 1) jump).run P W3 = .ok (.bool jump.isNone) W4 ∧ W4 = W3.putObj (D + 1) (.loop (rec (if jump.isNone then .ready else .done) jump)) ∧
            W3.heap[D + 1]? = some (.loop { rec .ready none with state := .busy }) ∧ W4.heap[D + 1]? = some (.loop (rec (if jump.isNone then .ready else .done) jump)) ∧ W4.heap[D]? = some (.deferred (some [])) := fun jump W3 hk => by
          have h3 := hk.same _ _ (by omega) hr2 rfl
          have h5 := run_endRound (P := P) jump h3
          rw [hrec] at h5
          refine ⟨_, h5, by rw [hrec], h3, ?_, (World.putObj_heap_other (by omega)).trans (hk.same _ _ (by omega) hd2 rfl)⟩
          rw [hrec]
          exact World.putObj_heap_same (Array.getElem?_eq_some_iff.1 h3).1
        refine wpIn_mono (hbody (D + 1) pre x a' W2 (by omega) hi2 hax hlen) ?_
        rintro e2 a3 W3 hp
        cases e2 with
        | normal =>
          obtain ⟨hk, hkp, hi3⟩ := hp
          obtain ⟨W4, h4, e4, h3, h5, h6⟩ := fin none W3 hk
          exact ⟨_, W4, h4, .inl ⟨rfl, ⟨by rw [e4]; exact hput _ _ _ _ _ hi3 h3 rfl (by omega), h5, h6⟩, hKt hk2 (hKt hkp (by rw [e4]; exact hKb _ _ _ _ (by omega) h3 rfl))⟩⟩
        | ret =>
          obtain ⟨hk, hi3⟩ := hp
          obtain ⟨W4, h4, e4, h3, h5, h6⟩ := fin (some .ret) W3 hk
          exact ⟨_, W4, h4, .inr ⟨rfl, .ret, by rw [e4]; exact hputx _ _ _ _ _ _ hi3 h3 rfl (by omega), h5, h6⟩⟩
        | exit id =>
          obtain ⟨hk, hi3⟩ := hp
          obtain ⟨W4, h4, e4, h3, h5, h6⟩ := fin (some (.exit id)) W3 hk
          exact ⟨_, W4, h4, .inr ⟨rfl, .exit id, by rw [e4]; exact hputx _ _ _ _ _ _ hi3 h3 rfl (by omega), h5, h6⟩⟩
        | goto t => exact hp.elim
        | panic ch => exact hp.elim
        | outgrown => exact hp.elim
      | exit id => exact he.elim
      | goto t => exact he.elim
      | ret => exact he.elim
      | panic ch => exact he.elim
      | outgrown => exact he.elim
    case after =>
      subst hD
      rintro e W2 ⟨⟨v, rfl⟩, (⟨xs, hS, hi, hr, hd⟩ | ⟨pre, hS, c, hi, hr, hd⟩)⟩
      · have h5 := run_endLoop (P := P) hr (by rw [hrec]; simp)
        rw [hrec] at h5
        exact ⟨none, _, h5, hdone _ xs _ (Nat.le_refl _) hS (hput _ _ _ _ _ hi hr rfl (by omega)) ((World.putObj_heap_other (by omega)).trans hd)⟩
      · have h5 := run_endLoop (P := P) hr (by rw [hrec]; simp)
        rw [hrec] at h5
        exact ⟨some c, _, h5, hstop _ c pre _ (Nat.le_refl _) hS (hputx _ _ _ _ _ _ hi hr rfl (by omega)) ((World.putObj_heap_other (by omega)).trans hd)⟩
end

/-- What a round keeps: what lay below Bk but the blocks of G, and all cells of the types T. -/
structure KeepT (T : TypeId → Prop) (Bk : Nat) (G : Nat → Prop) (A A' : World) : Prop where
  size : A.heap.size ≤ A'.heap.size
  old : ∀ k : Nat, k < Bk → ¬ G k → A'.heap[k]? = A.heap[k]?
  cells : ∀ (k : Nat) (cs : Array Value) (t : TypeId) fr, A.heap[k]? = some (Obj.cells cs t fr) → T t → A'.heap[k]? = some (Obj.cells cs t fr)
theorem KeepT.trans {T : TypeId → Prop} {Bk : Nat} {G : Nat → Prop} {A A' A'' : World} (h : KeepT T Bk G A A') (k : KeepT T Bk G A' A'') : KeepT T Bk G A A'' :=
  ⟨Nat.le_trans h.size k.size, fun i hi hn => (k.old i hi hn).trans (h.old i hi hn), fun i cs t fr e ht => k.cells i cs t fr (h.cells i cs t fr e ht) ht⟩
theorem KeepT.putObj {T : TypeId → Prop} {Bk B : Nat} {G : Nat → Prop} (hB : Bk ≤ B) (W : World) (l : Nat) (o o' : Obj) (hl : B ≤ l) (h : W.heap[l]? = some o) (ho : o.isCells = false) : KeepT T Bk G W (W.putObj l o') :=
  ⟨by rw [World.putObj_size]; exact Nat.le_refl _, fun i hi _ => World.putObj_heap_other (by omega), fun i cs t fr e _ => (World.putObj_heap_other (fun e2 => by
    subst e2
    rw [h] at e
    injection e with e
    subst e
    cases ho)).trans e⟩
theorem KeepT.bl {T : TypeId → Prop} {Bk g : Nat} {G : Nat → Prop} {A A' : World} {cs : List Value} {t : TypeId} (h : KeepT T Bk G A A') (hb : Bl A g cs t) (hg : (g < Bk ∧ ¬ G g) ∨ T t) : Bl A' g cs t := by
  rcases hg with ⟨h1, h2⟩ | ht
  · exact hb.keep (h.old g h1 h2)
  · exact h.cells g _ _ _ hb ht
theorem KeepT.sl {T : TypeId → Prop} {Bk B n : Nat} {G : Nat → Prop} {A A' : World} {a : Option Addr} {xs : List Value} (h : KeepT T Bk G A A') (hs : Sl A B a n xs) (hB : B ≤ Bk) (ho : 0 < n → ∀ ad, a = some ad → ¬ G ad.block) : Sl A' B a n xs :=
  ⟨hs.1, fun hn => by
    obtain ⟨ad, e, hb, hc⟩ := hs.2 hn
    refine ⟨ad, e, hb, fun j u hu => ?_⟩
    rw [World.cell?_of_block (w := A) (h.old _ (by rw [add_block]; omega) (by rw [add_block]; exact ho hn ad e))]
    exact hc j u hu⟩

theorem own_cells {w : World} {base : Nat} {e : TypeId} {size n : Nat} {v : Value} {xs : List Value} (h : w.ownsRow base e size v n xs) {g : Nat} (hg : v.ownBlock = some g) : base ≤ g ∧ ∃ cur fr, w.heap[g]? = some (Obj.cells cur e fr) := by
  obtain ⟨h1, h2⟩ := h
  rcases h2 with ⟨rfl, h2⟩ | ⟨g', cap, cur, rfl, hb, hh, r⟩
  · simp [Value.ownBlock] at hg
  · simp [Value.ownBlock] at hg
    subst hg
    exact ⟨hb, _, _, hh⟩
theorem Lax.own {T : TypeId → Prop} {B : Nat} {A A' : World} {base : Nat} {e : TypeId} {size n : Nat} {v : Value} {xs : List Value} (h : Lax T B A A') (ho : A.ownsRow base e size v n xs) (ht : ¬ T e) : A'.ownsRow base e size v n xs :=
  own_keep ho fun g hg => by
    obtain ⟨_, cur, fr, hh⟩ := own_cells ho hg
    rw [hh]
    exact h.cells g _ _ _ hh ht
/-- A row of cells has turned: nothing that is no cells has. -/
theorem keepsFrom_row {B : Nat} {W W' : World} {row : Option Nat} (hg : W.grownBy W' row) (hc : ∀ j, row = some j → ∃ cs t fr, W.heap[j]? = some (Obj.cells cs t fr)) : KeepsFrom B W W' :=
  ⟨hg.size, fun k o _ hk ho => (hg.block k (Array.getElem?_eq_some_iff.1 hk).1 (fun e => by
    obtain ⟨cs, t, fr, h2⟩ := hc k e.symm
    rw [hk] at h2
    injection h2 with h2
    subst h2
    cases ho)).trans hk⟩
theorem KeepT.row {T : TypeId → Prop} {Bk : Nat} {G : Nat → Prop} {W W' : World} {row : Option Nat} (hg : W.grownBy W' row) (hB : Bk ≤ W.heap.size) (hc : ∀ j, row = some j → (Bk ≤ j ∨ G j) ∧ ∃ cs t fr, W.heap[j]? = some (Obj.cells cs t fr) ∧ ¬ T t) : KeepT T Bk G W W' :=
  ⟨hg.size, fun k hk hn => hg.block k (by omega) (fun e => (hc k e.symm).1.elim (fun h => by omega) hn), fun k cs t fr e ht => (hg.block k (Array.getElem?_eq_some_iff.1 e).1 (fun e2 => by
    obtain ⟨_, cs', t', fr', h2, h3⟩ := hc k e2.symm
    rw [e] at h2
    injection h2 with h2
    injection h2 with _ h4 _
    rw [← h4] at h3
    exact h3 ht)).trans e⟩

end Go.Proofs.Ytkopdkamhkmefaa
