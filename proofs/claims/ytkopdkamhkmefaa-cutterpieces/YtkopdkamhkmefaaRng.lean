/- A range over a function: what the plain walk gives is had inside a round too, where the fence bars nothing; a block abides. No program is named here. -/
import Derived.Test.YtkopdkamhkmefaaLG
import Derived.RangeFuncNested
import Derived.RangeFuncBound
import Derived.RangeFuncCalls
import Derived.RangeFuncLeaves
import Derived.Shelf.Abstract
import Derived.WalkKit
import Derived.OwnWalkIn
import Derived.TacticsInMore
import Derived.OrdersIn
import Derived.LoopNIn
import Derived.LoopIn
namespace Go.Proofs.Ytkopdkamhkmefaa
set_option maxRecDepth 100000
open Go Go.RowKit

/-- A fence that bars nothing. -/
structure Wide (F : Fence) : Prop where
  fn : ∀ f, F.fn f
  depth : F.depth = none
  calls : ∀ {n : Nat} {P : Program} {f : FuncId} {args : Array Value} {w : World} {R : Ending → World → Prop}, Calls P f args w R → CallsIn F n P f args w R
  rows : ∀ {n : Nat} {P : Program} {row : String} {args : Array Value} {w : World} {R : Value → World → Prop}, Rows P row args w R → RowsIn F n P row args w R
theorem wide_wide : Wide Fence.wide :=
  ⟨fun _ => trivial, rfl, fun h => callsIn_wide.2 h, fun h c cs _ => let ⟨v, w', r, s⟩ := h c cs; ⟨v, w', r, stepsIn_wide.2 s⟩⟩
theorem wide_round (l : Nat) : Wide (Fence.wide.inRound l) :=
  ⟨fun _ => trivial, rfl, fun h => CallsIn.inRound l (callsIn_wide.2 h), fun h c cs _ => let ⟨v, w', r, s⟩ := h c cs; ⟨v, w', r, stepsIn_wide.2 s⟩⟩

section
variable {F : Fence} {n : Nat} {P : Program} {ops : Array Oper} {Q : Exit → Act → World → Prop} {md : Region.Mode} {o : Oper} {a : Act} {w : World} {K K' : Act → World → Prop}

theorem upon_in (hF : Wide F) (hK : ∀ a w, K a w → K' a w) {r : Result Next} (h : o.upon P a K Q r) : o.uponIn F n P a K' Q r := by
  have hd : F.depth.isSome = true → 1 ≤ n := by rw [hF.depth]; simp
  cases r with
  | ok x w' =>
    cases x <;> simp only [Oper.upon, Oper.uponIn] at h ⊢ <;>
      first
        | exact hK _ _ h
        | exact ⟨hd, (hF.calls h).mono (fun e w'' he => by cases e <;> first | exact hK _ _ he | exact he)⟩
        | exact ⟨hd, (hF.rows h).mono (fun _ _ he => hK _ _ he)⟩
        | exact h.elim
  | halt x w' => cases x <;> simp only [Oper.upon, Oper.uponIn] at h ⊢ <;> exact h

theorem oper_in (hF : Wide F) (hd : ∀ c, o.op ≠ .defer c) (hK : ∀ a w, K a w → K' a w) (h : o.wp P a w K Q) : o.wpIn F n P a w K' Q :=
  ⟨fun f _ => hF.fn f, by rw [Oper.semAt_eq _ _ _ hd]; exact upon_in hF hK h⟩

/-- No operation defers. -/
def noDefer (ops : Array Oper) : Bool := ops.all fun o => match o.op with | .defer _ => false | _ => true
theorem noDefer_spec (h : noDefer ops = true) {i : Nat} {o : Oper} (ho : ops[i]? = some o) : ∀ c, o.op ≠ .defer c := by
  intro c heq
  have := Array.all_eq_true_iff_forall_mem.1 h o (Array.mem_of_getElem? ho)
  simp [heq] at this

theorem wpAnyIn_of_any (hF : Wide F) (hL : ¬ LetsOut Q) (hd : noDefer ops = true) : ∀ (fuel : Nat) (listed : Array Bool) (a : Act) (w : World), wpAny P md ops Q fuel listed a w → wpAnyIn F n P md ops Q fuel listed a w
  | 0, _, _, _, h => h
  | fuel + 1, listed, a, w, h => ⟨h.1, fun i hi => by
      have h1 := h.2 i hi
      unfold wpOp at h1
      unfold wpOpIn
      cases ho : ops[i]? with
      | none =>
        simp only [ho] at h1 ⊢
        exact wpAnyIn_of_any hF hL hd fuel _ _ _ h1
      | some o =>
        simp only [ho] at h1 ⊢
        split
        · rename_i hw
          simp only [hw, if_true] at h1
          rcases h1 with h1 | h1
          · exact oper_in hF (noDefer_spec hd ho) (fun a' w' h' => wpAnyIn_of_any hF hL hd fuel _ a' w' h') h1
          · exact absurd h1.2 hL
        · rename_i hw
          simp only [hw] at h1
          exact ⟨fun f _ => hF.fn f, wpAnyIn_of_any hF hL hd fuel _ _ _ h1⟩⟩

/-- A region that draws its order, inside a round, by the plain walk of all orders. -/
theorem wpIn_region_plain {id : Nat} (hF : Wide F) (hL : ¬ LetsOut Q) (hd : noDefer ops = true) (hm : P.follows .mixedOrders = true)
    (h : wpAny P .any ops Q ops.size (Array.replicate ops.size false) a w.drew) : (Code.region id ops true).wpIn F n P Q a w :=
  wpIn_region_any hm (wpAnyIn_of_any hF hL hd _ _ _ _ h)

/-- One operation inside a round, by a law of the plain walk. -/
def behind (Q : Exit → Act → World → Prop) (K : Act → World → Prop) : Exit → Act → World → Prop
  | .normal, a, w => K a w
  | e, a, w => Q e a w
theorem wpListIn_of_one {rest : List Oper} (hF : Wide F) (hL : ¬ LetsOut Q) (hd : ∀ c, o.op ≠ .defer c) (hg : o.guard = none)
    (h : wpList P ops (behind Q (wpListIn F n P ops Q rest)) [o] a w) : wpListIn F n P ops Q (o :: rest) a w := by
  have hw : Region.wanted o (yielded ops a.tmps) = true := by simp [Region.wanted, hg]
  unfold wpList at h
  rw [if_pos hw] at h
  unfold wpListIn
  rw [if_pos hw]
  rcases h with h | ⟨_, a', w', h⟩
  · have h2 : o.wp P a w (wpListIn F n P ops Q rest) Q := by
      unfold Oper.wp at h ⊢
      generalize (execOp a.eval o).run P w = r at h ⊢
      cases r with
      | ok x w' => 
        cases x <;> simp only [Oper.upon] at h ⊢ <;>
          first
            | exact h
            | exact h.mono (fun e w'' he => by cases e <;> first | exact he | (obtain ⟨a', w', he⟩ := he; exact ⟨a', w', he⟩))
            | exact h.mono (fun _ _ he => he)
      | halt x w' => cases x <;> simp only [Oper.upon] at h ⊢ <;> exact h
    exact oper_in hF hd (fun _ _ h => h) h2
  · exact absurd ⟨a', w', h⟩ hL

end

/-- A block of cells abides what the law of the range turns. -/
theorem bl_abides {B g : Nat} {cs : List Value} {t : TypeId} {W W' : World} {row : Option Nat} (hs : Bl W g cs t) (hg : W.grownBy W' row) (hr : ∀ r, row = some r → B ≤ r ∧ ∃ o : Obj, W.heap[r]? = some o ∧ o.isCells = false) : Bl W' g cs t :=
  hs.keep (hg.block g hs.lt (fun e => by
    obtain ⟨_, o, ho, hc⟩ := hr g e.symm
    rw [show W.heap[g]? = _ from hs] at ho
    cases ho
    cases hc))
theorem ownFrom_bl {β : Type} {B g : Nat} {t : TypeId} (f : β → List Value) : OwnFrom B (fun (s : β) W => Bl W g (f s) t) := fun _ _ _ _ hs hg hr => bl_abides hs hg hr

/-- Some blocks lie as they lay. -/
def KeepsBl (K : Nat → Prop) (W W' : World) : Prop := ∀ g, K g → W'.heap[g]? = W.heap[g]?
theorem keepsBl_t {K : Nat → Prop} {A B C : World} (h : KeepsBl K A B) (k : KeepsBl K B C) : KeepsBl K A C := fun g hg => (k g hg).trans (h g hg)
theorem keepsBl_b {K : Nat → Prop} {w : World} (hK : ∀ g, K g → g < w.heap.size) (W : World) (l : Nat) (o o' : Obj) (hl : w.heap.size ≤ l) (_ : W.heap[l]? = some o) (_ : o.isCells = false) (_ : o.isWalk = false) : KeepsBl K W (W.putObj l o') :=
  fun g hg => World.putObj_heap_other (by have := hK g hg; omega)

end Go.Proofs.Ytkopdkamhkmefaa
