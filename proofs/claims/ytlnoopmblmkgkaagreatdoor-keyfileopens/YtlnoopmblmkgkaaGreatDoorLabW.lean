/- Layer 9, label: the program's ring and the document's beside one another (general). -/
import Derived.Test.YtlnoopmblmkgkaaGreatDoorLJ
import Derived.OrdersHeld
namespace Go.Proofs.YtlnoopmblmkgkaaGreatDoor
set_option maxRecDepth 100000
open Go Go.RowKit
set_option linter.unusedVariables false
set_option linter.unusedSimpArgs false

/-- A ring stays while a row of cells turns that is not its own block. -/
theorem Rg.other {w w' : World} {B g j : Nat} {m : RM} (h : Rg w B g m) {cs : Array Value} {t : TypeId} {fr : Nat × Nat} (hj : w.heap[j]? = some (.cells cs t fr)) (hne : j ≠ g) (hg : w.grownBy w' (some j)) : Rg w' B g m := by
  obtain ⟨h1, ok, p, hb, hm⟩ := h
  refine ⟨h1, ok, p, hb.grown hg (fun e => hne (Option.some.inj e)), ?_⟩
  rcases hm with hm | ⟨b, e, hb1, hb2, hf⟩
  · exact .inl hm
  · refine .inr ⟨b, e, hb1, hb2, hf.row hg (fun e2 => ?_)⟩
    have e3 := Option.some.inj e2
    subst e3
    obtain ⟨D, ⟨es, clock, hbb, _⟩, _⟩ := hf
    rw [hj] at hbb
    cases hbb

/-- The document's ring in its variable gq. -/
def RQ (w : World) (g gq : Nat) (wr : World) (A : Option Addr) (n c : Nat) (m : RM) : Prop :=
  Bl wr gq [.slice A n c] 30 ∧ Rr wr w.heap.size A n c m ∧ Off g (m.length * 2) A ∧ Off gq (m.length * 2) A
/-- Both rings. -/
def RInv (w : World) (g gq : Nat) (wr : World) (m : RM) : Prop :=
  Rg wr wr.heap.size g m ∧ (∃ A n c, RQ w g gq wr A n c m) ∧ Below w.heap.size w wr
section
variable {w wr w' : World} {g gq : Nat} {m : RM} {A : Option Addr} {n c : Nat}
theorem RQ.next (h : RQ w g gq wr A n c m) (hw : w.heap.size ≤ wr.heap.size) (hb : Below wr.heap.size wr w') : RQ w g gq w' A n c m :=
  ⟨h.1.next hb, h.2.1.next hw hb, h.2.2⟩
theorem RQ.put (h : RQ w g gq wr A n c m) (hw : w.heap.size ≤ wr.heap.size) (hg : wr.grownBy w' (some g)) (hwg : w.heap.size ≤ g) (hne : g ≠ gq) : RQ w g gq w' A n c m :=
  ⟨h.1.grown hg (fun e => hne (Option.some.inj e)), h.2.1.row hg hw hwg h.2.2.1, h.2.2⟩
theorem RInv.next (h : RInv w g gq wr m) (hb : Below wr.heap.size wr w') : RInv w g gq w' m := by
  obtain ⟨h1, ⟨A, n, c, h2⟩, h3⟩ := h
  exact ⟨(h1.next hb).up hb.size, ⟨A, n, c, h2.next h3.size hb⟩, h3.trans (hb.mono h3.size)⟩
end

theorem rq_set {w wr : World} {g gq : Nat} {m : RM} {A : Option Addr} {n c : Nat} (hr : Rg wr wr.heap.size g m) (hb : Bl wr gq [.slice A n c] 30) {A' : Option Addr} {n' c' : Nat} (hq : Rr wr w.heap.size A' n' c' m) (o1 : Off g (m.length * 2) A') (o2 : Off gq (m.length * 2) A')
    (hw : Below w.heap.size w wr) (hwq : w.heap.size ≤ gq) (hne : g ≠ gq) : Rg (wr.setCell ⟨gq, 0, none⟩ (.slice A' n' c')) (wr.setCell ⟨gq, 0, none⟩ (.slice A' n' c')).heap.size g m ∧ RQ w g gq (wr.setCell ⟨gq, 0, none⟩ (.slice A' n' c')) A' n' c' m := by
  have hg : wr.grownBy (wr.setCell ⟨gq, 0, none⟩ (.slice A' n' c')) (some gq) := but_setCell (but_refl _ _) 0 _
  refine ⟨?_, hb.set 0 _, hq.row hg hw.size hwq o2, o1, o2⟩
  rw [heap_size_setCell]
  exact hr.other hb hne.symm hg

/-- A held fact may be made stronger on the way. -/
theorem wpAnyH_mono {P : Program} {md : Region.Mode} {ops : Array Oper} {Q : Exit → Act → World → Prop} {S S' : World → Prop} (hS : ∀ w, S' w → S w) : ∀ (fuel : Nat) (listed : Array Bool) (a : Act) (w : World), wpAnyH P md ops Q S' fuel listed a w → wpAnyH P md ops Q S fuel listed a w
  | 0, _, _, _, h => h
  | fuel + 1, _, _, _, h => ⟨h.1, fun i hi => wpOp_mono (fun a' w' h' => ⟨hS w' h'.1, wpAnyH_mono hS fuel _ a' w' h'.2⟩) (h.2 i hi)⟩

end Go.Proofs.YtlnoopmblmkgkaaGreatDoor
