/- own, is, awake, Join and few of layer 2's laws. -/
import Derived.Test.YtlnoopmblmkgkaaGreatDoorLD
import Derived.Test.YtlnoopmblmkgkaaGreatDoorLR
import Derived.Test.YtlnoopmblmkgkaaGreatDoorLW
import Derived.Deep.RegionWith
import Derived.Lib.SlBytesConst
import Derived.Stop.BytesEq
import Derived.Deep.Matrix
namespace Go.Proofs.YtlnoopmblmkgkaaGreatDoor
set_option maxRecDepth 100000
open Go.RowKit
set_option linter.unusedVariables false

end Go.Proofs.YtlnoopmblmkgkaaGreatDoor

namespace Go.Proofs.YtlnoopmblmkgkaaGreatDoor
set_option maxRecDepth 100000
open Go.RowKit
set_option linter.unusedVariables false

set_option maxHeartbeats 600000 in
theorem join_any (a b : List UInt8) (w : World) (B : Nat) (A A' : Option Addr) (n m c c' : Nat) (h : Sl w B A n (cb a)) (h' : Sl w B A' m (cb b)) (hA : A = none → c = 0) (hA' : A' = none → c' = 0) (hn : n ≤ 100000000) (hm : m ≤ 100000000) (hB : B ≤ w.heap.size) :
    Calls Tryz.prog 66 #[.slice A n c, .slice A' m c'] w (RetBytes 5 w (n + m) (a ++ b)) := by
  obtain ⟨i0, hi, hz0, hz1, hz2⟩ := info_parts u8_info
  have h0 := World.ownsRow_lit (base := w.heap.size) (e := 5) (size := 1) w #[] 0 (Nat.le_refl _) (by decide) rfl
  have HL : Hid (cb (a ++ b) = cb a ++ cb b) := cb_append a b
  go_enter Tryz.func66, Tryz.ntmps66
  go_wp2_with (first
    | (at_builtin; refine wpList_append_sl _ rfl _ _ 22 rfl w.heap.size 5 i0 (.int .u8 0) 1 Tryz.underlying22 hi hz0 hz1 hz2 rfl _ 0 [] rfl h0 B A n c (cb a) rfl (h.alloc hB _) hA (cb_one a) (by unfold maxLen; omega) (by omega) (by simp) ?_; intro v1 w1 hown1 hgrow1 hat1; have hb1 : Below w.heap.size w w1 := below_app ((Below.refl w.heap.size w).alloc (Nat.le_refl _) _) (Nat.le_refl _) h0 hgrow1; have h2 := h'.below (hb1.mono hB))
    | (at_builtin; refine wpList_append_sl _ rfl _ _ 22 rfl w.heap.size 5 i0 (.int .u8 0) 1 Tryz.underlying22 hi hz0 hz1 hz2 rfl _ (0 + n) ([] ++ cb a) rfl hown1 B A' m c' (cb b) rfl h2 hA' (cb_one b) (by unfold maxLen; omega) (by omega) hb1.size ?_; intro v2 w2 hown2 hgrow2 hat2; have hb2 : Below w.heap.size w w2 := below_app hb1 (Nat.le_refl _) hown1 hgrow2))
  go_ret
  rw [List.nil_append, ← HL.out] at hown2
  exact retBytes (by omega) rfl hown2 hb2

end Go.Proofs.YtlnoopmblmkgkaaGreatDoor

namespace Go.Proofs.YtlnoopmblmkgkaaGreatDoor
set_option maxRecDepth 100000
open Go.RowKit
set_option linter.unusedVariables false

theorem eql_sum (s : List UInt8) (w : World) (hs : s.length = 32) : (binOp .eql 143 (.agg (cb s).toArray) (.agg (cb s).toArray)).run Tryz.prog w = .ok (.bool true) w := by
  have := run_eql_bytes (P := Tryz.prog) w 143 5 32 Tryz.underlying143 Tryz.underlying5 (fun w => by kernel_rfl) s s hs hs
  rw [show (s == s) = true by simp] at this
  exact this

theorem sum_guard : Tryz.prog.eqGuardType Tryz.prog.depth 143 = false := by kernel_rfl
theorem exec_eql_sum {a : Act} {o : Oper} (w : World) (x y : Operand) (t : TypeId) (ho : o.op = .binOp .eql 143 x y t) (s : List UInt8) (hs : s.length = 32) (hx : a.eval x = .agg (cb s).toArray) (hy : a.eval y = .agg (cb s).toArray) :
    (execOp a.eval o).run Tryz.prog w = .ok (.value (.bool true)) w := by
  unfold execOp
  simp only [ho, hx, hy, Sem.run_bind, run_eqGuard_agg w .eql _ x y _ _ sum_guard, Result.andThen_ok, eql_sum s w hs]
  rfl

end Go.Proofs.YtlnoopmblmkgkaaGreatDoor

namespace Go.Proofs.YtlnoopmblmkgkaaGreatDoor
set_option maxRecDepth 100000
open Go.ChangeShapes Go.WideShapes Go.ChangeAt Go.RowKit
set_option linter.unusedVariables false

/-- May the parts be gone through? -/
def fewB (ls : List (List UInt8)) : Bool := decide (ls.length ≤ 20) && (ls.take 21).all fun l => decide (l.length ≤ 400)
theorem few_true {ls : List (List UInt8)} (h : fewB ls = true) : ls.length ≤ 20 ∧ ∀ l ∈ ls, l.length ≤ 400 := by
  simp only [fewB, Bool.and_eq_true, decide_eq_true_eq, List.all_eq_true] at h
  refine ⟨h.1, fun l hl => h.2 l ?_⟩
  rw [List.take_of_length_le (by omega)]
  exact hl
theorem few_false {ls : List (List UInt8)} {k : Nat} (hk : k < ls.length) (h20 : k ≤ 20) (h : 400 < ls[k].length) : fewB ls = false := by
  have : ls[k] ∈ ls.take 21 := by
    rw [List.mem_take_iff_getElem]
    exact ⟨k, by omega, rfl⟩
  simp only [fewB, Bool.and_eq_false_iff, List.all_eq_false]
  right
  exact ⟨_, this, by simp; omega⟩
theorem few_end {ls : List (List UInt8)} {k : Nat} (h : ∀ j (hj : j < ls.length), j < k → ls[j].length ≤ 400) (hk : ls.length ≤ k ∨ 20 < k) : decide (ls.length ≤ 20) = fewB ls := by
  unfold fewB
  by_cases h20 : ls.length ≤ 20
  · have : ((ls.take 21).all fun l => decide (l.length ≤ 400)) = true := by
      rw [List.all_eq_true]
      intro l hl
      obtain ⟨j, hj, rfl⟩ := List.getElem_of_mem (List.mem_of_mem_take hl)
      simpa using h j hj (by omega)
    rw [this, Bool.and_true]
  · simp [h20]

end Go.Proofs.YtlnoopmblmkgkaaGreatDoor

namespace Go.Proofs.YtlnoopmblmkgkaaGreatDoor
set_option maxRecDepth 100000
open Go.RowKit
set_option linter.unusedVariables false

end Go.Proofs.YtlnoopmblmkgkaaGreatDoor

namespace Go.Proofs.YtlnoopmblmkgkaaGreatDoor
set_option maxRecDepth 100000
open Go.RowKit
set_option linter.unusedVariables false

/-- The parts that are gathered so far: each reads as it should, and lies apart from the two slices that grow. -/
def PInv (l0 : List (List UInt8)) (w : World) (a p : Option Nat) (k : Nat) (vs : List Value) : Prop :=
  ∀ j (hj : j < l0.length), j < k → ∃ A c, vs[j]? = some (.slice A l0[j].length c) ∧ Sl w w.heap.size A l0[j].length (cb l0[j]) ∧ l0[j].length ≤ c ∧ (A = none → c = 0) ∧ (0 < l0[j].length → ∀ ad, A = some ad → a ≠ some ad.block ∧ p ≠ some ad.block)
section
variable {l0 : List (List UInt8)} {w w' : World} {a a' p p' : Option Nat} {k : Nat} {vs : List Value}
theorem PInv.next (h : PInv l0 w a p k vs) (hb : Below w.heap.size w w') : PInv l0 w' a p k vs := fun j hj hk => by
  obtain ⟨A, c, h1, h2, h3⟩ := h j hj hk
  exact ⟨A, c, h1, h2.nx hb, h3⟩
theorem PInv.turn (h : PInv l0 w a p k vs) (hg : w.grownBy w' a) (ha : a' = a ∨ a' = some w.heap.size) : PInv l0 w' a' p k vs := fun j hj hk => by
  obtain ⟨A, c, h1, h2, h3, h4, h5⟩ := h j hj hk
  refine ⟨A, c, h1, sl_row h2 hg (fun hn ad e => (h5 hn ad e).1), h3, h4, fun hn ad e => ⟨?_, (h5 hn ad e).2⟩⟩
  rcases ha with ha | ha
  · rw [ha]; exact (h5 hn ad e).1
  · rw [ha]
    obtain ⟨ad', e', hb, _⟩ := h2.2 hn
    rw [e] at e'
    injection e' with e'
    subst e'
    intro e2
    injection e2 with e2
    omega
theorem PInv.turn2 (h : PInv l0 w a p k vs) (hg : w.grownBy w' p) (hp : p' = p ∨ p' = some w.heap.size) : PInv l0 w' a p' k vs := fun j hj hk => by
  obtain ⟨A, c, h1, h2, h3, h4, h5⟩ := h j hj hk
  refine ⟨A, c, h1, sl_row h2 hg (fun hn ad e => (h5 hn ad e).2), h3, h4, fun hn ad e => ⟨(h5 hn ad e).1, ?_⟩⟩
  rcases hp with hp | hp
  · rw [hp]; exact (h5 hn ad e).2
  · rw [hp]
    obtain ⟨ad', e', hb, _⟩ := h2.2 hn
    rw [e] at e'
    injection e' with e'
    subst e'
    intro e2
    injection e2 with e2
    omega
theorem PInv.snoc (h : PInv l0 w a p k vs) (hk : k < l0.length) (hv : vs.length = k) {A : Option Addr} {c : Nat} (h2 : Sl w w.heap.size A l0[k].length (cb l0[k])) (h3 : l0[k].length ≤ c) (h4 : A = none → c = 0)
    (h5 : 0 < l0[k].length → ∀ ad, A = some ad → a ≠ some ad.block ∧ p ≠ some ad.block) : PInv l0 w a p (k + 1) (vs ++ [.slice A l0[k].length c]) := fun j hj hjk => by
  rcases (show j < k ∨ j = k by omega) with hlt | rfl
  · obtain ⟨A', c', h1, h⟩ := h j hj hlt
    exact ⟨A', c', by rw [List.getElem?_append_left (by omega)]; exact h1, h⟩
  · exact ⟨A, c, by rw [List.getElem?_append_right (by omega), hv]; simp, h2, h3, h4, h5⟩
theorem PInv.parts {Ap : Option Addr} {cp : Nat} {base : Nat} {e : TypeId} (h : PInv l0 w a p l0.length vs) (ho : w.ownsRow base e 1 (.slice Ap l0.length cp) l0.length vs) : Parts w w.heap.size Ap l0.length l0 := by
  have hs := Sl.own ho
  refine ⟨vs, hs, hs.1, fun j hj => ?_⟩
  obtain ⟨A, c, h1, h2, h3, h4, _⟩ := h j hj hj
  exact ⟨_, h1, A, c, rfl, h2, h3, h4⟩
end

end Go.Proofs.YtlnoopmblmkgkaaGreatDoor
