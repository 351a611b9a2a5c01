/- The walk of the law DigestCut. -/
import Derived.Test.YtfmbilnbbpbpeaaDoorDigW
import Derived.Stop.BytesEq
namespace Go.Proofs.YtfmbilnbbpbpeaaDoor
open Go.RowKit
set_option linter.unusedVariables false

theorem exec_slice_from {P : Program} {a : Act} {o : Oper} (w : World) (t e : TypeId) (x lo : Operand) (ho : o.op = .slice t x (some lo) none none) (ht : P.underlying t = some (.slice e)) (he : (P.info? e).map (·.size) = some 1) (A : Option Addr) (n c k : Nat) (kl : IntKind) (L : Int)
    (hx : a.eval x = .slice A n c) (hlo : a.eval lo = .int kl L) (eL : L = k) (hk : k ≤ n) (hc : n ≤ c) (hA : A = none → c = 0) (A' : Option Addr) (hA' : A' = if c = k then A else A.map (·.add k)) :
    (execOp a.eval o).run P w = .ok (.value (.slice A' (n - k) (c - k))) w := by
  have hr := run_slice_from (P := P) w t e ht he A n c k kl L eL hk hc hA
  unfold execOp
  simp only [ho, Option.map_some, Option.map_none, hx, hlo, Instr.sliceAt, Sem.run_bind, run_underlying ht, Result.andThen_ok, hr, hA']
  rfl
theorem run_slice_to {P : Program} (w : World) (t e : TypeId) (ht : P.underlying t = some (.slice e)) (he : (P.info? e).map (·.size) = some 1) (A : Option Addr) (n c k : Nat) (kh : IntKind) (H : Int) (eH : H = k) (hk : k ≤ c) (hA : A = none → c = 0) :
    (Instr.slice t (.slice A n c) none (some (.int kh H)) none).run P w = .ok (.slice A k c) w := by
  subst eH
  cases hq : P.info? e with
  | none => simp [hq] at he
  | some i =>
    rcases A with _ | a
    · obtain rfl := hA rfl
      obtain rfl : k = 0 := by omega
      simp [Instr.slice, run_underlying ht, Instr.sliceBounds, run_sliceBound, sizeOf, typeInfo, hq]
    · simp [Instr.slice, run_underlying ht, Instr.sliceBounds, run_sliceBound, sizeOf, typeInfo, hq, hk, Addr.add]
theorem exec_slice_to {P : Program} {a : Act} {o : Oper} (w : World) (t e : TypeId) (x hi : Operand) (ho : o.op = .slice t x none (some hi) none) (ht : P.underlying t = some (.slice e)) (he : (P.info? e).map (·.size) = some 1) (A : Option Addr) (n c k : Nat) (kl : IntKind) (L : Int)
    (hx : a.eval x = .slice A n c) (hlo : a.eval hi = .int kl L) (eL : L = k) (hk : k ≤ c) (hA : A = none → c = 0) :
    (execOp a.eval o).run P w = .ok (.value (.slice A k c)) w := by
  have hr := run_slice_to (P := P) w t e ht he A n c k kl L eL hk hA
  unfold execOp
  simp only [ho, Option.map_some, Option.map_none, hx, hlo, Instr.sliceAt, Sem.run_bind, run_underlying ht, Result.andThen_ok, hr]
  rfl
theorem sl_head {w : World} {B n k : Nat} {A : Option Addr} {xs : List Value} (h : Sl w B A n xs) (hk : k ≤ n) : Sl w B A k (xs.take k) := by
  refine ⟨by rw [List.length_take, h.1]; omega, fun hn => ?_⟩
  obtain ⟨ad, e, hb, hc⟩ := h.2 (by omega)
  refine ⟨ad, e, hb, fun j u hu => hc j u ?_⟩
  rcases Nat.lt_or_ge j k with hj | hj
  · rwa [List.getElem?_take_of_lt hj] at hu
  · rw [List.getElem?_eq_none (by rw [List.length_take]; omega)] at hu; cases hu
theorem list_two {w : World} {A A' : Option Addr} {c c' : Nat} {l l' : List UInt8} (t : TypeId) (hs : Sl w w.heap.size A l.length (cb l)) (hc : l.length ≤ c) (hz : A = none → c = 0) (hs' : Sl w w.heap.size A' l'.length (cb l')) (hc' : l'.length ≤ c') (hz' : A' = none → c' = 0) :
    Parts (w.alloc (.cells #[.slice A l.length c, .slice A' l'.length c'] t)) (w.alloc (.cells #[.slice A l.length c, .slice A' l'.length c'] t)).heap.size (some ⟨w.heap.size, 0, none⟩) 2 [l, l'] ∧ Below w.heap.size w (w.alloc (.cells #[.slice A l.length c, .slice A' l'.length c'] t)) := by
  have hb : Below w.heap.size w (w.alloc (.cells #[.slice A l.length c, .slice A' l'.length c'] t)) := (Below.refl _ w).alloc (Nat.le_refl _) _
  exact ⟨parts_two (Bl.newA w #[.slice A l.length c, .slice A' l'.length c'] t) (by simp) (hs.nx hb) hc hz (hs'.nx hb) hc' hz', hb⟩
theorem eql_sum (s : List UInt8) (w : World) (hs : s.length = 32) : (binOp .eql 49 (.agg (cb s).toArray) (.agg (cb s).toArray)).run Tryd.prog w = .ok (.bool true) w := by
  have := run_eql_bytes (P := Tryd.prog) w 49 5 32 Tryd.underlying49 Tryd.underlying5 (fun w => by kernel_rfl) s s hs hs
  rw [show (s == s) = true by simp] at this
  exact this

theorem sum_guard : Tryd.prog.eqGuardType Tryd.prog.depth 49 = false := by kernel_rfl
theorem exec_eql_sum {a : Act} {o : Oper} (w : World) (x y : Operand) (t : TypeId) (ho : o.op = .binOp .eql 49 x y t) (s : List UInt8) (hs : s.length = 32) (hx : a.eval x = .agg (cb s).toArray) (hy : a.eval y = .agg (cb s).toArray) :
    (execOp a.eval o).run Tryd.prog w = .ok (.value (.bool true)) w := by
  unfold execOp
  simp only [ho, hx, hy, Sem.run_bind, run_eqGuard_agg w .eql _ x y _ _ sum_guard, Result.andThen_ok, eql_sum s w hs]
  rfl

end Go.Proofs.YtfmbilnbbpbpeaaDoor

