/- Counters compared. -/
import Derived.Test.YtigofelbnjjigaaNon
namespace Go.Proofs.Ytigofelbnjjigaa
set_option maxRecDepth 100000
open Go Go.RowKit
set_option linter.unusedVariables false

/-- An operation that gives a value and leaves the world as it is, as a step. -/
theorem wpList_value {P : Program} {ops : Array Oper} {rest : List Oper} {o : Oper} {a : Act} {w : World} {Q : Exit → Act → World → Prop} (hgd : o.guard = none) (v : Value) (hr : (execOp a.eval o).run P w = .ok (.value v) w) (h : wpList P ops Q rest (a.put o.dst v) w) : wpList P ops Q (o :: rest) a w := by
  refine wpList_plain hgd fun K hK => ?_
  unfold Oper.wp
  rw [hr]
  exact hK _ _ h

theorem cn_guard : Try.prog.eqGuardType Try.prog.depth 23 = false := by kernel_rfl

theorem cn_fields : (Try.prog.fieldsOf 23).toList.map (fun f => (f.name == "_", f.type, f.offset)) = [(false, 3, 0), (false, 3, 1)] := by kernel_rfl

theorem cn_struct : Try.prog.underlying 23 = some (.struct (Try.prog.fieldsOf 23)) := by kernel_rfl

theorem cn_stood : Try.prog.stoodInHeld 23 = false := by kernel_rfl

theorem eqIn_cn (w : World) (a b c d : Int) : (Op.equalIn 10000 23 (.agg (cnt a b).toArray) (.agg (cnt c d).toArray)).run Try.prog w = .ok (decide (a = c) && decide (b = d)) w := by
  rw [run_equalIn_agg w 9999 _ _ _ cn_struct cn_stood]
  have hf := cn_fields
  have hlen : (Try.prog.fieldsOf 23).toList.length = 2 := by have := congrArg List.length hf; simpa using this
  generalize (Try.prog.fieldsOf 23).toList = fs at hf hlen
  match fs, hlen with
  | [f, g], _ =>
    simp only [List.map_cons, List.map_nil, List.cons.injEq, Prod.mk.injEq, and_true] at hf
    obtain ⟨⟨f1, f2, f3⟩, ⟨g1, g2, g3⟩⟩ := hf
    simp only [beq_eq_false_iff_ne] at f1 g1
    have pt : ∀ (xs : Array Value) (o : Nat) (v : Value), xs[o]? = some v → (part 3 xs o).run Try.prog w = .ok v w := by
      intro xs o v hv
      have hs : (Try.prog.info? 3).map (·.size) = some 1 := by kernel_rfl
      cases hq2 : Try.prog.info? 3 with
      | none => simp [hq2] at hs
      | some ii =>
        have hsz : ii.size = 1 := by simpa [hq2] using hs
        have hagg : (isAgg 3).run Try.prog w = .ok false w := by
          unfold isAgg
          rw [Sem.run_bind, run_underlying Try.underlying3 w]
          rfl
        simp [part, hagg, sizeOf, typeInfo, hq2, hsz, hv]
    have e1 : ∀ (x y : Int), (Op.equalIn 9999 3 (.int .i64 x) (.int .i64 y)).run Try.prog w = .ok (x == y) w := fun x y => run_equalIn_int w 9998 _ .i64 .i64 x y Try.underlying3
    simp only [Op.eqFields, ne_eq, f1, g1, not_false_eq_true, if_true, Sem.run_bind, f2, f3, g2, g3]
    rw [pt _ 0 (.int .i64 a) rfl]
    simp only [Result.andThen_ok]
    rw [pt _ 0 (.int .i64 c) rfl]
    simp only [Result.andThen_ok, e1]
    by_cases h1 : a = c
    · subst h1
      simp only [beq_self_eq_true, Bool.not_true, Bool.false_eq_true, if_false, Sem.run_bind]
      rw [pt _ 1 (.int .i64 b) rfl]
      simp only [Result.andThen_ok]
      rw [pt _ 1 (.int .i64 d) rfl]
      simp only [Result.andThen_ok, e1]
      by_cases h2 : b = d
      · subst h2; simp
      · have : (b == d) = false := by simpa using h2
        simp [this, h2]
    · have : (a == c) = false := by simpa using h1
      simp [this, h1]

theorem exec_neq_cn {x9 : Act} {o : Oper} (w : World) (x y : Operand) (t : TypeId) (a b c d : Int) (ho : o.op = .binOp .neq 23 x y t) (hx : x9.eval x = .agg (cnt a b).toArray) (hy : x9.eval y = .agg (cnt c d).toArray) (r : Bool) (hr : r = !(decide (a = c) && decide (b = d))) :
    (execOp x9.eval o).run Try.prog w = .ok (.value (.bool r)) w := by
  unfold execOp
  simp only [ho, hx, hy, Sem.run_bind, run_eqGuard_agg w .neq _ x y _ _ cn_guard, Result.andThen_ok, run_neq_struct, eqIn_cn w, hr]
  rfl

theorem exec_eql_cn {x9 : Act} {o : Oper} (w : World) (x y : Operand) (t : TypeId) (a b c d : Int) (ho : o.op = .binOp .eql 23 x y t) (hx : x9.eval x = .agg (cnt a b).toArray) (hy : x9.eval y = .agg (cnt c d).toArray) (r : Bool) (hr : r = (decide (a = c) && decide (b = d))) :
    (execOp x9.eval o).run Try.prog w = .ok (.value (.bool r)) w := by
  unfold execOp
  simp only [ho, hx, hy, Sem.run_bind, run_eqGuard_agg w .eql _ x y _ _ cn_guard, Result.andThen_ok, run_eql_struct, eqIn_cn w, hr]
  rfl

end Go.Proofs.Ytigofelbnjjigaa
