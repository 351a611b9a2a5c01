/- each and Many of package mac. -/
import Derived.Test.YtfmbilnbbpbpeaaDoorMacF
namespace Go.Proofs.YtfmbilnbbpbpeaaDoor
open Go.RowKit
set_option linter.unusedVariables false
set_option linter.unusedSimpArgs false

theorem made_zeros_many (k : IntKind) (m n : Nat) (hm : 0 < m) : (madeCells (zeros k m).toArray n).toList = zeros k n := by
  apply List.ext_getElem
  · simp [madeCells, zeros]
  · intro j h1 h2
    have h3 : j % m < m := Nat.mod_lt _ hm
    simp [madeCells, zeros, h3]
/-- 'make([]T, n)' where T is an array of integers. -/
theorem wpList_make_rows {P : Program} (w : World) {ops : Array Oper} {rest : List Oper} {o : Oper} {a : Act} {Q : Exit → Act → World → Prop}
    (hg : o.guard = none) (l c : Operand) (t : TypeId) (hop : o.op = Op.makeSlice t l c) (e : TypeId) (i : TypeInfo) (k : IntKind) (s : Nat) (hs : 0 < s) (h1 : P.underlying t = some (.slice e)) (h2 : P.info? e = some i) (h3 : i.zero = some (.agg (zeros k s).toArray)) (h4 : i.size = s)
    (kl kc : IntKind) (n : Nat) (hl : a.eval l = .int kl (n : Int)) (hc : a.eval c = .int kc (n : Int)) (b2 : i.bytes * n ≤ 281474976710656) (b3 : n ≤ maxLen)
    (hK : wpList P ops Q rest (a.put o.dst (.slice (some ⟨w.heap.size, 0, none⟩) n n)) (w.alloc (.cells (zeros k (n * s)).toArray e))) :
    wpList P ops Q (o :: rest) a w := by
  refine wpList_plain hg fun K hK' => ?_
  simp [maxLen] at b3
  have hb' : (i.bytes : Int) * (n : Int) ≤ 281474976710656 := by
    have h : ((i.bytes * n : Nat) : Int) ≤ 281474976710656 := by omega
    rwa [Int.natCast_mul] at h
  have hr := run_make (P := P) w t e i _ h1 h2 h3 kl kc (n : Int) (n : Int) (by omega) (by omega) hb' (by omega)
  have hmz : madeCells (zeros k s).toArray (n * s) = (zeros k (n * s)).toArray := by rw [← made_zeros_many k s (n * s) hs]
  simp only [Int.toNat_natCast, h4, Value.cells, hmz] at hr
  unfold Oper.wp
  simp [execOp, hop, hl, hc, hr, Result.andThen]
  exact hK' _ _ hK

/-- Sums one after the other, noughts behind them. -/
def sumsTo (ts : List (List UInt8)) (k : Nat) : List UInt8 := (ts.take k).flatten ++ List.replicate (32 * (ts.length - k)) 0
theorem flat32 : ∀ (ts : List (List UInt8)), (∀ t ∈ ts, t.length = 32) → ts.flatten.length = 32 * ts.length
  | [], _ => rfl
  | t :: ts, h => by
    rw [List.flatten_cons, List.length_append, h t (by simp), flat32 ts (fun x hx => h x (by simp [hx])), List.length_cons]; omega
theorem sumsTo_zero (ts : List (List UInt8)) : sumsTo ts 0 = List.replicate (32 * ts.length) 0 := by simp [sumsTo]
theorem sumsTo_all (ts : List (List UInt8)) : sumsTo ts ts.length = ts.flatten := by simp [sumsTo]
theorem sumsTo_pre (ts : List (List UInt8)) (h : ∀ t ∈ ts, t.length = 32) (k : Nat) (hk : k ≤ ts.length) : (ts.take k).flatten.length = 32 * k := by
  rw [flat32 _ (fun t ht => h t (List.mem_of_mem_take ht)), List.length_take, Nat.min_eq_left hk]
theorem sumsTo_len (ts : List (List UInt8)) (h : ∀ t ∈ ts, t.length = 32) (k : Nat) (hk : k ≤ ts.length) : (sumsTo ts k).length = 32 * ts.length := by
  unfold sumsTo
  rw [List.length_append, sumsTo_pre ts h k hk, List.length_replicate]; omega
theorem sumsTo_next (ts : List (List UInt8)) (h : ∀ t ∈ ts, t.length = 32) (k : Nat) (hk : k < ts.length) : splice (cb (sumsTo ts k)) (32 * k) (cb ts[k]) = cb (sumsTo ts (k + 1)) := by
  have hp := sumsTo_pre ts h k (by omega)
  have hl : ts[k].length = 32 := h _ (List.getElem_mem hk)
  unfold splice sumsTo
  rw [cb_append, List.take_append_of_le_length (by rw [cb_len]; omega), List.take_of_length_le (by rw [cb_len]; omega), List.drop_append, List.drop_of_length_le (by rw [cb_len, cb_len]; omega), List.nil_append, flat_take ts k hk,
    cb_append, cb_append, List.append_assoc, cb_len, cb_len, hp, hl]
  congr 2
  rw [show 32 * k + 32 - 32 * k = 32 by omega, show 32 * (ts.length - k) = 32 + 32 * (ts.length - (k + 1)) by omega]
  simp [cb]

end Go.Proofs.YtfmbilnbbpbpeaaDoor

