/- A cut that came in, opened. -/
import Derived.Test.YtkopdkamhkmefaaCutR
import Derived.Test.YtkopdkamhkmefaaCutH
import Derived.Lib.SmallJoins
namespace Go.Proofs.Ytkopdkamhkmefaa
set_option maxRecDepth 100000
open Go Go.ChangeShapes Go.WideShapes Go.ChangeAt Go.RowKit
set_option linter.unusedVariables false
set_option linter.unusedSimpArgs false

theorem open_u64 {H : Type} {enc : TypeId × Value → H} {P : Program} {W : World} {t : TypeId} {fuel : Nat} {v : Value} {y : DataW H × List MemPlace}
    (ht : P.underlying t = some (.int .u64)) (hf : DataW.trod enc P W 0 (fun _ => true) true fuel t [v] = some y) : ∃ z : Nat, v = .int .u64 (z : Int) ∧ z < 18446744073709551616 := by
  obtain ⟨n, hcs, _, hw⟩ := DataW.trod_int ht hf
  simp only [List.cons.injEq, and_true] at hcs
  obtain ⟨h0, h1⟩ := bounds_u64 hw
  obtain ⟨z, rfl⟩ := Int.eq_ofNat_of_zero_le h0
  exact ⟨z, hcs, by omega⟩
/-- A cut that came in. -/
def CutIn (w : World) (v : Value) : Prop := ∃ (p k : Nat) (mn mx : Int), v = .agg (cutC p k mn mx).toArray ∧ p < 18446744073709551616 ∧ k < 18446744073709551616 ∧ (Lit.int .i64 mn).wf = true ∧ (Lit.int .i64 mx).wf = true
theorem open_cut {H : Type} {enc : TypeId × Value → H} {W : World} {b0 : Nat} {r : Reach} {v : Value} {d : DataW H} {p : List MemPlace} (hv : Value.okWide Try.prog W r b0 24 v)
    (h : DataW.Trod enc Try.prog W 0 (fun _ => true) true 24 v d p) (lt0 : ∀ x ∈ p, x.block < W.heap.size) : CutIn W v := by
  obtain ⟨v0, v1, v2, v3, y0, y1, y2, y3, n, rfl, _, rfl, h0, h1, h2, h3⟩ := Joins.open_agg4 Try.underlying24 (by kernel_rfl) (by kernel_rfl) hv h
  obtain ⟨a, rfl, ha⟩ := open_u64 Try.underlying22 h0
  obtain ⟨b, rfl, hb⟩ := open_u64 Try.underlying22 h1
  obtain ⟨c, rfl, hc⟩ := open_i64 Try.underlying3 h2
  obtain ⟨e, rfl, he⟩ := open_i64 Try.underlying3 h3
  exact ⟨a, b, c, e, rfl, ha, hb, hc, he⟩

/-- The lengths and the error as the program tells them. -/
def cutLV (p k : Nat) (mn mx : Int) (l : List UInt8) : List Nat := if cutOk p mn mx = true then cutL p (nb2 p - 1) k mn.toNat mx.toNat l else []
def cutE (p : Nat) (mn mx : Int) : Int := if cutOk p mn mx = true then 0 else 6
theorem cutLV_len (p k : Nat) (mn mx : Int) (l : List UInt8) : (cutLV p k mn mx l).length ≤ l.length := by
  unfold cutLV
  split
  · exact cutL_sum _ _ _ _ _ l
  · simp
theorem cutLV_ok {p k d : Nat} {mn mx : Int} (h : cutOk p mn mx = true) (hd : nb2 p = d + 1) (l : List UInt8) : cutLV p k mn mx l = cutL p d k mn.toNat mx.toNat l := by
  unfold cutLV
  rw [if_pos h, show nb2 p - 1 = d by omega]
/-- The document's example. -/
theorem cutLV_awake : cutLV 512 0 2 5 [1, 2, 3, 4, 5] = [2, 2, 1] := by
  have h0 : cutOk 512 2 5 = true := by decide
  have hd : nb2 512 = 9 + 1 := by decide
  have hno : ∀ x : UInt8, NoEnd 512 9 0 2 5 [x] := fun x i h1 h2 => by
    have : i = 1 := by simp at h2; omega
    subst this
    unfold cutP
    rfl
  have hyes : ∀ x y : UInt8, endB 512 9 0 2 5 ([x] ++ [y]) = true := fun x y => by
    rw [endB_eq, allB_zero]
    rfl
  rw [cutLV_ok h0 hd]
  change cutL 512 9 0 2 5 ([1] ++ 2 :: [3, 4, 5]) = _
  rw [cutL_end (hno 1) 2 (hyes 1 2)]
  change 2 :: cutL 512 9 0 2 5 ([3] ++ 4 :: [5]) = _
  rw [cutL_end (hno 3) 4 (hyes 3 4), cutL_open (hno 5)]
  rfl

end Go.Proofs.Ytkopdkamhkmefaa
