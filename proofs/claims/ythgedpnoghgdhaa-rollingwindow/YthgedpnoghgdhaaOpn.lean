/- How an array of bytes that comes in by value is opened. No program is named here. -/
import Derived.Test.YthgedpnoghgdhaaLG
namespace Go.Proofs.Ythgedpnoghgdhaa
set_option maxRecDepth 100000
open Go.ChangeShapes Go.WideShapes Go.ChangeAt Go.RowKit
set_option linter.unusedVariables false

theorem cells_of_bytes (cs : List Value) (h : ∀ u ∈ cs, ∃ b : UInt8, u = bc b) : ∃ l : List UInt8, cs = cb l := by
  induction cs with
  | nil => exact ⟨[], rfl⟩
  | cons u cs ih =>
    obtain ⟨l, hl⟩ := ih (fun v hv => h v (by simp [hv]))
    obtain ⟨b, hb⟩ := h u (by simp)
    exact ⟨b :: l, by rw [hl, hb]; rfl⟩

theorem okWide_array {P : Program} {W : World} {r : Reach} {b0 : Nat} {t e : TypeId} {n : Nat} {v : Value} (ht : P.underlying t = some (.array n e)) (h : Value.okWide P W r b0 t v) : ∃ cs, v = .agg cs ∧ cs.size = P.cellsOf t := by
  simp only [Value.okWide, ht] at h
  obtain ⟨cs, h1, h2, _⟩ := h
  exact ⟨cs, h1, h2⟩

theorem open_barr {H : Type} {enc : TypeId × Value → H} {P : Program} {W : World} {b0 n : Nat} {r : Reach} {t e : TypeId} {v : Value} {d : DataW H} {p : List MemPlace} (ht : P.underlying t = some (.array n e)) (he : P.underlying e = some (.int .u8)) (hce : P.cellsOf e = 1) (hct : P.cellsOf t = n)
    (hv : Value.okWide P W r b0 t v) (h : DataW.Trod enc P W 0 (fun _ => true) true t v d p) : ∃ l : List UInt8, v = .agg (cb l).toArray ∧ l.length = n := by
  obtain ⟨cs, rfl, hsz⟩ := okWide_array ht hv
  obtain ⟨fuel, hf⟩ := h
  obtain ⟨xs, m, _, _, hlen, hxl, hall⟩ := DataW.trod_array ht hf
  have hcl : cs.toList.length = n := by simp; omega
  obtain ⟨l, hl⟩ := cells_of_bytes cs.toList (by
    intro u hu
    obtain ⟨i, hi, rfl⟩ := List.getElem_of_mem hu
    have hin : i < n := by omega
    have h1 := hall i hin
    rw [hce, Nat.mul_one, List.getElem?_eq_getElem (by omega)] at h1
    obtain ⟨k, hk, _, hw⟩ := DataW.trod_int he h1
    have h2 : (cs.toList.drop i).take 1 = [cs.toList[i]] := by rw [List.drop_eq_getElem_cons hi, List.take_succ_cons, List.take_zero]
    have hk' : (cs.toList.drop i).take 1 = [.int .u8 k] := hk
    rw [h2] at hk'
    have h3 : cs.toList[i] = .int .u8 k := by injection hk'
    obtain ⟨k0, k1⟩ := bounds_u8 hw
    refine ⟨UInt8.ofNat k.toNat, ?_⟩
    rw [h3]
    unfold bc
    rw [UInt8.toNat_ofNat_of_lt' (by simp [UInt8.size]; omega)]
    congr 1
    omega)
  exact ⟨l, by rw [← hl], by rw [← cb_len, ← hl]; exact hcl⟩

end Go.Proofs.Ythgedpnoghgdhaa
