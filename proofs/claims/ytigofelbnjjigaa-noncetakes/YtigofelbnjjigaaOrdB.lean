/- Bytes in order: as strings are compared, and as numbers, big end first. No function of the program is named here. -/
import Derived.Test.YtigofelbnjjigaaLG
import Derived.Laws.Cover1
namespace Go.Proofs.Ytigofelbnjjigaa
set_option maxRecDepth 100000
open Go Go.RowKit
set_option linter.unusedVariables false
set_option linter.unusedSimpArgs false

/-- Of lists of one length, the one that comes ahead is the smaller number. -/
theorem less_val : ∀ (x y : List UInt8), x.length = y.length → Op.bytesLess x y = decide (val x < val y)
  | [], [], _ => by simp [Op.bytesLess]
  | a :: x, b :: y, h => by
    have hl : x.length = y.length := by simpa using h
    have hx := val_lt x
    have hy := val_lt y
    rw [hl] at hx
    rw [Op.bytesLess, less_val x y hl, val_cons, val_cons, hl]
    generalize 256 ^ y.length = K at hx hy
    generalize val x = vx at hx
    generalize val y = vy at hy
    rcases Nat.lt_trichotomy a.toNat b.toNat with hab | hab | hab
    · have h1 : decide (a < b) = true := by simpa using UInt8.lt_iff_toNat_lt.2 hab
      have h2 : a.toNat * K + vx < b.toNat * K + vy := by
        have : (a.toNat + 1) * K ≤ b.toNat * K := Nat.mul_le_mul_right K hab
        rw [Nat.add_mul] at this
        omega
      rw [h1, decide_eq_true h2]; rfl
    · have e : a = b := UInt8.toNat_inj.1 hab
      subst e
      have h1 : decide (a < a) = false := by simp
      rw [h1]
      simp
    · have h1 : decide (a < b) = false := by
        rw [decide_eq_false_iff_not, UInt8.lt_iff_toNat_lt]; omega
      have h3 : (a == b) = false := by
        rw [beq_eq_false_iff_ne]; intro e; subst e; omega
      have h2 : ¬ a.toNat * K + vx < b.toNat * K + vy := by
        have : (b.toNat + 1) * K ≤ a.toNat * K := Nat.mul_le_mul_right K hab
        rw [Nat.add_mul] at this
        omega
      rw [h1, h3, decide_eq_false h2]; rfl

theorem val_app : ∀ (x y : List UInt8), val (x ++ y) = val x * 256 ^ y.length + val y
  | [], y => by simp [val_nil]
  | a :: x, y => by
    rw [List.cons_append, val_cons, val_cons, val_app x y, List.length_append, Nat.pow_add, Nat.add_mul, Nat.mul_assoc, Nat.add_assoc]

/-- Lists of one length with one value are one. -/
theorem val_inj : ∀ (x y : List UInt8), x.length = y.length → val x = val y → x = y
  | [], [], _, _ => rfl
  | a :: x, b :: y, h, hv => by
    have hl : x.length = y.length := by simpa using h
    have hx := val_lt x
    have hy := val_lt y
    rw [val_cons, val_cons, hl] at hv
    rw [hl] at hx
    have hab : a.toNat = b.toNat := by
      generalize 256 ^ y.length = K at hx hy hv
      rcases Nat.lt_trichotomy a.toNat b.toNat with hab | hab | hab
      · have : (a.toNat + 1) * K ≤ b.toNat * K := Nat.mul_le_mul_right K hab
        rw [Nat.add_mul] at this
        omega
      · exact hab
      · have : (b.toNat + 1) * K ≤ a.toNat * K := Nat.mul_le_mul_right K hab
        rw [Nat.add_mul] at this
        omega
    have e : a = b := UInt8.toNat_inj.1 hab
    subst e
    rw [val_inj x y hl (by omega)]

/-- What 's <= t' says where s is the greater. -/
theorem not_leq {b l : List UInt8} (hl : b.length = l.length) (h : val l < val b) : (Op.bytesLess b l || b == l) = false := by
  rw [less_val b l hl, decide_eq_false (by omega)]
  have : (b == l) = false := by rw [beq_eq_false_iff_ne]; intro e; subst e; omega
  rw [this]; rfl
theorem not_leq_nil {b : List UInt8} (h : 0 < b.length) : (Op.bytesLess b [] || b == []) = false := by
  cases b with
  | nil => simp at h
  | cons a r => simp [Op.bytesLess]

/-- A nonce: four bytes and eight, big end first. -/
def nonceL (e n : Nat) : List UInt8 := stored e false ++ told8 n
theorem nonceL_len (e n : Nat) : (nonceL e n).length = 12 := by unfold nonceL; rw [List.length_append, stored_len, told8_len]
theorem nonceL_val (e n : Nat) (he : e < 4294967296) (hn : n < 18446744073709551616) : val (nonceL e n) = e * 18446744073709551616 + n := by
  unfold nonceL stored told8
  rw [val_app]
  simp only [Bool.false_eq_true, if_false, List.length_reverse, le_len]
  rw [val_le, val_le, Nat.mod_eq_of_lt (by simpa using he), Nat.mod_eq_of_lt (by simpa using hn)]
theorem nonceL_lt {e e' n n' : Nat} (he : e < 4294967296) (hn : n < 18446744073709551616) (he' : e' < 4294967296) (hn' : n' < 18446744073709551616) (h : e < e' ∨ (e ≤ e' ∧ n < n')) : val (nonceL e n) < val (nonceL e' n') := by
  rw [nonceL_val e n he hn, nonceL_val e' n' he' hn']
  omega
/-- Any twelve bytes are the nonce of what they are read as. -/
theorem nonceL_of {b : List UInt8} (h : b.length = 12) : nonceL (val (b.take 4)) (val (b.drop 4)) = b := by
  have h4 : (b.take 4).length = 4 := by rw [List.length_take]; omega
  have h8 : (b.drop 4).length = 8 := by rw [List.length_drop]; omega
  have v4 := val_lt (b.take 4)
  have v8 := val_lt (b.drop 4)
  rw [h4] at v4
  rw [h8] at v8
  refine val_inj _ _ (by rw [nonceL_len, h]) ?_
  rw [nonceL_val _ _ (by simpa using v4) (by simpa using v8)]
  have := val_app (b.take 4) (b.drop 4)
  rw [List.take_append_drop, h8] at this
  rw [this]

end Go.Proofs.Ytigofelbnjjigaa
