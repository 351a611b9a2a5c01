/- The mathematics of a rolling fingerprint: the remainder of the bits of the last bytes. No function of the program is named here. -/
import Derived.Test.YtkopdkamhkmefaaGfM
import Derived.Test.YtkopdkamhkmefaaLG
namespace Go.Proofs.Ytkopdkamhkmefaa
set_option maxRecDepth 100000
open Go Go.RowKit
set_option linter.unusedVariables false
set_option linter.unusedSimpArgs false

/-- 'x' moved up by k places, and c below. -/
theorem up_xor (x k c : Nat) (h : c < 2 ^ k) : x * 2 ^ k + c = x * 2 ^ k ^^^ c := by
  rw [Nat.mul_comm]
  apply Nat.eq_of_testBit_eq
  intro i
  rw [Nat.testBit_two_pow_mul_add x h, Nat.testBit_xor, Nat.testBit_two_pow_mul]
  by_cases hi : i < k
  · have : ¬ k ≤ i := by omega
    simp [hi, this]
  · have hk : k ≤ i := by omega
    have hc : c.testBit i = false := Nat.testBit_lt_two_pow (Nat.lt_of_lt_of_le h (Nat.pow_le_pow_right (by decide) hk))
    simp [hi, hk, hc]
section
variable {m d : Nat} (hm : Deg m d)
include hm
theorem pr_idem (a : Nat) : pr m d (pr m d a) = pr m d a := pr_self hm (pr_lt hm a)
/-- A remainder moved up. -/
theorem pr_up (a k : Nat) : pr m d (pr m d a * 2 ^ k) = pr m d (a * 2 ^ k) := by
  rw [Nat.mul_comm, Nat.mul_comm a, ← pm_pow, ← pm_pow, ← cg_iff hm]
  exact ((cg_pr hm a).symm).left _
theorem pr_up_xor (a k c : Nat) : pr m d (pr m d a * 2 ^ k ^^^ c) = pr m d (a * 2 ^ k ^^^ c) := by
  rw [pr_xor hm, pr_up hm, ← pr_xor hm]
theorem pr_up_add (a k c : Nat) (h : c < 2 ^ k) : pr m d (pr m d a * 2 ^ k + c) = pr m d (a * 2 ^ k + c) := by
  rw [up_xor _ _ _ h, up_xor _ _ _ h, pr_up_xor hm]
/-- One bit more. -/
theorem pr_bit (a s : Nat) (h : s < 2) : pr m d (2 * pr m d a + s) = pr m d (2 * a + s) := by
  have := pr_up_add hm a 1 s (by simpa using h)
  simpa [Nat.mul_comm] using this
end

/-- A byte more. -/
theorem val_push (l : List UInt8) (b : UInt8) : val (l ++ [b]) = val l * 2 ^ 8 ^^^ b.toNat := by
  rw [val_snoc, ← up_xor _ _ _ (by have := b.toNat_lt; omega)]
/-- The oldest byte off. -/
theorem val_off (o : UInt8) (l : List UInt8) : val l = val (o :: l) ^^^ o.toNat * 2 ^ (8 * l.length) := by
  have h1 := val_lt l
  have e : 256 ^ l.length = 2 ^ (8 * l.length) := by rw [Nat.pow_mul]
  rw [e] at h1
  rw [val_cons, e, up_xor _ _ _ h1, Nat.xor_comm (o.toNat * 2 ^ (8 * l.length)), Nat.xor_assoc, Nat.xor_self, Nat.xor_zero]
/-- Noughts ahead change nothing. -/
theorem val_noughts : ∀ (k : Nat) (l : List UInt8), val (List.replicate k 0 ++ l) = val l
  | 0, l => rfl
  | k + 1, l => by rw [List.replicate_succ, List.cons_append, val_cons, val_noughts k l]; simp
/-- Two lists exclusive-ored. -/
theorem val_xl : ∀ (a b : List UInt8), a.length = b.length → val (xl a b) = val a ^^^ val b
  | [], [], _ => rfl
  | x :: a, y :: b, h => by
    have hl : a.length = b.length := by simpa using h
    have e : xl (x :: a) (y :: b) = (x ^^^ y) :: xl a b := rfl
    have e2 : 256 ^ b.length = 2 ^ (8 * b.length) := by rw [Nat.pow_mul]
    have h1 := val_lt (xl a b)
    have h2 := val_lt a
    have h3 := val_lt b
    rw [xl_len a b hl.symm, hl, e2] at h1
    rw [hl, e2] at h2
    rw [e2] at h3
    rw [e, val_cons, val_cons, val_cons, xl_len a b hl.symm, hl, e2, up_xor _ _ _ h1, up_xor _ _ _ h2, up_xor _ _ _ h3, val_xl a b hl, UInt8.toNat_xor]
    have h4 : (x.toNat ^^^ y.toNat) * 2 ^ (8 * b.length) = x.toNat * 2 ^ (8 * b.length) ^^^ y.toNat * 2 ^ (8 * b.length) := by
      rw [← Nat.shiftLeft_eq, ← Nat.shiftLeft_eq, ← Nat.shiftLeft_eq, Nat.shiftLeft_xor_distrib]
    rw [h4, xor4]

/-- The last sixteen. -/
def lastW (l : List UInt8) : List UInt8 := l.drop (l.length - 16)
/-- The fingerprint behind bytes. -/
def fpr (m d : Nat) (l : List UInt8) : Nat := pr m d (val (lastW l))
/-- The window behind bytes: sixteen, noughts ahead. -/
def winW (l : List UInt8) : List UInt8 := List.replicate (16 - (lastW l).length) 0 ++ lastW l
theorem lastW_len (l : List UInt8) : (lastW l).length = min l.length 16 := by unfold lastW; rw [List.length_drop]; omega
theorem winW_len (l : List UInt8) : (winW l).length = 16 := by unfold winW; rw [List.length_append, List.length_replicate, lastW_len]; omega
theorem winW_val (l : List UInt8) : val (winW l) = val (lastW l) := val_noughts _ _
theorem winW_nil : winW [] = List.replicate 16 0 := rfl
theorem lastW_push (l : List UInt8) (b : UInt8) : lastW (l ++ [b]) = (if 16 ≤ l.length then (lastW l).tail else lastW l) ++ [b] := by
  unfold lastW
  rw [List.length_append, List.length_singleton]
  by_cases h : 16 ≤ l.length
  · rw [if_pos h, List.drop_append_of_le_length (by omega), List.tail_drop]
    congr 2
    omega
  · rw [if_neg h, show l.length + 1 - 16 = 0 by omega, show l.length - 16 = 0 by omega]
    rfl
/-- The window moves on by a byte. -/
theorem winW_push (l : List UInt8) (b : UInt8) : winW (l ++ [b]) = (winW l).tail ++ [b] := by
  have h1 := lastW_push l b
  have h2 := lastW_len l
  unfold winW
  rw [h1]
  by_cases h : 16 ≤ l.length
  · rw [if_pos h] at h1 ⊢
    have e1 : (lastW l).length = 16 := by rw [h2]; omega
    rw [List.length_append, List.length_tail, e1]
    rfl
  · rw [if_neg h]
    have e1 : (lastW l).length = l.length := by rw [h2]; omega
    rw [List.length_append, e1, List.length_singleton, show 16 - l.length = (16 - (l.length + 1)) + 1 by omega, List.replicate_succ, List.cons_append, List.tail_cons, List.append_assoc]
/-- The fingerprint moves on by a byte: what goes out is taken off. -/
theorem fpr_push {m d : Nat} (hm : Deg m d) (l : List UInt8) (b : UInt8) : fpr m d (l ++ [b]) = pr m d ((fpr m d l ^^^ pr m d (((winW l).headD 0).toNat * 2 ^ 120)) * 2 ^ 8 ^^^ b.toNat) := by
  unfold fpr
  rw [← winW_val, ← winW_val, winW_push, val_push]
  have hl := winW_len l
  cases hw : winW l with
  | nil => rw [hw] at hl; cases hl
  | cons o r =>
    rw [hw] at hl
    have hr : r.length = 15 := by simpa using hl
    rw [List.tail_cons, List.headD_cons, val_off o r, hr, ← pr_xor hm]
    rw [pr_up_xor hm]
theorem fpr_nil (m d : Nat) : fpr m d [] = 0 := pr_zero m d
/-- It hangs on the last sixteen alone. -/
theorem fpr_last (m d : Nat) (a l : List UInt8) (h : 16 ≤ l.length) : fpr m d (a ++ l) = fpr m d l := by
  unfold fpr lastW
  rw [List.length_append, List.drop_append, show (a.length + l.length - 16) - a.length = l.length - 16 by omega, List.drop_of_length_le (by omega)]
  rfl
/-- Windows exclusive-ored. -/
theorem fpr_xl {m d : Nat} (hm : Deg m d) (a b : List UInt8) (ha : a.length = 16) (hb : b.length = 16) : fpr m d (xl a b) = fpr m d a ^^^ fpr m d b := by
  have hx : (xl a b).length = 16 := by rw [xl_len a b (by omega)]; exact ha
  unfold fpr lastW
  rw [ha, hb, hx]
  simp only [Nat.sub_self, List.drop_zero]
  rw [val_xl a b (by omega), pr_xor hm]

/-- A byte's first t bits behind v. -/
def bitsV (v b t : Nat) : Nat := v * 2 ^ t + b / 2 ^ (8 - t)
theorem bitsV_zero (v b : Nat) (hb : b < 256) : bitsV v b 0 = v := by unfold bitsV; simp; omega
theorem bitsV_all (v b : Nat) : bitsV v b 8 = v * 256 + b := by unfold bitsV; simp
theorem bitsV_next (v b t : Nat) (ht : t < 8) : 2 * bitsV v b t + b / 2 ^ (7 - t) % 2 = bitsV v b (t + 1) := by
  unfold bitsV
  have e1 : 2 ^ (8 - t) = 2 ^ (7 - t) * 2 := by rw [← Nat.pow_succ]; congr 1; omega
  have e2 : 8 - (t + 1) = 7 - t := by omega
  rw [e1, e2, ← Nat.div_div_eq_div_mul, Nat.pow_succ]
  generalize b / 2 ^ (7 - t) = q
  have e3 : v * (2 ^ t * 2) = 2 * (v * 2 ^ t) := by rw [← Nat.mul_assoc, Nat.mul_comm]
  rw [e3]
  generalize v * 2 ^ t = r
  omega

end Go.Proofs.Ytkopdkamhkmefaa
