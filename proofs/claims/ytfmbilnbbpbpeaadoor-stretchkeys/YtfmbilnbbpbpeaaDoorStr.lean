/- PBKDF2 with HMAC-SHA-256, on lists of bytes. No program is named here. -/
import Derived.Test.YtfmbilnbbpbpeaaDoorMac
namespace Go.Proofs.YtfmbilnbbpbpeaaDoor
open Go.RowKit

/-- Two lists, exclusive-ored. -/
def xl (a b : List UInt8) : List UInt8 := List.zipWith (· ^^^ ·) a b
theorem xl_len (a b : List UInt8) (h : b.length = a.length) : (xl a b).length = a.length := by simp [xl, h]
/-- The tags one after the other, the first one being that of s. -/
def um (key s : List UInt8) : Nat → List UInt8
  | 0 => hmac key s
  | k + 1 => hmac key (um key s k)
/-- All of them up to the k-th, exclusive-ored. -/
def tm (key s : List UInt8) : Nat → List UInt8
  | 0 => hmac key s
  | k + 1 => xl (tm key s k) (um key s (k + 1))
theorem um_zero (key s : List UInt8) : um key s 0 = hmac key s := rfl
theorem tm_zero (key s : List UInt8) : tm key s 0 = hmac key s := rfl
theorem um_succ (key s : List UInt8) (k : Nat) : um key s (k + 1) = hmac key (um key s k) := rfl
theorem tm_succ (key s : List UInt8) (k : Nat) : tm key s (k + 1) = xl (tm key s k) (um key s (k + 1)) := rfl
theorem um_len (key s : List UInt8) (k : Nat) : (um key s k).length = 32 := by cases k <;> exact hmac_len _ _
theorem tm_len (key s : List UInt8) (k : Nat) : (tm key s k).length = 32 := by
  induction k with
  | zero => exact hmac_len _ _
  | succ k ih => rw [tm_succ, xl_len _ _ (by rw [ih, um_len]), ih]
/-- A block's text: the salt, and the block's number (the first one being 0 here). -/
def sblk (salt : List UInt8) (i : Nat) : List UInt8 := salt ++ stored (i + 1) false
theorem sblk_told (salt : List UInt8) (i : Nat) : sblk salt i = salt ++ (le (i + 1) 4).reverse := rfl
/-- The first k blocks. -/
def pbs (key salt : List UInt8) (r : Nat) : Nat → List UInt8
  | 0 => []
  | k + 1 => pbs key salt r k ++ tm key (sblk salt k) (r - 1)
theorem pbs_len (key salt : List UInt8) (r k : Nat) : (pbs key salt r k).length = 32 * k := by
  induction k with
  | zero => rfl
  | succ k ih => rw [pbs, List.length_append, ih, tm_len]; omega
theorem pbs_take (key salt : List UInt8) (r k j : Nat) : (pbs key salt r (k + j)).take (32 * k) = pbs key salt r k := by
  induction j with
  | zero => rw [Nat.add_zero, List.take_of_length_le (by rw [pbs_len]; omega)]
  | succ j ih => rw [← Nat.add_assoc, pbs, List.take_append_of_le_length (by rw [pbs_len]; omega), ih]
/-- The key. -/
def pbk (key salt : List UInt8) (r n : Nat) : List UInt8 := (pbs key salt r ((n + 31) / 32)).take n
theorem pbk_len (key salt : List UInt8) (r n : Nat) : (pbk key salt r n).length = n := by
  unfold pbk
  rw [List.length_take, pbs_len]
  omega
theorem pbk_take (key salt : List UInt8) (r n k : Nat) (h : k ≤ n) : (pbk key salt r n).take k = pbk key salt r k := by
  unfold pbk
  obtain ⟨j, hj⟩ : ∃ j, (n + 31) / 32 = (k + 31) / 32 + j := ⟨(n + 31) / 32 - (k + 31) / 32, by omega⟩
  rw [List.take_take, Nat.min_eq_left h, hj, ← pbs_take key salt r ((k + 31) / 32) j, List.take_take, Nat.min_eq_left (by omega)]
theorem pbk_block (key salt : List UInt8) (r : Nat) : pbk key salt r 32 = tm key (sblk salt 0) (r - 1) := by
  unfold pbk
  rw [List.take_of_length_le (by rw [pbs_len]; omega)]
  rfl

/-- How a list stands when its first k bytes have been exclusive-ored. -/
def xh (a b : List UInt8) (k : Nat) : List UInt8 := xl (a.take k) (b.take k) ++ a.drop k
section
variable {a b : List UInt8} (h : b.length = a.length)
include h
theorem xh_len (k : Nat) : (xh a b k).length = a.length := by
  unfold xh
  rw [List.length_append, xl_len _ _ (by simp [h])]
  simp
  omega
theorem xh_all : xh a b a.length = xl a b := by
  unfold xh
  rw [List.take_length, ← h, List.take_length, h]
  simp
theorem xh_at (k : Nat) (hk : k < a.length) : (xh a b k)[k]? = some a[k] := by
  have hl : (xl (a.take k) (b.take k)).length = k := by rw [xl_len _ _ (by simp [h])]; simp; omega
  unfold xh
  rw [List.getElem?_append_right (by omega), hl, Nat.sub_self, List.getElem?_drop, Nat.add_zero, List.getElem?_eq_getElem hk]
theorem xh_next (k : Nat) (hk : k < a.length) : (xh a b k).set k (a[k] ^^^ b[k]'(by omega)) = xh a b (k + 1) := by
  have hl : (xl (a.take k) (b.take k)).length = k := by rw [xl_len _ _ (by simp [h])]; simp; omega
  have hx : xl (a.take (k + 1)) (b.take (k + 1)) = xl (a.take k) (b.take k) ++ [a[k] ^^^ b[k]'(by omega)] := by
    unfold xl
    rw [List.take_succ_eq_append_getElem hk, List.take_succ_eq_append_getElem (by omega), List.zipWith_append (by simp; omega)]
    rfl
  unfold xh
  rw [List.set_append_right _ _ (by omega), hl, Nat.sub_self, hx, List.drop_eq_getElem_cons hk, List.set_cons_zero, List.append_assoc]
  rfl
end
theorem xh_zero (a b : List UInt8) : xh a b 0 = a := by simp [xh, xl]

def passB : List UInt8 := [112, 97, 115, 115, 119, 111, 114, 100]
def saltB : List UInt8 := [115, 97, 108, 116]
/-- The chapter's example, by the kernel. -/
theorem pbk_example : (pbk passB saltB 1 20)[0]? = some 18 ∧ (pbk passB saltB 1 20)[1]? = some 15 ∧ (pbk passB saltB 1 20)[19]? = some 201 := by decide +kernel

end Go.Proofs.YtfmbilnbbpbpeaaDoor

