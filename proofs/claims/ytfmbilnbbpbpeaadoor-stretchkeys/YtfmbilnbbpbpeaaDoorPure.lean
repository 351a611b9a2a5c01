/- Plain arithmetic of words: rotation, bits, bytes of a word. No program is named here. -/
import Derived.WalkKit
namespace Go.Proofs.YtfmbilnbbpbpeaaDoor
open Go.RowKit

/-- A word (below 2^32) rotated left by k places, k at most 32. -/
def rotN (x k : Nat) : Nat := x * 2 ^ k % 4294967296 + x / 2 ^ (32 - k)
/-- One step of the reference's rotation. -/
def dbl (x : Nat) : Nat := (x * 2 + x / 2147483648) % 4294967296

theorem rotN_or (x k : Nat) (hx : x < 4294967296) (hk : k ≤ 32) : (x * 2 ^ k % 4294967296) ||| (x / 2 ^ (32 - k)) = rotN x k := by
  unfold rotN
  have hp : (4294967296 : Nat) = 2 ^ (32 - k) * 2 ^ k := by rw [← Nat.pow_add, show 32 - k + k = 32 by omega]
  have e : x * 2 ^ k % 4294967296 = 2 ^ k * (x % 2 ^ (32 - k)) := by
    rw [hp, Nat.mul_mod_mul_right, Nat.mul_comm]
  have hq : x / 2 ^ (32 - k) < 2 ^ k := by
    rw [Nat.div_lt_iff_lt_mul (Nat.two_pow_pos _), Nat.mul_comm, ← hp]; exact hx
  rw [e, Nat.two_pow_add_eq_or_of_lt hq]

theorem rotN_lt (x k : Nat) (hx : x < 4294967296) (hk : k ≤ 32) : rotN x k < 4294967296 := by
  rw [← rotN_or x k hx hk]
  have h1 : x * 2 ^ k % 4294967296 < 2 ^ 32 := Nat.mod_lt _ (by decide)
  have h2 : x / 2 ^ (32 - k) < 2 ^ 32 := Nat.lt_of_le_of_lt (Nat.div_le_self _ _) hx
  exact Nat.or_lt_two_pow h1 h2

theorem rotN_zero (x : Nat) (hx : x < 4294967296) : rotN x 0 = x := by
  unfold rotN
  simp only [Nat.pow_zero, Nat.mul_one, Nat.sub_zero]
  omega

theorem rotN_of (q r k m : Nat) (hk : k + m = 32) (hr : r < 2 ^ m) : rotN (q * 2 ^ m + r) k = r * 2 ^ k + q := by
  unfold rotN
  have hp : (4294967296 : Nat) = 2 ^ m * 2 ^ k := by rw [← Nat.pow_add, show m + k = 32 by omega]
  rw [show 32 - k = m by omega, hp, Nat.mul_mod_mul_right]
  have e1 : (q * 2 ^ m + r) % 2 ^ m = r := by rw [Nat.mul_comm, Nat.mul_add_mod, Nat.mod_eq_of_lt hr]
  have e2 : (q * 2 ^ m + r) / 2 ^ m = q := by rw [Nat.mul_comm, Nat.mul_add_div (Nat.two_pow_pos m), Nat.div_eq_of_lt hr, Nat.add_zero]
  rw [e1, e2]

theorem rotN_succ (x k : Nat) (hx : x < 4294967296) (hk : k < 32) : rotN x (k + 1) = dbl (rotN x k) := by
  obtain ⟨m, hm⟩ : ∃ m, k + 1 + m = 32 := ⟨31 - k, by omega⟩
  have hM : 2 ^ (m + 1) = 2 * 2 ^ m := by rw [Nat.pow_succ]; omega
  have hP : 2 ^ (k + 1) = 2 * 2 ^ k := by rw [Nat.pow_succ]; omega
  have hPM : 2 ^ k * 2 ^ m = 2147483648 := by rw [← Nat.pow_add, show k + m = 31 by omega]
  have hpos := Nat.two_pow_pos m
  -- x = Q * 2^m + R, Q = 2 q + b
  have hR : x % 2 ^ m < 2 ^ m := Nat.mod_lt _ hpos
  have hx0 : x = x / 2 ^ m * 2 ^ m + x % 2 ^ m := by rw [Nat.mul_comm]; exact (Nat.div_add_mod x (2 ^ m)).symm
  have hQ : x / 2 ^ m < 2 ^ (k + 1) := by
    rw [Nat.div_lt_iff_lt_mul hpos, hP, Nat.mul_assoc, hPM]; exact hx
  generalize x / 2 ^ m = Q at *
  generalize x % 2 ^ m = R at *
  have hb : Q / 2 * 2 + Q % 2 = Q := by omega
  have hq : Q / 2 < 2 ^ k := by omega
  have hb2 : Q % 2 < 2 := by omega
  generalize Q / 2 = q at *
  generalize Q % 2 = b at *
  have e1 : rotN x (k + 1) = R * 2 ^ (k + 1) + Q := by rw [hx0]; exact rotN_of Q R (k + 1) m (by omega) hR
  have hx1 : x = q * 2 ^ (m + 1) + (b * 2 ^ m + R) := by
    rw [hx0, ← hb, hM, Nat.add_mul, Nat.mul_assoc, Nat.add_assoc]
  have hr1 : b * 2 ^ m + R < 2 ^ (m + 1) := by
    rw [hM]
    have : b = 0 ∨ b = 1 := by omega
    rcases this with rfl | rfl <;> omega
  have e2 : rotN x k = (b * 2 ^ m + R) * 2 ^ k + q := by rw [hx1]; exact rotN_of q _ k (m + 1) (by omega) hr1
  have hT : R * 2 ^ k + 2 ^ k ≤ 2147483648 := by
    rw [← hPM, Nat.mul_comm (2 ^ k)]
    calc R * 2 ^ k + 2 ^ k = (R + 1) * 2 ^ k := by rw [Nat.add_mul, Nat.one_mul]
      _ ≤ 2 ^ m * 2 ^ k := Nat.mul_le_mul_right _ hR
  rw [e1, e2, hP, Nat.add_mul, Nat.mul_assoc b, Nat.mul_comm (2 ^ m), hPM, ← Nat.mul_assoc, Nat.mul_comm R 2, Nat.mul_assoc]
  generalize R * 2 ^ k = T at *
  have hj : T + q < 2147483648 := by omega
  clear e1 e2 hx0 hx1 hr1 hT hR hPM hP hM hQ hq
  unfold dbl
  have : b = 0 ∨ b = 1 := by omega
  rcases this with rfl | rfl
  · rw [Nat.zero_mul, Nat.zero_add, Nat.div_eq_of_lt hj, Nat.mod_eq_of_lt (by omega)]; omega
  · rw [Nat.one_mul, Nat.add_assoc, show (2147483648 + (T + q)) / 2147483648 = 1 by omega]; omega

/-- What bytes are worth, the highest first. -/
def val (l : List UInt8) : Nat := l.foldl (fun n b => n * 256 + b.toNat) 0
theorem val_nil : val [] = 0 := rfl
theorem val_snoc (l : List UInt8) (b : UInt8) : val (l ++ [b]) = val l * 256 + b.toNat := by simp [val, List.foldl_append]
theorem take_snoc (l : List UInt8) (k : Nat) (h : k < l.length) : l.take (k + 1) = l.take k ++ [l[k]] := by
  rw [List.take_succ_eq_append_getElem h]
theorem val_take (l : List UInt8) (k : Nat) (h : k < l.length) : val (l.take (k + 1)) = val (l.take k) * 256 + l[k].toNat := by
  rw [take_snoc l k h, val_snoc]
theorem val_lt (l : List UInt8) : val l < 256 ^ l.length := by
  induction hn : l.length generalizing l with
  | zero => rw [List.eq_nil_of_length_eq_zero hn]; decide
  | succ n ih =>
    obtain ⟨b, r, e⟩ : ∃ b r, l = r ++ [b] := ⟨l.getLast (by intro h; simp [h] at hn), l.dropLast, (List.dropLast_concat_getLast _).symm⟩
    subst e
    rw [val_snoc]
    have h1 := ih r (by simpa using hn)
    have h2 : b.toNat < 256 := b.toNat_lt
    rw [Nat.pow_succ]
    omega
theorem val_take_lt (l : List UInt8) (k : Nat) (h : k ≤ l.length) : val (l.take k) < 256 ^ k := by
  have := val_lt (l.take k)
  rwa [List.length_take, Nat.min_eq_left h] at this

/-- What Load gives, and its error. -/
def loadV (l : List UInt8) (low : Bool) : Nat := if l.length = 4 then val (if low then l.reverse else l) else 0
def loadE (l : List UInt8) : Int := if l.length = 4 then 0 else 1
def longV (l : List UInt8) : Nat := if l.length = 8 then val l else 0
def longE (l : List UInt8) : Int := if l.length = 8 then 0 else 1
theorem loadV_lt (l : List UInt8) (low : Bool) : loadV l low < 4294967296 := by
  unfold loadV
  split
  · rename_i h
    have h1 := val_lt l
    have h2 := val_lt l.reverse
    rw [h] at h1
    rw [List.length_reverse, h] at h2
    cases low <;> simp <;> omega
  · decide

/-- By how many places the byte i stands. -/
def shf (i : Nat) (low : Bool) : Nat := if low then 8 * i else 8 * (3 - i)
theorem shf_le (i : Nat) (low : Bool) (h : i ≤ 3) : shf i low ≤ 24 := by unfold shf; split <;> omega
/-- The word behind k bytes. -/
def ldTo (l : List UInt8) (low : Bool) : Nat → Nat
  | 0 => 0
  | k + 1 => ldTo l low k ||| (l.getD k 0).toNat * 2 ^ shf k low % 4294967296
theorem ldTo_lt (l : List UInt8) (low : Bool) (k : Nat) : ldTo l low k < 4294967296 := by
  induction k with
  | zero => exact (by decide : (0 : Nat) < 4294967296)
  | succ k ih =>
    unfold ldTo
    exact Nat.or_lt_two_pow (n := 32) ih (Nat.mod_lt _ (by decide))
theorem or_add (i a b : Nat) (h : b < 2 ^ i) : 2 ^ i * a ||| b = 2 ^ i * a + b := (Nat.two_pow_add_eq_or_of_lt h a).symm
theorem or_add8 (a b : Nat) (h : b < 256) : a * 256 ||| b = a * 256 + b := by rw [Nat.mul_comm]; exact or_add 8 a b h
theorem or_add16 (a b : Nat) (h : b < 65536) : a * 65536 ||| b = a * 65536 + b := by rw [Nat.mul_comm]; exact or_add 16 a b h
theorem or_add24 (a b : Nat) (h : b < 16777216) : a * 16777216 ||| b = a * 16777216 + b := by rw [Nat.mul_comm]; exact or_add 24 a b h
theorem ldTo_four (l : List UInt8) (low : Bool) (h : l.length = 4) : ldTo l low 4 = loadV l low := by
  obtain ⟨a, b, c, d, rfl⟩ : ∃ a b c d, l = [a, b, c, d] := by
    match l, h with
    | [a, b, c, d], _ => exact ⟨a, b, c, d, rfl⟩
  have ha : a.toNat < 256 := a.toNat_lt
  have hb : b.toNat < 256 := b.toNat_lt
  have hc : c.toNat < 256 := c.toNat_lt
  have hd : d.toNat < 256 := d.toNat_lt
  have m0 : ∀ x : Nat, x < 4294967296 → x % 4294967296 = x := fun x hx => Nat.mod_eq_of_lt hx
  cases low
  · have e : ldTo [a, b, c, d] false 4 = (((0 ||| a.toNat * 16777216 % 4294967296) ||| b.toNat * 65536 % 4294967296) ||| c.toNat * 256 % 4294967296) ||| d.toNat * 1 % 4294967296 := rfl
    rw [e, m0 _ (by omega), m0 _ (by omega), m0 _ (by omega), m0 _ (by omega), Nat.zero_or, Nat.mul_one, or_add24 _ _ (by omega)]
    rw [show a.toNat * 16777216 + b.toNat * 65536 = (a.toNat * 256 + b.toNat) * 65536 by omega, or_add16 _ _ (by omega)]
    rw [show (a.toNat * 256 + b.toNat) * 65536 + c.toNat * 256 = ((a.toNat * 256 + b.toNat) * 256 + c.toNat) * 256 by omega, or_add8 _ _ (by omega)]
    simp [loadV, val]
  · have e : ldTo [a, b, c, d] true 4 = (((0 ||| a.toNat * 1 % 4294967296) ||| b.toNat * 256 % 4294967296) ||| c.toNat * 65536 % 4294967296) ||| d.toNat * 16777216 % 4294967296 := rfl
    rw [e, m0 _ (by omega), m0 _ (by omega), m0 _ (by omega), m0 _ (by omega), Nat.zero_or, Nat.mul_one, Nat.or_comm a.toNat, or_add8 _ _ (by omega),
      Nat.or_comm _ (c.toNat * 65536), or_add16 _ _ (by omega), Nat.or_comm _ (d.toNat * 16777216), or_add24 _ _ (by omega)]
    simp [loadV, val]
    omega

/-- A number's lowest k bytes, the lowest first. -/
def le (n : Nat) : Nat → List UInt8
  | 0 => []
  | k + 1 => le n k ++ [UInt8.ofNat (n / 256 ^ k % 256)]
theorem le_len (n k : Nat) : (le n k).length = k := by
  induction k with
  | zero => rfl
  | succ k ih => simp [le, ih]
theorem le_at (n k i : Nat) (h : i < k) : (le n k)[i]? = some (UInt8.ofNat (n / 256 ^ i % 256)) := by
  induction k with
  | zero => omega
  | succ k ih =>
    unfold le
    by_cases hi : i < k
    · rw [List.getElem?_append_left (by rw [le_len]; exact hi)]; exact ih hi
    · obtain rfl : i = k := by omega
      rw [List.getElem?_append_right (by rw [le_len]; omega), le_len]
      simp
/-- A word's four bytes. -/
def stored (x : Nat) (low : Bool) : List UInt8 := if low then le x 4 else (le x 4).reverse
theorem stored_len (x : Nat) (low : Bool) : (stored x low).length = 4 := by unfold stored; split <;> simp [le_len]
theorem stored_at (x : Nat) (low : Bool) (i : Nat) (h : i < 4) : (stored x low)[i]? = some (UInt8.ofNat (x / 2 ^ shf i low % 256)) := by
  have hp : ∀ j, (256 : Nat) ^ j = 2 ^ (8 * j) := fun j => by rw [Nat.pow_mul]
  unfold stored shf
  cases low
  · simp only [Bool.false_eq_true, if_false]
    rw [List.getElem?_reverse (by rw [le_len]; exact h), le_len, le_at _ _ _ (by omega), hp]
  · simp only [if_true]
    rw [le_at _ _ _ h, hp]
/-- The bytes while they are written, k of them so far. -/
def upTo (l : List UInt8) (k : Nat) : List UInt8 := l.take k ++ List.replicate (l.length - k) 0
theorem upTo_zero (l : List UInt8) : upTo l 0 = List.replicate l.length 0 := by simp [upTo]
theorem upTo_all (l : List UInt8) : upTo l l.length = l := by simp [upTo]
theorem upTo_len (l : List UInt8) (k : Nat) (h : k ≤ l.length) : (upTo l k).length = l.length := by simp [upTo]; omega
theorem upTo_set (l : List UInt8) (k : Nat) (b : UInt8) (h : l[k]? = some b) : (upTo l k).set k b = upTo l (k + 1) := by
  have hk : k < l.length := by
    rcases Nat.lt_or_ge k l.length with h' | h'
    · exact h'
    · rw [List.getElem?_eq_none h'] at h; cases h
  have hb : l[k] = b := by rw [List.getElem?_eq_getElem hk] at h; injection h
  unfold upTo
  have ht : (l.take k).length = k := by rw [List.length_take, Nat.min_eq_left (by omega)]
  rw [take_snoc l k hk, hb, List.append_assoc, List.set_append_right _ _ (by omega), ht, Nat.sub_self]
  congr 1
  rw [show l.length - k = (l.length - (k + 1)) + 1 by omega, List.replicate_succ]
  rfl

/-- A number's eight bytes, the highest first. -/
def told8 (n : Nat) : List UInt8 := (le n 8).reverse
theorem told8_len (n : Nat) : (told8 n).length = 8 := by unfold told8; simp [le_len]
theorem told8_at (n i : Nat) (h : i < 8) : (told8 n)[i]? = some (UInt8.ofNat (n / 2 ^ (8 * (7 - i)) % 256)) := by
  have hp : ∀ j, (256 : Nat) ^ j = 2 ^ (8 * j) := fun j => by rw [Nat.pow_mul]
  unfold told8
  rw [List.getElem?_reverse (by rw [le_len]; exact h), le_len, le_at _ _ _ (by omega), hp]

/-- Bytes filled up, and the error. -/
def fillZ (n size : Nat) : Nat := (size - n % size) % size
def fillL (l : List UInt8) (size : Int) : List UInt8 := if 1 ≤ size ∧ size ≤ 4096 then l ++ List.replicate (fillZ l.length size.toNat) 0 else []
def fillE (size : Int) : Int := if 1 ≤ size ∧ size ≤ 4096 then 0 else 1

theorem val_cons (b : UInt8) (l : List UInt8) : val (b :: l) = b.toNat * 256 ^ l.length + val l := by
  induction hn : l.length generalizing l with
  | zero => rw [List.eq_nil_of_length_eq_zero hn]; simp [val]
  | succ n ih =>
    obtain ⟨c, r, rfl⟩ : ∃ c r, l = r ++ [c] := ⟨l.getLast (by intro h; simp [h] at hn), l.dropLast, (List.dropLast_concat_getLast _).symm⟩
    rw [← List.cons_append, val_snoc, val_snoc, ih r (by simpa using hn), Nat.pow_succ, Nat.add_mul, Nat.mul_assoc, Nat.add_assoc]
theorem val_le (n k : Nat) : val (le n k).reverse = n % 256 ^ k := by
  induction k with
  | zero => simp [le, val, Nat.mod_one]
  | succ k ih =>
    rw [le, List.reverse_append, List.reverse_singleton, List.singleton_append, val_cons, List.length_reverse, le_len, ih, Nat.mod_pow_succ]
    simp only [UInt8.toNat_ofNat']
    rw [Nat.mod_eq_of_lt (show n / 256 ^ k % 256 < 2 ^ 8 from Nat.mod_lt _ (by decide)), Nat.mul_comm, Nat.add_comm]
theorem load_stored (x : Nat) (low : Bool) (h : x < 4294967296) : loadV (stored x low) low = x := by
  unfold loadV
  rw [if_pos (stored_len x low)]
  have hv := val_le x 4
  rw [Nat.mod_eq_of_lt (show x < 256 ^ 4 by omega)] at hv
  cases low <;> simp [stored, hv]
theorem load_storedE (x : Nat) (low : Bool) : loadE (stored x low) = 0 := by unfold loadE; rw [if_pos (stored_len x low)]
theorem long_told (x : Nat) (h : x < 18446744073709551616) : longV (told8 x) = x := by
  unfold longV
  rw [if_pos (told8_len x)]
  have hv := val_le x 8
  rw [Nat.mod_eq_of_lt (show x < 256 ^ 8 by omega)] at hv
  exact hv
theorem long_toldE (x : Nat) : longE (told8 x) = 0 := by unfold longE; rw [if_pos (told8_len x)]
theorem rotN_add (x k j : Nat) (hx : x < 4294967296) (h : k + j ≤ 32) : rotN (rotN x k) j = rotN x (k + j) := by
  induction j with
  | zero => exact rotN_zero _ (rotN_lt x k hx (by omega))
  | succ j ih => rw [rotN_succ _ _ (rotN_lt x k hx (by omega)) (by omega), ih (by omega), ← Nat.add_assoc, rotN_succ x (k + j) hx (by omega)]
theorem rotN_all (x : Nat) : rotN x 32 = x := by
  unfold rotN
  simp only [Nat.sub_self, Nat.pow_zero, Nat.div_one]
  omega

end Go.Proofs.YtfmbilnbbpbpeaaDoor

