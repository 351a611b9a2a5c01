/- The functions of package word and of its reference that make no memory, each by a contract. -/
import Derived.Test.YtfmbilnbbpbpeaaDoorRows
import Derived.Test.YtfmbilnbbpbpeaaDoorBase
import Derived.Test.YtfmbilnbbpbpeaaDoorPure
namespace Go.Proofs.YtfmbilnbbpbpeaaDoor
open Go.RowKit

/-- Which of two is chosen. -/
def pick (bit a b : Int) : Int := if bit = 0 then a else b

theorem choose_eq (bit a b : Int) (h0 : 0 ≤ bit) (h1 : bit < 4294967296) (h2 : 0 ≤ a) (h3 : a < 4294967296) (h4 : 0 ≤ b) (h5 : b < 4294967296) :
    bits BinOp.xor IntKind.u32 a (bits BinOp.and IntKind.u32 (-(bits BinOp.or IntKind.u32 bit (-bit % 4294967296) / 2147483648) % 4294967296) (bits BinOp.xor IntKind.u32 a b)) = pick bit a b := by
  unfold pick
  obtain ⟨A, rfl⟩ := Int.eq_ofNat_of_zero_le h2
  obtain ⟨B, rfl⟩ := Int.eq_ofNat_of_zero_le h4
  have hx : A ^^^ B < 2 ^ 32 := Nat.xor_lt_two_pow (by omega) (by omega)
  rw [u32_xor_nat A B (by omega) (by omega)]
  by_cases hb : bit = 0
  · subst hb
    rw [if_pos rfl]
    have e : bits BinOp.or IntKind.u32 0 (-0 % 4294967296) = 0 := by decide
    rw [e]
    have e2 : bits BinOp.and IntKind.u32 (-(0 / 2147483648) % 4294967296) ((A ^^^ B : Nat) : Int) = 0 := by
      have := u32_and_nat 0 (A ^^^ B) (by decide) (by omega)
      simpa using this
    rw [e2]
    have := u32_xor_nat A 0 (by omega) (by decide)
    simpa using this
  · rw [if_neg hb]
    obtain ⟨N, rfl⟩ := Int.eq_ofNat_of_zero_le h0
    have e1 : -(N : Int) % 4294967296 = ((4294967296 - N : Nat) : Int) := by omega
    rw [e1, u32_or_nat N _ (by omega) (by omega)]
    have hlt : N ||| (4294967296 - N) < 2 ^ 32 := Nat.or_lt_two_pow (by omega) (by omega)
    have hl := Nat.left_le_or (n := N) (m := 4294967296 - N)
    have hr := Nat.right_le_or (n := N) (m := 4294967296 - N)
    have e2 : -(((N ||| (4294967296 - N) : Nat) : Int) / 2147483648) % 4294967296 = ((4294967295 : Nat) : Int) := by omega
    rw [e2, u32_and_nat _ _ (by decide) (by omega)]
    have e3 : 4294967295 &&& (A ^^^ B) = A ^^^ B := by
      rw [Nat.and_comm]; exact Nat.and_two_pow_sub_one_of_lt_two_pow (n := 32) hx
    rw [e3, u32_xor_nat _ _ (by omega) (by omega), ← Nat.xor_assoc, Nat.xor_self, Nat.zero_xor]

/-- By how many places a word is turned. -/
def turnK (n : Int) : Nat := (n % 32).toNat
theorem turnK_lt (n : Int) : turnK n < 32 := by unfold turnK; omega
theorem turnK_u64 (n : Int) : (IntKind.u64.wrap n).tmod 32 = (turnK n : Int) := by
  unfold turnK
  rw [Int.tmod_eq_emod_of_nonneg (wrap_u64_nonneg n)]
  simp [IntKind.wrap, IntKind.bits, IntKind.signed]
  omega

theorem turn_eq (x k : Nat) (h1 : x < 4294967296) (hk : k < 32) : bits BinOp.or IntKind.u32 ((x : Int) * 2 ^ k % 4294967296) ((x : Int) / 2 ^ (32 - k)) = ((rotN x k : Nat) : Int) := by
  have e1 : (x : Int) * 2 ^ k % 4294967296 = ((x * 2 ^ k % 4294967296 : Nat) : Int) := by
    rw [Int.natCast_emod, Int.natCast_mul, Int.natCast_pow]; rfl
  have e2 : (x : Int) / 2 ^ (32 - k) = ((x / 2 ^ (32 - k) : Nat) : Int) := by
    rw [Int.natCast_ediv, Int.natCast_pow]; rfl
  rw [e1, e2, u32_or_nat _ _ (Nat.mod_lt _ (by decide)) (Nat.lt_of_le_of_lt (Nat.div_le_self _ _) h1), rotN_or x k h1 (by omega)]

theorem turn_any (x : Nat) (n : Int) (w : World) (h1 : x < 4294967296) :
    Calls Tryd.prog 48 #[.int .u32 x, .int .i64 n] w fun e w' => e = .returned (.int .u32 (rotN x (turnK n) : Nat)) ∧ w = w' := by
  have hk := turnK_u64 n
  have hlt := turnK_lt n
  have H := Lib.hid (turn_eq x (turnK n) h1 hlt)
  go_enter Tryd.func48, Tryd.ntmps48
  go_wp2
  go_ret
  exact ⟨ret_int H.out, rfl⟩

theorem turnK_neg (n : Int) (h : n.tmod 32 < 0) : n.tmod 32 + 32 = (turnK n : Int) := by
  unfold turnK
  have h1 := Int.tmod_add_mul_tdiv n 32
  have h2 := Int.emod_add_mul_ediv n 32
  have h3 : -32 < n.tmod 32 := by rw [Int.tmod_eq_emod]; split <;> simp <;> omega
  omega
theorem turnK_pos (n : Int) (h : 0 ≤ n.tmod 32) : n.tmod 32 = (turnK n : Int) := by
  unfold turnK
  have h1 := Int.tmod_add_mul_tdiv n 32
  have h2 := Int.emod_add_mul_ediv n 32
  have h3 : n.tmod 32 < 32 := by rw [Int.tmod_eq_emod]; split <;> simp <;> omega
  omega
theorem dbl_eq (x : Nat) (h : x < 4294967296) : (x : Int) * 2 % 4294967296 + (x : Int) / 2147483648 = ((dbl x : Nat) : Int) := by unfold dbl; omega

theorem rturn_any (x : Nat) (n : Int) (w : World) (h1 : x < 4294967296) :
    Calls Tryd.prog 39 #[.int .u32 x, .int .i64 n] w fun e w' => e = .returned (.int .u32 (rotN x (turnK n) : Nat)) ∧ w = w' := by
  have hlt := turnK_lt n
  have hd : decide ((turnK n : Int) < 0) = false := by simp
  rcases (show n.tmod 32 < 0 ∨ 0 ≤ n.tmod 32 by omega) with hneg | hneg
  all_goals first | have hk := turnK_neg n hneg | have hk := turnK_pos n hneg
  all_goals
    go_enter Tryd.func39, Tryd.ntmps39
    go_wp2
    go_loop [0, 6] (fun t i => ∃ k : Nat, k ≤ turnK n ∧ i = .int .i64 k ∧ t = .int .u32 (rotN x k : Nat)) (fun _ i => turnK n - (intOf i).toNat)
    case atStart => exact ⟨0, Nat.zero_le _, rfl, by rw [rotN_zero x h1]⟩
    case round =>
      obtain ⟨k, hkk, rfl, rfl⟩ := hrel
      by_cases hkl : k < turnK n
      · have HS := Lib.hid (rotN_succ x k h1 (by omega))
        have hb := rotN_lt x k h1 (by omega)
        have HD := Lib.hid (dbl_eq (rotN x k) hb)
        go_wp2
        go_round
        case rel => exact ⟨k + 1, by omega, by go_num, by rw [HS.out, ← HD.out]⟩
        case measure => simp [intOf]; omega
      · obtain rfl : k = turnK n := by omega
        go_wp2
        go_ret
        exact ⟨rfl, rfl⟩

theorem shift_any (i : Nat) (low : Bool) (w : World) (hi : i ≤ 3) :
    Calls Tryd.prog 31 #[.int .i64 i, .bool low] w fun e w' => e = .returned (.int .i64 (shf i low : Nat)) ∧ w' = w := by
  have H : Hid (((shf i low : Nat) : Int) = if low then 8 * (i : Int) else 8 * (3 - (i : Int))) := by
    unfold shf Hid; cases low <;> simp <;> omega
  cases low
  all_goals
    go_enter Tryd.func31, Tryd.ntmps31
    go_wp2
    go_ret
    exact ⟨ret_int (by rw [H.out]; simp), rfl⟩

end Go.Proofs.YtfmbilnbbpbpeaaDoor

