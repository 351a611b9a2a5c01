/- The sigmas of package digest, and right, down of its reference: functions that only reckon. -/
import Derived.Test.YtfmbilnbbpbpeaaDoorWordD
import Derived.Test.YtfmbilnbbpbpeaaDoorSha
namespace Go.Proofs.YtfmbilnbbpbpeaaDoor
open Go.RowKit

theorem xor32 (a b : Nat) (ha : a < 4294967296) (hb : b < 4294967296) : bits BinOp.xor IntKind.u32 (a : Int) (b : Int) = ((a ^^^ b : Nat) : Int) := u32_xor_nat a b ha hb
theorem and32 (a b : Nat) (ha : a < 4294967296) (hb : b < 4294967296) : bits BinOp.and IntKind.u32 (a : Int) (b : Int) = ((a &&& b : Nat) : Int) := u32_and_nat a b ha hb
theorem ss0_eq (x : Nat) (h : x < 4294967296) : bits BinOp.xor IntKind.u32 (bits BinOp.xor IntKind.u32 ((rotN x 25 : Nat) : Int) ((rotN x 14 : Nat) : Int)) ((x : Int) / 8) = ((ss0 x : Nat) : Int) := by
  rw [xor32 _ _ (rotN_lt x 25 h (by omega)) (rotN_lt x 14 h (by omega)), show (x : Int) / 8 = ((x / 8 : Nat) : Int) by omega, xor32 _ _ (xor_lt32 (rotN_lt x 25 h (by omega)) (rotN_lt x 14 h (by omega))) (by omega)]; rfl
theorem ss1_eq (x : Nat) (h : x < 4294967296) : bits BinOp.xor IntKind.u32 (bits BinOp.xor IntKind.u32 ((rotN x 15 : Nat) : Int) ((rotN x 13 : Nat) : Int)) ((x : Int) / 1024) = ((ss1 x : Nat) : Int) := by
  rw [xor32 _ _ (rotN_lt x 15 h (by omega)) (rotN_lt x 13 h (by omega)), show (x : Int) / 1024 = ((x / 1024 : Nat) : Int) by omega, xor32 _ _ (xor_lt32 (rotN_lt x 15 h (by omega)) (rotN_lt x 13 h (by omega))) (by omega)]; rfl
theorem bs0_eq (x : Nat) (h : x < 4294967296) : bits BinOp.xor IntKind.u32 (bits BinOp.xor IntKind.u32 ((rotN x 30 : Nat) : Int) ((rotN x 19 : Nat) : Int)) ((rotN x 10 : Nat) : Int) = ((bs0 x : Nat) : Int) := by
  rw [xor32 _ _ (rotN_lt x 30 h (by omega)) (rotN_lt x 19 h (by omega)), xor32 _ _ (xor_lt32 (rotN_lt x 30 h (by omega)) (rotN_lt x 19 h (by omega))) (rotN_lt x 10 h (by omega))]; rfl
theorem bs1_eq (x : Nat) (h : x < 4294967296) : bits BinOp.xor IntKind.u32 (bits BinOp.xor IntKind.u32 ((rotN x 26 : Nat) : Int) ((rotN x 21 : Nat) : Int)) ((rotN x 7 : Nat) : Int) = ((bs1 x : Nat) : Int) := by
  rw [xor32 _ _ (rotN_lt x 26 h (by omega)) (rotN_lt x 21 h (by omega)), xor32 _ _ (xor_lt32 (rotN_lt x 26 h (by omega)) (rotN_lt x 21 h (by omega))) (rotN_lt x 7 h (by omega))]; rfl
theorem ch_eq (M : Int) (e f g : Nat) (hM : M = 4294967295) (he : e < 4294967296) (hf : f < 4294967296) (hg : g < 4294967296) :
    bits BinOp.xor IntKind.u32 (bits BinOp.and IntKind.u32 (e : Int) (f : Int)) (bits BinOp.and IntKind.u32 (bits BinOp.xor IntKind.u32 M (e : Int)) (g : Int)) = (((e &&& f) ^^^ ((4294967295 - e) &&& g) : Nat) : Int) := by
  have h0 : M = ((4294967295 : Nat) : Int) := hM
  rw [h0, and32 _ _ he hf, xor32 _ _ (by decide) he, not32 e he, and32 _ _ (by omega) hg, xor32 _ _ (and_lt32 he) (and_lt32 (by omega))]
theorem maj_eq (a b c : Nat) (ha : a < 4294967296) (hb : b < 4294967296) (hc : c < 4294967296) :
    bits BinOp.xor IntKind.u32 (bits BinOp.xor IntKind.u32 (bits BinOp.and IntKind.u32 (a : Int) (b : Int)) (bits BinOp.and IntKind.u32 (a : Int) (c : Int))) (bits BinOp.and IntKind.u32 (b : Int) (c : Int)) = (((a &&& b) ^^^ (a &&& c) ^^^ (b &&& c) : Nat) : Int) := by
  rw [and32 _ _ ha hb, and32 _ _ ha hc, and32 _ _ hb hc, xor32 _ _ (and_lt32 ha) (and_lt32 ha), xor32 _ _ (xor_lt32 (and_lt32 ha) (and_lt32 ha)) (and_lt32 hb)]
/-- Turn by a literal. -/
theorem turn_lit (x : Nat) (n : Int) (k : Nat) (w : World) (h1 : x < 4294967296) (hk : turnK n = k) :
    Calls Tryd.prog 48 #[.int .u32 x, .int .i64 n] w fun e w' => e = .returned (.int .u32 (rotN x k : Nat)) ∧ w = w' := by
  subst hk; exact turn_any x n w h1

theorem ss0_any (x : Nat) (w : World) (h : x < 4294967296) :
    Calls Tryd.prog 47 #[.int .u32 x] w fun e w' => e = .returned (.int .u32 (ss0 x : Nat)) ∧ w = w' := by
  have H := Lib.hid (ss0_eq x h)
  go_enter Tryd.func47, Tryd.ntmps47
  go_wp2_with fail
  refine (turn_lit x (-7) 25 _ h (by decide)).mono ?_
  rintro e w' ⟨rfl, rfl⟩
  go_wp2_with fail
  refine (turn_lit x (-18) 14 _ h (by decide)).mono ?_
  rintro e w' ⟨rfl, rfl⟩
  go_wp2
  go_ret
  exact ⟨ret_int H.out, rfl⟩

theorem ss1_any (x : Nat) (w : World) (h : x < 4294967296) :
    Calls Tryd.prog 46 #[.int .u32 x] w fun e w' => e = .returned (.int .u32 (ss1 x : Nat)) ∧ w = w' := by
  have H := Lib.hid (ss1_eq x h)
  go_enter Tryd.func46, Tryd.ntmps46
  go_wp2_with fail
  refine (turn_lit x (-17) 15 _ h (by decide)).mono ?_
  rintro e w' ⟨rfl, rfl⟩
  go_wp2_with fail
  refine (turn_lit x (-19) 13 _ h (by decide)).mono ?_
  rintro e w' ⟨rfl, rfl⟩
  go_wp2
  go_ret
  exact ⟨ret_int H.out, rfl⟩

theorem bs0_any (x : Nat) (w : World) (h : x < 4294967296) :
    Calls Tryd.prog 42 #[.int .u32 x] w fun e w' => e = .returned (.int .u32 (bs0 x : Nat)) ∧ w = w' := by
  have H := Lib.hid (bs0_eq x h)
  go_enter Tryd.func42, Tryd.ntmps42
  go_wp2_with fail
  refine (turn_lit x (-2) 30 _ h (by decide)).mono ?_
  rintro e w' ⟨rfl, rfl⟩
  go_wp2_with fail
  refine (turn_lit x (-13) 19 _ h (by decide)).mono ?_
  rintro e w' ⟨rfl, rfl⟩
  go_wp2_with fail
  refine (turn_lit x (-22) 10 _ h (by decide)).mono ?_
  rintro e w' ⟨rfl, rfl⟩
  go_wp2
  go_ret
  exact ⟨ret_int H.out, rfl⟩

theorem bs1_any (x : Nat) (w : World) (h : x < 4294967296) :
    Calls Tryd.prog 41 #[.int .u32 x] w fun e w' => e = .returned (.int .u32 (bs1 x : Nat)) ∧ w = w' := by
  have H := Lib.hid (bs1_eq x h)
  go_enter Tryd.func41, Tryd.ntmps41
  go_wp2_with fail
  refine (turn_lit x (-6) 26 _ h (by decide)).mono ?_
  rintro e w' ⟨rfl, rfl⟩
  go_wp2_with fail
  refine (turn_lit x (-11) 21 _ h (by decide)).mono ?_
  rintro e w' ⟨rfl, rfl⟩
  go_wp2_with fail
  refine (turn_lit x (-25) 7 _ h (by decide)).mono ?_
  rintro e w' ⟨rfl, rfl⟩
  go_wp2
  go_ret
  exact ⟨ret_int H.out, rfl⟩

/-- The reference's turn to the right. -/
theorem right_any (x n k : Nat) (w : World) (h : x < 4294967296) (hn : n ≤ 32) (hk : turnK (32 - (n : Int)) = k) :
    Calls Tryd.prog 34 #[.int .u32 x, .int .i64 n] w fun e w' => e = .returned (.int .u32 (rotN x k : Nat)) ∧ w = w' := by
  have HK := Lib.hid hk
  clear hk
  go_enter Tryd.func34, Tryd.ntmps34
  go_wp2_with fail
  refine (rturn_any x (32 - (n : Int)) _ h).mono ?_
  rintro e w' ⟨rfl, rfl⟩
  rw [HK.out]
  go_wp2
  go_ret
  exact ⟨rfl, rfl⟩

theorem down_any (x n : Nat) (w : World) (h : x < 4294967296) (hn : n ≤ 32) :
    Calls Tryd.prog 38 #[.int .u32 x, .int .i64 n] w fun e w' => e = .returned (.int .u32 (x / 2 ^ n : Nat)) ∧ w = w' := by
  go_enter Tryd.func38, Tryd.ntmps38
  go_wp2
  go_loop [0, 5] (fun t i => ∃ k : Nat, k ≤ n ∧ i = .int .i64 k ∧ t = .int .u32 (x / 2 ^ k : Nat)) (fun _ i => n - (intOf i).toNat)
  case atStart => exact ⟨0, Nat.zero_le _, rfl, by simp⟩
  case round =>
    obtain ⟨k, hk, rfl, rfl⟩ := hrel
    have HS : Hid (x / 2 ^ (k + 1) = x / 2 ^ k / 2) := by unfold Hid; rw [Nat.pow_succ, Nat.div_div_eq_div_mul]
    have hy : x / 2 ^ k < 4294967296 := Nat.lt_of_le_of_lt (Nat.div_le_self _ _) h
    obtain ⟨y, hy0⟩ : ∃ y, y = x / 2 ^ k := ⟨_, rfl⟩
    rw [← hy0] at hy HS ⊢
    have HY := Lib.hid hy0
    clear hy0
    by_cases hlt : k < n
    · go_wp2
      go_round
      case rel => exact ⟨k + 1, by omega, by go_num, by rw [HS.out]; go_num⟩
      case measure => simp [intOf]; omega
    · have HK : Hid (k = n) := (by omega : k = n)
      go_wp2
      go_ret
      exact ⟨ret_int (by rw [HY.out, HK.out]; simp), rfl⟩

end Go.Proofs.YtfmbilnbbpbpeaaDoor

