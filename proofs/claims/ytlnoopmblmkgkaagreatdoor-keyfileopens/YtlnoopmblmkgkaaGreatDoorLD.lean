/- SHA-256 as plain arithmetic over natural numbers and lists of bytes. No program is named here. -/
import Derived.Test.YtlnoopmblmkgkaaGreatDoorLA
import Derived.Test.YtlnoopmblmkgkaaGreatDoorLW
import Derived.StillTailTactics
import Derived.IntWalk
import Derived.Test.YtlnoopmblmkgkaaGreatDoorRows
import Derived.Lib.LaidTab
import Derived.LaidMore
import Derived.ProofKit
import Derived.Stop.LaidErr
namespace Go.Proofs.YtlnoopmblmkgkaaGreatDoor
set_option maxRecDepth 100000
open Go.RowKit

def ss0 (x : Nat) : Nat := rotN x 25 ^^^ rotN x 14 ^^^ x / 8
def ss1 (x : Nat) : Nat := rotN x 15 ^^^ rotN x 13 ^^^ x / 1024
def bs0 (x : Nat) : Nat := rotN x 30 ^^^ rotN x 19 ^^^ rotN x 10
def bs1 (x : Nat) : Nat := rotN x 26 ^^^ rotN x 21 ^^^ rotN x 7
theorem xor_lt32 {a b : Nat} (ha : a < 4294967296) (hb : b < 4294967296) : a ^^^ b < 4294967296 := Nat.xor_lt_two_pow (n := 32) ha hb
theorem and_lt32 {a b : Nat} (ha : a < 4294967296) : a &&& b < 4294967296 := Nat.lt_of_le_of_lt Nat.and_le_left ha
theorem ss0_lt (x : Nat) (h : x < 4294967296) : ss0 x < 4294967296 := xor_lt32 (xor_lt32 (rotN_lt x 25 h (by omega)) (rotN_lt x 14 h (by omega))) (by omega)
theorem ss1_lt (x : Nat) (h : x < 4294967296) : ss1 x < 4294967296 := xor_lt32 (xor_lt32 (rotN_lt x 15 h (by omega)) (rotN_lt x 13 h (by omega))) (by omega)
theorem bs0_lt (x : Nat) (h : x < 4294967296) : bs0 x < 4294967296 := xor_lt32 (xor_lt32 (rotN_lt x 30 h (by omega)) (rotN_lt x 19 h (by omega))) (rotN_lt x 10 h (by omega))
theorem bs1_lt (x : Nat) (h : x < 4294967296) : bs1 x < 4294967296 := xor_lt32 (xor_lt32 (rotN_lt x 26 h (by omega)) (rotN_lt x 21 h (by omega))) (rotN_lt x 7 h (by omega))

/-- The word t of a block. -/
def wd (b : List UInt8) (t : Nat) : Nat := loadV ((b.drop (4 * t)).take 4) false
theorem wd_lt (b : List UInt8) (t : Nat) : wd b t < 4294967296 := loadV_lt _ _
/-- The next word of a schedule. -/
def nxt (w : List Nat) (t : Nat) : Nat := (ss1 (w.getD (t - 2) 0) + w.getD (t - 7) 0 + ss0 (w.getD (t - 15) 0) + w.getD (t - 16) 0) % 4294967296
/-- The first t words of the schedule of a block. -/
def ws (b : List UInt8) : Nat → List Nat
  | 0 => []
  | t + 1 => ws b t ++ [if t < 16 then wd b t else nxt (ws b t) t]
theorem ws_len (b : List UInt8) (t : Nat) : (ws b t).length = t := by
  induction t with
  | zero => rfl
  | succ t ih => simp [ws, ih]
theorem ws_low (b : List UInt8) (t : Nat) (h : t < 16) : ws b (t + 1) = ws b t ++ [wd b t] := by rw [ws, if_pos h]
theorem ws_high (b : List UInt8) (t : Nat) (h : 16 ≤ t) : ws b (t + 1) = ws b t ++ [nxt (ws b t) t] := by rw [ws, if_neg (by omega)]
theorem ws_lt (b : List UInt8) (t : Nat) : ∀ x ∈ ws b t, x < 4294967296 := by
  induction t with
  | zero => intro x hx; simp [ws] at hx
  | succ t ih =>
    intro x hx
    rw [ws, List.mem_append] at hx
    rcases hx with hx | hx
    · exact ih x hx
    · simp only [List.mem_singleton] at hx
      subst hx
      split
      · exact wd_lt b t
      · exact Nat.mod_lt _ (by decide)
theorem getD_lt32 {l : List Nat} (h : ∀ x ∈ l, x < 4294967296) (i : Nat) : l.getD i 0 < 4294967296 := by
  rw [List.getD_eq_getElem?_getD]
  rcases Nat.lt_or_ge i l.length with hi | hi
  · rw [List.getElem?_eq_getElem hi]; exact h _ (List.getElem_mem hi)
  · rw [List.getElem?_eq_none hi]; decide

/-- Eight words. -/
structure W8 where
  (a b c d e f g h : Nat)
def W8.ok (s : W8) : Prop := s.a < 4294967296 ∧ s.b < 4294967296 ∧ s.c < 4294967296 ∧ s.d < 4294967296 ∧ s.e < 4294967296 ∧ s.f < 4294967296 ∧ s.g < 4294967296 ∧ s.h < 4294967296
def W8.list (s : W8) : List Nat := [s.a, s.b, s.c, s.d, s.e, s.f, s.g, s.h]
def tU (s : W8) (k w : Nat) : Nat := (s.h + bs1 s.e + ((s.e &&& s.f) ^^^ ((4294967295 - s.e) &&& s.g)) + k + w) % 4294967296
def tV (s : W8) : Nat := (bs0 s.a + ((s.a &&& s.b) ^^^ (s.a &&& s.c) ^^^ (s.b &&& s.c))) % 4294967296
/-- One round. -/
def rnd (s : W8) (k w : Nat) : W8 := ⟨(tU s k w + tV s) % 4294967296, s.a, s.b, s.c, (s.d + tU s k w) % 4294967296, s.e, s.f, s.g⟩
theorem tU_lt (s : W8) (k w : Nat) : tU s k w < 4294967296 := Nat.mod_lt _ (by decide)
theorem tV_lt (s : W8) : tV s < 4294967296 := Nat.mod_lt _ (by decide)
theorem rnd_ok (s : W8) (k w : Nat) (h : s.ok) : (rnd s k w).ok := by
  obtain ⟨h1, h2, h3, h4, h5, h6, h7, h8⟩ := h
  exact ⟨Nat.mod_lt _ (by decide), h1, h2, h3, Nat.mod_lt _ (by decide), h5, h6, h7⟩

theorem not32 (e : Nat) (h : e < 4294967296) : 4294967295 ^^^ e = 4294967295 - e := by
  apply Nat.eq_of_testBit_eq
  intro i
  rw [Nat.testBit_xor, show (4294967295 : Nat) = 2 ^ 32 - 1 by decide, Nat.testBit_two_pow_sub_one, show 2 ^ 32 - 1 - e = 2 ^ 32 - (e + 1) by omega, Nat.testBit_two_pow_sub_succ (by omega)]
  by_cases hi : i < 32
  · simp [hi]
  · have : e.testBit i = false := Nat.testBit_lt_two_pow (Nat.lt_of_lt_of_le h (Nat.pow_le_pow_right (n := 2) (by decide) (show 32 ≤ i by omega)))
    simp [hi, this]

/-- The rounds' numbers, and the words at the start. -/
def shaK : List Nat := [1116352408, 1899447441, 3049323471, 3921009573, 961987163, 1508970993, 2453635748, 2870763221,
  3624381080, 310598401, 607225278, 1426881987, 1925078388, 2162078206, 2614888103, 3248222580,
  3835390401, 4022224774, 264347078, 604807628, 770255983, 1249150122, 1555081692, 1996064986,
  2554220882, 2821834349, 2952996808, 3210313671, 3336571891, 3584528711, 113926993, 338241895,
  666307205, 773529912, 1294757372, 1396182291, 1695183700, 1986661051, 2177026350, 2456956037,
  2730485921, 2820302411, 3259730800, 3345764771, 3516065817, 3600352804, 4094571909, 275423344,
  430227734, 506948616, 659060556, 883997877, 958139571, 1322822218, 1537002063, 1747873779,
  1955562222, 2024104815, 2227730452, 2361852424, 2428436474, 2756734187, 3204031479, 3329325298]
def shaS : W8 := ⟨1779033703, 3144134277, 1013904242, 2773480762, 1359893119, 2600822924, 528734635, 1541459225⟩
theorem shaS_ok : shaS.ok := by unfold W8.ok shaS; decide
theorem shaK_len : shaK.length = 64 := by decide
theorem shaK_lt : ∀ x ∈ shaK, x < 4294967296 := by decide

/-- The words behind t rounds over a schedule. -/
def rnds (w : List Nat) (s : W8) : Nat → W8
  | 0 => s
  | t + 1 => rnd (rnds w s t) (shaK.getD t 0) (w.getD t 0)
theorem rnds_ok (w : List Nat) (s : W8) (h : s.ok) (t : Nat) : (rnds w s t).ok := by
  induction t with
  | zero => exact h
  | succ t ih => exact rnd_ok _ _ _ ih
def W8.plus (s r : W8) : W8 := ⟨(s.a + r.a) % 4294967296, (s.b + r.b) % 4294967296, (s.c + r.c) % 4294967296, (s.d + r.d) % 4294967296,
  (s.e + r.e) % 4294967296, (s.f + r.f) % 4294967296, (s.g + r.g) % 4294967296, (s.h + r.h) % 4294967296⟩
theorem plus_ok (s r : W8) : (s.plus r).ok := ⟨Nat.mod_lt _ (by decide), Nat.mod_lt _ (by decide), Nat.mod_lt _ (by decide), Nat.mod_lt _ (by decide), Nat.mod_lt _ (by decide), Nat.mod_lt _ (by decide), Nat.mod_lt _ (by decide), Nat.mod_lt _ (by decide)⟩
/-- The words behind a block. -/
def blk (s : W8) (b : List UInt8) : W8 := s.plus (rnds (ws b 64) s 64)
theorem blk_ok (s : W8) (b : List UInt8) : (blk s b).ok := plus_ok _ _
/-- The words behind the first n blocks of a text. -/
def hs (l : List UInt8) : Nat → W8
  | 0 => shaS
  | n + 1 => blk (hs l n) ((l.drop (64 * n)).take 64)
theorem hs_ok (l : List UInt8) (n : Nat) : (hs l n).ok := by
  cases n with
  | zero => exact shaS_ok
  | succ n => exact blk_ok _ _
theorem hs_append (l r : List UInt8) (n : Nat) (h : 64 * n ≤ l.length) : hs (l ++ r) n = hs l n := by
  induction n with
  | zero => rfl
  | succ n ih =>
    rw [hs, hs, ih (by omega), List.drop_append_of_le_length (by omega), List.take_append_of_le_length (by rw [List.length_drop]; omega)]

/-- How many noughts a text of n bytes is padded with. -/
def padZ (n : Nat) : Nat := (64 - (n % 64 + 9) % 64) % 64
theorem padZ_lt (n : Nat) : padZ n < 64 := Nat.mod_lt _ (by decide)
theorem padZ_iff (n k : Nat) (h : k ≤ padZ n) : (n + 1 + k) % 64 = 56 ↔ k = padZ n := by unfold padZ at *; omega
def pad (n : Nat) : List UInt8 := 128 :: (List.replicate (padZ n) 0 ++ told8 (8 * n))
theorem pad_len (n : Nat) : (pad n).length = padZ n + 9 := by simp [pad, told8_len]
theorem pad_whole (n : Nat) : (n + (pad n).length) % 64 = 0 := by rw [pad_len]; unfold padZ; omega
def padded (l : List UInt8) : List UInt8 := l ++ pad l.length
/-- The bytes of words, one behind the other. -/
def out (l : List Nat) : List UInt8 := l.flatMap fun x => stored x false
/-- The sum. -/
def sha (l : List UInt8) : List UInt8 := out (hs (padded l) ((padded l).length / 64)).list
theorem out_len (l : List Nat) : (out l).length = 4 * l.length := by
  unfold out
  induction l with
  | nil => rfl
  | cons x l ih => rw [List.flatMap_cons, List.length_append, ih, stored_len, List.length_cons]; omega
/-- The bytes of a sum while they are written, k words of them so far. -/
theorem out_part (l : List Nat) (k : Nat) (h : k < l.length) : ((out l).drop (4 * k)).take 4 = stored (l.getD k 0) false := by
  induction l generalizing k with
  | nil => simp at h
  | cons x l ih =>
    have e : out (x :: l) = stored x false ++ out l := by simp [out]
    rw [e]
    cases k with
    | zero => rw [Nat.mul_zero, List.drop_zero, List.take_append_of_le_length (by rw [stored_len]; omega), List.take_of_length_le (by rw [stored_len]; omega)]; rfl
    | succ k =>
      rw [List.drop_append, List.drop_of_length_le (by rw [stored_len]; omega), stored_len, List.nil_append, show 4 * (k + 1) - 4 = 4 * k by omega, ih k (by simpa using h)]
      rfl
theorem sha_len (l : List UInt8) : (sha l).length = 32 := by unfold sha; rw [out_len]; rfl

theorem sha_abc : (sha [97, 98, 99])[0]? = some 186 ∧ (sha [97, 98, 99])[1]? = some 120 ∧ (sha [97, 98, 99])[31]? = some 173 := by decide +kernel

end Go.Proofs.YtlnoopmblmkgkaaGreatDoor

namespace Go.Proofs.YtlnoopmblmkgkaaGreatDoor
set_option maxRecDepth 100000
open Go.RowKit

theorem ss0_eq (x : Nat) (h : x < 4294967296) : bits BinOp.xor IntKind.u32 (bits BinOp.xor IntKind.u32 ((rotN x 25 : Nat) : Int) ((rotN x 14 : Nat) : Int)) ((x : Int) / 8) = ((ss0 x : Nat) : Int) := by
  rw [xor32 _ _ (rotN_lt x 25 h (by omega)) (rotN_lt x 14 h (by omega)), show (x : Int) / 8 = ((x / 8 : Nat) : Int) by omega, xor32 _ _ (xor_lt32 (rotN_lt x 25 h (by omega)) (rotN_lt x 14 h (by omega))) (by omega)]; rfl
theorem ss1_eq (x : Nat) (h : x < 4294967296) : bits BinOp.xor IntKind.u32 (bits BinOp.xor IntKind.u32 ((rotN x 15 : Nat) : Int) ((rotN x 13 : Nat) : Int)) ((x : Int) / 1024) = ((ss1 x : Nat) : Int) := by
  rw [xor32 _ _ (rotN_lt x 15 h (by omega)) (rotN_lt x 13 h (by omega)), show (x : Int) / 1024 = ((x / 1024 : Nat) : Int) by omega, xor32 _ _ (xor_lt32 (rotN_lt x 15 h (by omega)) (rotN_lt x 13 h (by omega))) (by omega)]; rfl
theorem bs0_eq (x : Nat) (h : x < 4294967296) : bits BinOp.xor IntKind.u32 (bits BinOp.xor IntKind.u32 ((rotN x 30 : Nat) : Int) ((rotN x 19 : Nat) : Int)) ((rotN x 10 : Nat) : Int) = ((bs0 x : Nat) : Int) := by
  rw [xor32 _ _ (rotN_lt x 30 h (by omega)) (rotN_lt x 19 h (by omega)), xor32 _ _ (xor_lt32 (rotN_lt x 30 h (by omega)) (rotN_lt x 19 h (by omega))) (rotN_lt x 10 h (by omega))]; rfl
theorem bs1_eq (x : Nat) (h : x < 4294967296) : bits BinOp.xor IntKind.u32 (bits BinOp.xor IntKind.u32 ((rotN x 26 : Nat) : Int) ((rotN x 21 : Nat) : Int)) ((rotN x 7 : Nat) : Int) = ((bs1 x : Nat) : Int) := by
  rw [xor32 _ _ (rotN_lt x 26 h (by omega)) (rotN_lt x 21 h (by omega)), xor32 _ _ (xor_lt32 (rotN_lt x 26 h (by omega)) (rotN_lt x 21 h (by omega))) (rotN_lt x 7 h (by omega))]; rfl
theorem ch_eq (M : Int) (e f g : Nat) (hM : M = 4294967295) (he : e < 4294967296) (hf : f < 4294967296) (hg : g < 4294967296) :
    bits BinOp.xor IntKind.u32 (bits BinOp.and IntKind.u32 (e : Int) (f : Int)) (bits BinOp.and IntKind.u32 (bits BinOp.xor IntKind.u32 M (e : Int)) (g : Int)) = (((e &&& f) ^^^ ((4294967295 - e) &&& g) : Nat) : Int) := by
  have h0 : M = ((4294967295 : Nat) : Int) := hM
  rw [h0, and32 _ _ he hf, xor32 _ _ (by decide) he, not32 e he, and32 _ _ (by omega) hg, xor32 _ _ (and_lt32 he) (and_lt32 (by omega))]
theorem maj_eq (a b c : Nat) (ha : a < 4294967296) (hb : b < 4294967296) (hc : c < 4294967296) :
    bits BinOp.xor IntKind.u32 (bits BinOp.xor IntKind.u32 (bits BinOp.and IntKind.u32 (a : Int) (b : Int)) (bits BinOp.and IntKind.u32 (a : Int) (c : Int))) (bits BinOp.and IntKind.u32 (b : Int) (c : Int)) = (((a &&& b) ^^^ (a &&& c) ^^^ (b &&& c) : Nat) : Int) := by
  rw [and32 _ _ ha hb, and32 _ _ ha hc, and32 _ _ hb hc, xor32 _ _ (and_lt32 ha) (and_lt32 ha), xor32 _ _ (xor_lt32 (and_lt32 ha) (and_lt32 ha)) (and_lt32 hb)]
/-- Turn by a literal. -/
theorem turn_lit (x : Nat) (n : Int) (k : Nat) (w : World) (h1 : x < 4294967296) (hk : turnK n = k) :
    Calls Tryz.prog 182 #[.int .u32 x, .int .i64 n] w fun e w' => e = .returned (.int .u32 (rotN x k : Nat)) ∧ w = w' := by
  subst hk; exact turn_any x n w h1

theorem ss0_any (x : Nat) (w : World) (h : x < 4294967296) :
    Calls Tryz.prog 185 #[.int .u32 x] w fun e w' => e = .returned (.int .u32 (ss0 x : Nat)) ∧ w = w' := by
  have H := Lib.hid (ss0_eq x h)
  go_enter Tryz.func185, Tryz.ntmps185
  go_wp2_with fail
  refine (turn_lit x (-7) 25 _ h (by decide)).mono ?_
  rintro e w' ⟨rfl, rfl⟩
  go_wp2_with fail
  refine (turn_lit x (-18) 14 _ h (by decide)).mono ?_
  rintro e w' ⟨rfl, rfl⟩
  go_wp2
  go_ret
  exact ⟨ret_int H.out, rfl⟩

theorem ss1_any (x : Nat) (w : World) (h : x < 4294967296) :
    Calls Tryz.prog 184 #[.int .u32 x] w fun e w' => e = .returned (.int .u32 (ss1 x : Nat)) ∧ w = w' := by
  have H := Lib.hid (ss1_eq x h)
  go_enter Tryz.func184, Tryz.ntmps184
  go_wp2_with fail
  refine (turn_lit x (-17) 15 _ h (by decide)).mono ?_
  rintro e w' ⟨rfl, rfl⟩
  go_wp2_with fail
  refine (turn_lit x (-19) 13 _ h (by decide)).mono ?_
  rintro e w' ⟨rfl, rfl⟩
  go_wp2
  go_ret
  exact ⟨ret_int H.out, rfl⟩

theorem bs0_any (x : Nat) (w : World) (h : x < 4294967296) :
    Calls Tryz.prog 181 #[.int .u32 x] w fun e w' => e = .returned (.int .u32 (bs0 x : Nat)) ∧ w = w' := by
  have H := Lib.hid (bs0_eq x h)
  go_enter Tryz.func181, Tryz.ntmps181
  go_wp2_with fail
  refine (turn_lit x (-2) 30 _ h (by decide)).mono ?_
  rintro e w' ⟨rfl, rfl⟩
  go_wp2_with fail
  refine (turn_lit x (-13) 19 _ h (by decide)).mono ?_
  rintro e w' ⟨rfl, rfl⟩
  go_wp2_with fail
  refine (turn_lit x (-22) 10 _ h (by decide)).mono ?_
  rintro e w' ⟨rfl, rfl⟩
  go_wp2
  go_ret
  exact ⟨ret_int H.out, rfl⟩

theorem bs1_any (x : Nat) (w : World) (h : x < 4294967296) :
    Calls Tryz.prog 180 #[.int .u32 x] w fun e w' => e = .returned (.int .u32 (bs1 x : Nat)) ∧ w = w' := by
  have H := Lib.hid (bs1_eq x h)
  go_enter Tryz.func180, Tryz.ntmps180
  go_wp2_with fail
  refine (turn_lit x (-6) 26 _ h (by decide)).mono ?_
  rintro e w' ⟨rfl, rfl⟩
  go_wp2_with fail
  refine (turn_lit x (-11) 21 _ h (by decide)).mono ?_
  rintro e w' ⟨rfl, rfl⟩
  go_wp2_with fail
  refine (turn_lit x (-25) 7 _ h (by decide)).mono ?_
  rintro e w' ⟨rfl, rfl⟩
  go_wp2
  go_ret
  exact ⟨ret_int H.out, rfl⟩

/-- The reference's turn to the right. -/
theorem right_any (x n k : Nat) (w : World) (h : x < 4294967296) (hn : n ≤ 32) (hk : turnK (32 - (n : Int)) = k) :
    Calls Tryz.prog 156 #[.int .u32 x, .int .i64 n] w fun e w' => e = .returned (.int .u32 (rotN x k : Nat)) ∧ w = w' := by
  have HK := Lib.hid hk
  clear hk
  go_enter Tryz.func156, Tryz.ntmps156
  go_wp2_with fail
  refine (rturn_any x (32 - (n : Int)) _ h).mono ?_
  rintro e w' ⟨rfl, rfl⟩
  rw [HK.out]
  go_wp2
  go_ret
  exact ⟨rfl, rfl⟩

theorem down_any (x n : Nat) (w : World) (h : x < 4294967296) (hn : n ≤ 32) :
    Calls Tryz.prog 172 #[.int .u32 x, .int .i64 n] w fun e w' => e = .returned (.int .u32 (x / 2 ^ n : Nat)) ∧ w = w' := by
  go_enter Tryz.func172, Tryz.ntmps172
  go_wp2
  go_loop [0, 5] (fun t i => ∃ k : Nat, k ≤ n ∧ i = .int .i64 k ∧ t = .int .u32 (x / 2 ^ k : Nat)) (fun _ i => n - (intOf i).toNat)
  case atStart => exact ⟨0, Nat.zero_le _, rfl, by simp⟩
  case round =>
    obtain ⟨k, hk, rfl, rfl⟩ := hrel
    have HS : Hid (x / 2 ^ (k + 1) = x / 2 ^ k / 2) := by unfold Hid; rw [Nat.pow_succ, Nat.div_div_eq_div_mul]
    have hy : x / 2 ^ k < 4294967296 := Nat.lt_of_le_of_lt (Nat.div_le_self _ _) h
    obtain ⟨y, hy0⟩ : ∃ y, y = x / 2 ^ k := ⟨_, rfl⟩
    rw [← hy0] at hy HS ⊢
    have HY := Lib.hid hy0
    clear hy0
    by_cases hlt : k < n
    · go_wp2
      go_round
      case rel => exact ⟨k + 1, by omega, by go_num, by rw [HS.out]; go_num⟩
      case measure => simp [intOf]; omega
    · have HK : Hid (k = n) := (by omega : k = n)
      go_wp2
      go_ret
      exact ⟨ret_int (by rw [HY.out, HK.out]; simp), rfl⟩

end Go.Proofs.YtlnoopmblmkgkaaGreatDoor

namespace Go.Proofs.YtlnoopmblmkgkaaGreatDoor
set_option maxRecDepth 100000
open Go.RowKit

theorem zero_words : (Tryz.prog.info? 213).map (·.zero) = some (some (.agg (zeros .u32 64).toArray)) := by kernel_rfl
theorem built_words : Tryz.prog.built 213 [] = some (zeros .u32 64).toArray := by kernel_rfl
theorem size_words : (Tryz.prog.info? 213).map (·.size) = some 64 := by kernel_rfl
/-- The words while they are reckoned, t of them so far. -/
def wsTo (b : List UInt8) (t : Nat) : List Value := us (ws b t) ++ zeros .u32 (64 - t)

theorem wsTo_zero (b : List UInt8) : wsTo b 0 = zeros .u32 64 := by simp [wsTo, ws, us]
theorem wsTo_all (b : List UInt8) : wsTo b 64 = us (ws b 64) := by simp [wsTo, zeros]
theorem wsTo_len (b : List UInt8) (t : Nat) (h : t ≤ 64) : (wsTo b t).length = 64 := by simp [wsTo, zeros_len, us_len, ws_len]; omega
theorem wsTo_set (b : List UInt8) (t x : Nat) (h : t < 64) (hx : ws b (t + 1) = ws b t ++ [x]) : (wsTo b t).set t (.int .u32 (x : Int)) = wsTo b (t + 1) := by
  unfold wsTo
  rw [hx, us_append, List.append_assoc, List.set_append_right _ _ (by rw [us_len, ws_len]; omega), us_len, ws_len, Nat.sub_self]
  congr 1
  rw [show 64 - t = (64 - (t + 1)) + 1 by omega, zeros, List.replicate_succ]
  rfl
theorem wsTo_at (b : List UInt8) (t j : Nat) (h : j < t) : (wsTo b t)[j]? = some (.int .u32 ((ws b t).getD j 0 : Nat)) := by
  unfold wsTo
  rw [List.getElem?_append_left (by rw [us_len, ws_len]; exact h), us_at (by rw [ws_len]; exact h)]

theorem sched_start (w : World) (A Z : List Value) (T1 T2 : TypeId) :
    Bl ((((w.alloc (.cells A.toArray T1)).alloc (.cells Z.toArray T2)).alloc (.cells Z.toArray T2)).setCells (w.heap.size + 1 + 1) 0 Z.toArray.toList) w.heap.size A T1 ∧
    Bl ((((w.alloc (.cells A.toArray T1)).alloc (.cells Z.toArray T2)).alloc (.cells Z.toArray T2)).setCells (w.heap.size + 1 + 1) 0 Z.toArray.toList) (w.heap.size + 1) Z T2 ∧
    Bl ((((w.alloc (.cells A.toArray T1)).alloc (.cells Z.toArray T2)).alloc (.cells Z.toArray T2)).setCells (w.heap.size + 1 + 1) 0 Z.toArray.toList) (w.heap.size + 1 + 1) Z T2 ∧
    Below w.heap.size w ((((w.alloc (.cells A.toArray T1)).alloc (.cells Z.toArray T2)).alloc (.cells Z.toArray T2)).setCells (w.heap.size + 1 + 1) 0 Z.toArray.toList) := by
  have e1 : (w.alloc (.cells A.toArray T1)).heap.size = w.heap.size + 1 := by simp
  have e2 : ((w.alloc (.cells A.toArray T1)).alloc (.cells Z.toArray T2)).heap.size = w.heap.size + 1 + 1 := by simp
  have b2 : Bl ((w.alloc (.cells A.toArray T1)).alloc (.cells Z.toArray T2)) (w.heap.size + 1) Z T2 := by rw [← e1]; exact Bl.new _ _ _
  have b3 : Bl (((w.alloc (.cells A.toArray T1)).alloc (.cells Z.toArray T2)).alloc (.cells Z.toArray T2)) (w.heap.size + 1 + 1) Z T2 := by rw [← e2]; exact Bl.new _ _ _
  refine ⟨(((Bl.new w A T1).alloc _).alloc _).sets_other (by omega) _ _, (b2.alloc _).sets_other (by omega) _ _, ?_, below_setCells ((((Below.refl _ w).alloc (Nat.le_refl _) _).alloc (by simp) _).alloc (by simp; omega) _) (by omega) _ _⟩
  have := Bl.sets (w.heap.size + 1 + 1) T2 Z 0 _ _ b3 (by omega)
  simpa [splice] using this

theorem nxt_eq (a b c d : Nat) : ((a : Int) + b + c + d) % 4294967296 = (((a + b + c + d) % 4294967296 : Nat) : Int) := by omega

set_option maxHeartbeats 1000000 in
theorem sched_any (buf : List UInt8) (w : World) (hl : buf.length = 64) :
    Calls Tryz.prog 179 #[.agg (cb buf).toArray] w fun e w' => e = .returned (.agg (us (ws buf 64)).toArray) ∧ Below w.heap.size w w' := by
  have HL := Lib.hid hl
  clear hl
  go_enter Tryz.func179, Tryz.ntmps179
  go_wp2_with (first
    | (refine wpList_alloc_zero rfl 213 rfl (zeros .u32 64) zero_words ?_)
    | (refine wpList_build_to rfl 213 _ rfl (zeros .u32 64) built_words ?_)
    | (refine wpList_store_mid rfl 213 _ _ rfl _ _ (zeros .u32 64).toArray rfl rfl (Bl.there_ (Bl.new _ (zeros .u32 64) 213) (by simp [zeros])) (by rw [size_words, List.size_toArray, zeros_len]) (all_oneCell_toArray (zeros_one _ _)) ?_))
  obtain ⟨b0, b1, b2, hb0⟩ := sched_start w (cb buf) (zeros .u32 64) 124 213
  go_loopw [7] (fun i wr => ∃ k : Nat, k ≤ 16 ∧ i = .int .i64 k ∧ Bl wr w.heap.size (cb buf) 124 ∧ Bl wr (w.heap.size + 1) (zeros .u32 64) 213 ∧ Bl wr (w.heap.size + 1 + 1) (wsTo buf k) 213 ∧ Below w.heap.size w wr) (fun i _ => 16 - (intOf i).toNat)
  case atStart => exact ⟨0, by omega, rfl, b0, b1, by rw [wsTo_zero]; exact b2, hb0⟩
  case round =>
    clear b0 b1 b2 hb0
    obtain ⟨k, hk, rfl, b0, b1, b2, hb⟩ := hrel
    by_cases hlt : k < 16
    · go_wp2_with fail
      rw [run_slice_arr wr 124 5 w.heap.size 0 64 Tryz.underlying124 u8_size .i64 .i64 _ _ (4 * k) (4 * k + 4) (by omega) (by omega) (by omega) (by omega) (by omega)]
      go_wp2_with fail
      have hsl := b0.sl (o := 4 * k) (n := 4) (xs := cb ((buf.drop (4 * k)).take 4)) (cb_slice _ _ _) (by rw [cb_len, HL.out]; omega)
      refine (load_any ((buf.drop (4 * k)).take 4) false _ _ _ _ _ hsl (by decide)).mono ?_
      rintro e w1 ⟨rfl, hD⟩
      have hb1 : Below w.heap.size w w1 := hb.trans (hD.below _)
      have c0 := b0.keep (w' := w1) (by obtain ⟨m, rfl⟩ := hD; rfl)
      have c1 := b1.keep (w' := w1) (by obtain ⟨m, rfl⟩ := hD; rfl)
      have c2 := b2.keep (w' := w1) (by obtain ⟨m, rfl⟩ := hD; rfl)
      have hcell : ∃ u, w1.cell? ⟨w.heap.size + 1 + 1, k, none⟩ = some u := ⟨_, by rw [c2.cell, List.getElem?_eq_getElem (by rw [wsTo_len _ _ (by omega)]; omega)]⟩
      obtain ⟨u, hcell⟩ := hcell
      have hfr := c2.frozen k
      have HS : Hid ((wsTo buf k).set k (.int .u32 (wd buf k : Int)) = wsTo buf (k + 1)) := wsTo_set buf k _ (by omega) (ws_low buf k hlt)
      have HW : Hid (loadV ((buf.drop (4 * k)).take 4) false = wd buf k) := (rfl : _ = _)
      rw [HW.out]
      have d2 := Lib.hid (c2.set k (.int .u32 (wd buf k : Int)))
      clear hD hsl b0 b1 b2 hb c2
      go_wp2
      go_roundw
      case rel => exact ⟨k + 1, by omega, by go_num, c0.set_other _ _ (by simp; omega), c1.set_other _ _ (by simp), by rw [← HS.out]; exact d2.out, hb1.setCell (by simp; omega) _⟩
      case measure => simp [intOf]; omega
    · have HK : Hid (k = 16) := (by omega : k = 16)
      go_wp2
      go_loopw [5] (fun i wr => ∃ k : Nat, 16 ≤ k ∧ k ≤ 64 ∧ i = .int .i64 k ∧ Bl wr (w.heap.size + 1) (zeros .u32 64) 213 ∧ Bl wr (w.heap.size + 1 + 1) (wsTo buf k) 213 ∧ Below w.heap.size w wr) (fun i _ => 64 - (intOf i).toNat)
      case atStart => exact ⟨16, by omega, by omega, rfl, b1, by rw [← HK.out]; exact b2, hb⟩
      case round =>
        clear b0 b1 b2 hb
        obtain ⟨t, ht16, ht, rfl, b1, b2, hb⟩ := hrel
        by_cases hlt2 : t < 64
        · have hwl := ws_lt buf t
          obtain ⟨p, hp⟩ : ∃ p, p = (ws buf t).getD (t - 2) 0 := ⟨_, rfl⟩
          obtain ⟨q, hq⟩ : ∃ q, q = (ws buf t).getD (t - 7) 0 := ⟨_, rfl⟩
          obtain ⟨r, hr⟩ : ∃ r, r = (ws buf t).getD (t - 15) 0 := ⟨_, rfl⟩
          obtain ⟨z, hz⟩ : ∃ z, z = (ws buf t).getD (t - 16) 0 := ⟨_, rfl⟩
          have lp : p < 4294967296 := by rw [hp]; exact getD_lt32 hwl _
          have lq : q < 4294967296 := by rw [hq]; exact getD_lt32 hwl _
          have lr : r < 4294967296 := by rw [hr]; exact getD_lt32 hwl _
          have lz : z < 4294967296 := by rw [hz]; exact getD_lt32 hwl _
          have i2 : ((t : Int) - 2).toNat = t - 2 := by omega
          have i7 : ((t : Int) - 7).toNat = t - 7 := by omega
          have i15 : ((t : Int) - 15).toNat = t - 15 := by omega
          have i16 : ((t : Int) - 16).toNat = t - 16 := by omega
          have cp : wr.cell? ⟨w.heap.size + 1 + 1, t - 2, none⟩ = some (.int .u32 (p : Int)) := by rw [b2.cell, wsTo_at buf t _ (by omega), hp]
          have cq : wr.cell? ⟨w.heap.size + 1 + 1, t - 7, none⟩ = some (.int .u32 (q : Int)) := by rw [b2.cell, wsTo_at buf t _ (by omega), hq]
          have cr : wr.cell? ⟨w.heap.size + 1 + 1, t - 15, none⟩ = some (.int .u32 (r : Int)) := by rw [b2.cell, wsTo_at buf t _ (by omega), hr]
          have cz : wr.cell? ⟨w.heap.size + 1 + 1, t - 16, none⟩ = some (.int .u32 (z : Int)) := by rw [b2.cell, wsTo_at buf t _ (by omega), hz]
          have hfr := b2.frozen t
          have hcell : ∃ u, wr.cell? ⟨w.heap.size + 1 + 1, t, none⟩ = some u := ⟨_, by rw [b2.cell, List.getElem?_eq_getElem (by rw [wsTo_len _ _ (by omega)]; omega)]⟩
          obtain ⟨u, hcell⟩ := hcell
          have HX : Hid (nxt (ws buf t) t = (ss1 p + q + ss0 r + z) % 4294967296) := by unfold Hid nxt; rw [hp, hq, hr, hz]
          clear hp hq hr hz hwl
          have n2 : (0 : Int) ≤ (t : Int) - 2 := by omega
          have n7 : (0 : Int) ≤ (t : Int) - 7 := by omega
          have n15 : (0 : Int) ≤ (t : Int) - 15 := by omega
          have n16 : (0 : Int) ≤ (t : Int) - 16 := by omega
          have s2 : (2 : Int) ≤ (t : Int) := by omega
          have s7 : (7 : Int) ≤ (t : Int) := by omega
          have s15 : (15 : Int) ≤ (t : Int) := by omega
          have s16 : (16 : Int) ≤ (t : Int) := by omega
          have m2 : (t : Int) - 2 < 64 := by omega
          have m7 : (t : Int) - 7 < 64 := by omega
          have m15 : (t : Int) - 15 < 64 := by omega
          have m16 : (t : Int) - 16 < 64 := by omega
          have x2 : IntKind.i64.wrap ((t : Int) - 2) = (t : Int) - 2 := IntWalk.i64_in _ (by omega)
          have x7 : IntKind.i64.wrap ((t : Int) - 7) = (t : Int) - 7 := IntWalk.i64_in _ (by omega)
          have x15 : IntKind.i64.wrap ((t : Int) - 15) = (t : Int) - 15 := IntWalk.i64_in _ (by omega)
          have x16 : IntKind.i64.wrap ((t : Int) - 16) = (t : Int) - 16 := IntWalk.i64_in _ (by omega)
          go_wp2_with fail
          refine wp_region_still_tail 23 (by kernel_rfl) (by kernel_rfl) ?_
          simp only [List.take_succ_cons, List.take_zero, List.drop_succ_cons, List.drop_zero]
          repeat still_step
          still_call (still_of (ss1_any p _ lp))
          repeat still_step
          still_call (still_of (ss0_any r _ lr))
          repeat still_step
          refine wpStill_nil ?_
          have HT := Lib.hid (b2.set t (.int .u32 (nxt (ws buf t) t : Nat)))
          have HS : Hid ((wsTo buf t).set t (.int .u32 (nxt (ws buf t) t : Nat)) = wsTo buf (t + 1)) := wsTo_set buf t _ (by omega) (ws_high buf t ht16)
          go_wp2
          go_roundw
          case rel =>
            rw [nxt_eq, ← HX.out]
            exact ⟨t + 1, by omega, by omega, by go_num, (b1.set_other _ _ (by simp)).drew, by rw [← HS.out]; exact HT.out.drew, (hb.setCell (by simp; omega) _).drew⟩
          case measure => simp [intOf]; omega
        · have HK2 : Hid (t = 64) := (by omega : t = 64)
          have HT := Lib.hid b2
          clear b2
          go_wp2_with (first
            | (refine wpList_load_mid rfl 213 _ rfl _ _ rfl (us (ws buf 64)) _ ?_ Tryz.underlying213 rfl (by rw [size_words, us_len, ws_len]) ?_; (have := HT.out.whole; rw [HK2.out, wsTo_all] at this; exact this))
            | (refine wpList_store_mid rfl 213 _ _ rfl _ _ (us (ws buf 64)).toArray rfl rfl (b1.there_ (by simp [zeros, us_len, ws_len])) (by rw [size_words, List.size_toArray, us_len, ws_len]) (all_oneCell_toArray (us_one _)) ?_))
          have hc := Bl.sets (w.heap.size + 1) 213 (us (ws buf 64)) 0 _ _ b1 (by simp [zeros_len, us_len, ws_len])
          have he : splice (zeros .u32 64) 0 (us (ws buf 64)) = us (ws buf 64) := by simp [splice, zeros, us_len, ws_len]
          rw [he] at hc
          exact ret_row Tryz.results179 rfl hc Tryz.underlying213 rfl (by rw [size_words, us_len, ws_len]) rfl ⟨rfl, below_setCells hb (by omega) _ _⟩

end Go.Proofs.YtlnoopmblmkgkaaGreatDoor

namespace Go.Proofs.YtlnoopmblmkgkaaGreatDoor
set_option maxRecDepth 100000
open Go.RowKit

/-- The package's tables hold what their text lays. -/
structure Tabs (w : World) : Prop where
  ks : ∀ i, i < 64 → w.cell? ⟨2, i, none⟩ = some (.int .u32 (shaK.getD i 0 : Nat))
  ss : ∀ i, i < 8 → w.cell? ⟨0, i, none⟩ = some (.int .u32 (shaS.list.getD i 0 : Nat))
theorem Tabs.size {w : World} (h : Tabs w) : 3 ≤ w.heap.size := by
  have h1 := block_lt_of_cell (h.ks 0 (by omega))
  have h2 := block_lt_of_cell (h.ss 0 (by omega))
  simp at h1 h2
  omega
theorem Tabs.keep {w w' : World} (h : Tabs w) (hk : ∀ b, b < 3 → w'.heap[b]? = w.heap[b]?) : Tabs w' :=
  ⟨fun i hi => by rw [World.cell?_of_block (w := w) (hk _ (show 2 < 3 by decide))]; exact h.ks i hi, fun i hi => by rw [World.cell?_of_block (w := w) (hk _ (show 0 < 3 by decide))]; exact h.ss i hi⟩
theorem Tabs.below {w w' : World} {B : Nat} (h : Tabs w) (hb : Below B w w') (hB : 3 ≤ B) : Tabs w' := h.keep fun b hb2 => hb.block b (by omega)
theorem Tabs.next {w w' : World} (h : Tabs w) (hb : Below w.heap.size w w') : Tabs w' := h.below hb h.size
theorem Tabs.alloc {w : World} (h : Tabs w) (o : Obj) : Tabs (w.alloc o) := h.keep fun b hb => Below.heap_alloc w o b (by have := h.size; omega)

theorem zero_state8 : (Tryz.prog.info? 151).map (·.zero) = some (some (.agg (zeros .u32 8).toArray)) := by kernel_rfl
theorem size_state8 : (Tryz.prog.info? 151).map (·.size) = some 8 := by kernel_rfl
theorem list_len (s : W8) : s.list.length = 8 := rfl

theorem after_start (w : World) (X B Z : List Value) (T1 T2 : TypeId) :
    Bl (((w.alloc (.cells X.toArray T1)).alloc (.cells B.toArray T2)).alloc (.cells Z.toArray T1)) w.heap.size X T1 ∧
    Bl (((w.alloc (.cells X.toArray T1)).alloc (.cells B.toArray T2)).alloc (.cells Z.toArray T1)) (w.heap.size + 1) B T2 ∧
    Bl (((w.alloc (.cells X.toArray T1)).alloc (.cells B.toArray T2)).alloc (.cells Z.toArray T1)) (w.heap.size + 1 + 1) Z T1 ∧
    Below w.heap.size w (((w.alloc (.cells X.toArray T1)).alloc (.cells B.toArray T2)).alloc (.cells Z.toArray T1)) := by
  have e1 : (w.alloc (.cells X.toArray T1)).heap.size = w.heap.size + 1 := by simp
  have e2 : ((w.alloc (.cells X.toArray T1)).alloc (.cells B.toArray T2)).heap.size = w.heap.size + 1 + 1 := by simp
  have b2 : Bl ((w.alloc (.cells X.toArray T1)).alloc (.cells B.toArray T2)) (w.heap.size + 1) B T2 := by rw [← e1]; exact Bl.new _ _ _
  have b3 : Bl (((w.alloc (.cells X.toArray T1)).alloc (.cells B.toArray T2)).alloc (.cells Z.toArray T1)) (w.heap.size + 1 + 1) Z T1 := by rw [← e2]; exact Bl.new _ _ _
  exact ⟨((Bl.new w X T1).alloc _).alloc _, b2.alloc _, b3, (((Below.refl _ w).alloc (Nat.le_refl _) _).alloc (by simp) _).alloc (by simp; omega) _⟩

theorem Tabs.drewN {w : World} (h : Tabs w) (n : Nat) : Tabs (w.drewN n) := h.keep fun _ _ => rfl
set_option maxRecDepth 100000 in
set_option maxHeartbeats 600000 in
theorem after_any (s : W8) (buf : List UInt8) (w : World) (hs : s.ok) (hl : buf.length = 64) (hT : Tabs w) :
    Calls Tryz.prog 168 #[.agg (us s.list).toArray, .agg (cb buf).toArray] w fun e w' => e = .returned (.agg (us (blk s buf).list).toArray) ∧ Below w.heap.size w w' := by
  have HL := Lib.hid hl
  have HO := Lib.hid hs
  have HTab := Lib.hid hT
  clear hl hs hT
  obtain ⟨b0, b1, b2, hb⟩ := after_start w (us s.list) (cb buf) (zeros .u32 8) 151 124
  go_enter Tryz.func168, Tryz.ntmps168
  go_wp2_with (first
    | (refine wpList_alloc_zero rfl 151 rfl (zeros .u32 8) zero_state8 ?_)
    | (refine wpList_load_mid rfl 124 _ rfl _ _ rfl (cb buf) _ b1.whole Tryz.underlying124 rfl (by rw [size_block, cb_len, HL.out]) ?_))
  refine (sched_any buf _ HL.out).mono ?_
  rintro e w1 ⟨rfl, hb1⟩
  obtain ⟨l, el⟩ : ∃ l, l = ws buf 64 := ⟨_, rfl⟩
  have hll : l.length = 64 := by rw [el, ws_len]
  have hlt := ws_lt buf 64
  rw [← el] at hlt ⊢
  have EL := Lib.hid el
  have HLL := Lib.hid hll
  have HLT := Lib.hid hlt
  clear el hll hlt
  have c0 := b0.next hb1
  have c2 := b2.next hb1
  have hz : w.heap.size + 3 ≤ w1.heap.size := by have := hb1.size; simp at this; omega
  have hbw : Below w.heap.size w w1 := hb.trans (hb1.mono (by simp; omega))
  clear b0 b1 b2 hb hb1
  go_wp2_with (first
    | (refine wpList_alloc_zero rfl 213 rfl (zeros .u32 64) zero_words ?_)
    | (refine wpList_store_mid rfl 213 _ _ rfl _ _ (us l).toArray rfl rfl (Bl.there_ (Bl.new _ (zeros .u32 64) 213) (by simp [zeros, us_len, HLL.out])) (by rw [size_words, List.size_toArray, us_len, HLL.out]) (all_oneCell_toArray (us_one _)) ?_))
  obtain ⟨W2, hW2⟩ : ∃ W2, W2 = (w1.alloc (.cells (zeros .u32 64).toArray 213)).setCells w1.heap.size 0 (us l).toArray.toList := ⟨_, rfl⟩
  rw [← hW2]
  have d0 : Bl W2 w.heap.size (us s.list) 151 := by rw [hW2]; exact (c0.alloc _).sets_other (by omega) _ _
  have d2 : Bl W2 (w.heap.size + 1 + 1) (zeros .u32 8) 151 := by rw [hW2]; exact (c2.alloc _).sets_other (by omega) _ _
  have d5 : Bl W2 w1.heap.size (us l) 213 := by
    rw [hW2]
    exact (Bl.new w1 (zeros .u32 64) 213).over (by rw [us_len, HLL.out, zeros_len])
  have hbW : Below w.heap.size w W2 := by rw [hW2]; exact below_setCells (hbw.alloc (by omega) _) (by omega) _ _
  clear hW2 c0 c2 hbw
  have x0 : W2.cell? ⟨w.heap.size, 0, none⟩ = some (.int .u32 (s.a : Int)) := d0.cell 0
  have x1 : W2.cell? ⟨w.heap.size, 1, none⟩ = some (.int .u32 (s.b : Int)) := d0.cell 1
  have x2 : W2.cell? ⟨w.heap.size, 2, none⟩ = some (.int .u32 (s.c : Int)) := d0.cell 2
  have x3 : W2.cell? ⟨w.heap.size, 3, none⟩ = some (.int .u32 (s.d : Int)) := d0.cell 3
  have x4 : W2.cell? ⟨w.heap.size, 4, none⟩ = some (.int .u32 (s.e : Int)) := d0.cell 4
  have x5 : W2.cell? ⟨w.heap.size, 5, none⟩ = some (.int .u32 (s.f : Int)) := d0.cell 5
  have x6 : W2.cell? ⟨w.heap.size, 6, none⟩ = some (.int .u32 (s.g : Int)) := d0.cell 6
  have x7 : W2.cell? ⟨w.heap.size, 7, none⟩ = some (.int .u32 (s.h : Int)) := d0.cell 7
  go_quiet (fail)
  clear x0 x1 x2 x3 x4 x5 x6 x7
  go_wp2
  have hTW : Tabs W2 := HTab.out.next hbW
  go_loopw [6, 7, 8, 9, 10, 11, 12, 13, 35] (fun a b c d e f g h i wr => ∃ (k : Nat) (r : W8), k ≤ 64 ∧ Hid (r = rnds l s k) ∧ a = .int .u32 (r.a : Int) ∧ b = .int .u32 (r.b : Int) ∧ c = .int .u32 (r.c : Int) ∧ d = .int .u32 (r.d : Int)
    ∧ e = .int .u32 (r.e : Int) ∧ f = .int .u32 (r.f : Int) ∧ g = .int .u32 (r.g : Int) ∧ h = .int .u32 (r.h : Int) ∧ i = .int .i64 k ∧ Tabs wr
    ∧ Bl wr w.heap.size (us s.list) 151 ∧ Bl wr (w.heap.size + 1 + 1) (zeros .u32 8) 151 ∧ Bl wr w1.heap.size (us l) 213 ∧ Below w.heap.size w wr) (fun _ _ _ _ _ _ _ _ i _ => 64 - (intOf i).toNat)
  case atStart => exact ⟨0, s, by omega, (rfl : _ = _), rfl, rfl, rfl, rfl, rfl, rfl, rfl, rfl, rfl, hTW.drewN _, d0.drewN _, d2.drewN _, d5.drewN _, hbW.trans (Drew.below ⟨_, rfl⟩ _)⟩
  case round =>
    clear d0 d2 d5 hbW hTW
    obtain ⟨k, r, hk, HR, rfl, rfl, rfl, rfl, rfl, rfl, rfl, rfl, rfl, hT, d0, d2, d5, hbW⟩ := hrel
    obtain ⟨ha, hb, hc, hd, he, hf, hg, hh⟩ : r.ok := by rw [HR.out]; exact rnds_ok l s HO.out k
    by_cases hlt : k < 64
    · have ck := hT.ks k hlt
      have cw : wr.cell? ⟨w1.heap.size, k, none⟩ = some (.int .u32 (l.getD k 0 : Nat)) := by rw [d5.cell, us_at (by rw [HLL.out]; exact hlt)]
      obtain ⟨x, hx⟩ : ∃ x, x = l.getD k 0 := ⟨_, rfl⟩
      obtain ⟨y, hy⟩ : ∃ y, y = shaK.getD k 0 := ⟨_, rfl⟩
      have hx2 : x < 4294967296 := by rw [hx]; exact getD_lt32 HLT.out k
      have hy2 : y < 4294967296 := by rw [hy]; exact getD_lt32 shaK_lt k
      rw [← hx] at cw
      rw [← hy] at ck
      have hi0 : (0 : Int) ≤ (k : Int) := by omega
      have hi1 : (k : Int) < 64 := by omega
      have HX := Lib.hid hx
      have HY := Lib.hid hy
      clear hx hy
      go_wp2_with fail
      go_quiet ((go_at_call 180; exact Calls.quiet_of_same (still_of (bs1_any r.e _ he))))
      clear ck cw
      go_wp2_with (go_at_call 181; refine (bs0_any r.a _ ha).mono ?_; rintro e w' ⟨rfl, rfl⟩)
      go_roundw
      case rel =>
        rw [ch_eq _ _ _ _ (by decide) he hf hg, maj_eq _ _ _ ha hb hc]
        refine ⟨k + 1, rnd r y x, by omega, ?_, ?_, rfl, rfl, rfl, ?_, rfl, rfl, rfl, by go_num, hT.drewN _, d0.drewN _, d2.drewN _, d5.drewN _, hbW.trans (Drew.below ⟨_, rfl⟩ _)⟩
        · unfold Hid; rw [HX.out, HY.out, HR.out]; rfl
        · congr 1
        · congr 1
      case measure => simp [intOf]; omega
    · have HK : Hid (k = 64) := (by omega : k = 64)
      have x0 : wr.cell? ⟨w.heap.size, 0, none⟩ = some (.int .u32 (s.a : Int)) := d0.cell 0
      have x1 : wr.cell? ⟨w.heap.size, 1, none⟩ = some (.int .u32 (s.b : Int)) := d0.cell 1
      have x2 : wr.cell? ⟨w.heap.size, 2, none⟩ = some (.int .u32 (s.c : Int)) := d0.cell 2
      have x3 : wr.cell? ⟨w.heap.size, 3, none⟩ = some (.int .u32 (s.d : Int)) := d0.cell 3
      have x4 : wr.cell? ⟨w.heap.size, 4, none⟩ = some (.int .u32 (s.e : Int)) := d0.cell 4
      have x5 : wr.cell? ⟨w.heap.size, 5, none⟩ = some (.int .u32 (s.f : Int)) := d0.cell 5
      have x6 : wr.cell? ⟨w.heap.size, 6, none⟩ = some (.int .u32 (s.g : Int)) := d0.cell 6
      have x7 : wr.cell? ⟨w.heap.size, 7, none⟩ = some (.int .u32 (s.h : Int)) := d0.cell 7
      go_wp2_with (refine wpList_store_mid rfl 151 _ _ rfl _ _ _ rfl rfl (d2.there_ (by simp [zeros])) size_state8 (by simp [Value.oneCell']) ?_)
      have HB : Hid (s.plus r = blk s buf) := by unfold Hid blk; rw [HR.out, HK.out, EL.out]
      have hc := d2.over (vs := us (s.plus r).list) (by rw [us_len, zeros_len]; rfl)
      exact ret_row Tryz.results168 rfl hc Tryz.underlying151 rfl size_state8 rfl ⟨by rw [HB.out], below_setCells hbW (by omega) _ _⟩

end Go.Proofs.YtlnoopmblmkgkaaGreatDoor

namespace Go.Proofs.YtlnoopmblmkgkaaGreatDoor
set_option maxRecDepth 100000
open Go.RowKit

/-- A State's cells. -/
def stc (s : W8) (buf : List UInt8) (n : Nat) : List Value := us s.list ++ (cb buf ++ [.int .u64 (n : Int)])
theorem stc_len (s : W8) (buf : List UInt8) (n : Nat) (h : buf.length = 64) : (stc s buf n).length = 73 := by
  unfold stc; rw [List.length_append, List.length_append, us_len, cb_len, h, list_len]; rfl
theorem stc_words (s : W8) (buf : List UInt8) (n : Nat) : ((stc s buf n).drop 0).take 8 = us s.list := by
  unfold stc; rw [List.drop_zero, List.take_append_of_le_length (by rw [us_len, list_len]; omega), List.take_of_length_le (by rw [us_len, list_len]; omega)]
theorem stc_block (s : W8) (buf : List UInt8) (n : Nat) (h : buf.length = 64) : ((stc s buf n).drop 8).take 64 = cb buf := by
  unfold stc
  rw [List.drop_append_of_le_length (by rw [us_len, list_len]; omega), List.drop_of_length_le (by rw [us_len, list_len]; omega), List.nil_append, List.take_append_of_le_length (by rw [cb_len, h]; omega), List.take_of_length_le (by rw [cb_len, h]; omega)]
theorem stc_count (s : W8) (buf : List UInt8) (n : Nat) (h : buf.length = 64) : (stc s buf n)[72]? = some (.int .u64 (n : Int)) := by
  unfold stc
  rw [List.getElem?_append_right (by rw [us_len, list_len]; omega), List.getElem?_append_right (by rw [us_len, list_len, cb_len, h]; omega), us_len, list_len, cb_len, h]
  rfl
theorem stc_one (s : W8) (buf : List UInt8) (n : Nat) : ∀ v ∈ stc s buf n, v.oneCell' = true := by
  intro v hv
  unfold stc at hv
  rw [List.mem_append, List.mem_append] at hv
  rcases hv with hv | hv | hv
  · exact us_one _ v hv
  · exact cb_one _ v hv
  · rw [List.mem_singleton] at hv; subst hv; rfl
/-- The State at block g has been added just the bytes m. -/
def St (w : World) (g : Nat) (m : List UInt8) : Prop :=
  ∃ buf : List UInt8, buf.length = 64 ∧ buf.take (m.length % 64) = m.drop (64 * (m.length / 64)) ∧ Bl w g (stc (hs m (m.length / 64)) buf m.length) 153
theorem St.keep {w w' : World} {g : Nat} {m : List UInt8} (h : St w g m) (hk : w'.heap[g]? = w.heap[g]?) : St w' g m := by
  obtain ⟨buf, h1, h2, h3⟩ := h
  exact ⟨buf, h1, h2, h3.keep hk⟩
theorem St.lt {w : World} {g : Nat} {m : List UInt8} (h : St w g m) : g < w.heap.size := by obtain ⟨_, _, _, h⟩ := h; exact h.lt
theorem St.next {w w' : World} {g : Nat} {m : List UInt8} (h : St w g m) (hb : Below w.heap.size w w') : St w' g m := h.keep (hb.block g h.lt)
theorem St.but {w w' : World} {g k : Nat} {m : List UInt8} (h : St w g m) (hg : w.grownBy w' (some k)) (hk : g ≠ k) : St w' g m := h.keep (hg.block g h.lt (fun e => hk (by injection e)))

theorem built_state : Tryz.prog.built 153 [(0, .agg (us shaS.list).toArray)] = some (stc shaS (List.replicate 64 0) 0).toArray := by kernel_rfl
theorem size_state : (Tryz.prog.info? 153).map (·.size) = some 73 := by kernel_rfl
theorem zero_state : (Tryz.prog.info? 153).map (·.zero) = some (some (.agg (stc ⟨0, 0, 0, 0, 0, 0, 0, 0⟩ (List.replicate 64 0) 0).toArray)) := by kernel_rfl
theorem Tabs.start {w : World} (h : Tabs w) : w.rangeAt 0 0 (us shaS.list) := fun j v hv => by
  have hj : j < 8 := by
    have := (List.getElem?_eq_some_iff.1 hv).1
    rwa [us_len, list_len] at this
  rw [us_at (by rw [list_len]; exact hj)] at hv
  rw [Nat.zero_add, h.ss j hj, hv]

theorem st_new (w : World) : St (w.alloc (.cells (stc shaS (List.replicate 64 0) 0).toArray 153)) w.heap.size [] := ⟨List.replicate 64 0, by simp, by simp, Bl.new w _ _⟩

/-- What New and Copy give: a State in new memory. -/
def RetSt (w : World) (m : List UInt8) (e : Ending) (w' : World) : Prop := ∃ g, e = .returned (.pointer (some ⟨g, 0, none⟩)) ∧ w.heap.size ≤ g ∧ St w' g m ∧ Below w.heap.size w w'

theorem new_any (w : World) (hT : Tabs w) : Calls Tryz.prog 145 #[] w (RetSt w []) := by
  have hr := hT.start
  go_enter Tryz.func145, Tryz.ntmps145
  go_wp2_with (first
    | (refine wpList_load_mid rfl 151 _ rfl _ _ rfl (us shaS.list) _ hr Tryz.underlying151 rfl size_state8 ?_)
    | (refine wpList_build_to rfl 153 _ rfl (stc shaS (List.replicate 64 0) 0) built_state ?_))
  go_ret
  exact ⟨w.heap.size, rfl, Nat.le_refl _, st_new w, (Below.refl _ w).alloc (Nat.le_refl _) _⟩

theorem copy_any (g : Nat) (m : List UInt8) (w : World) (h : St w g m) : Calls Tryz.prog 147 #[.pointer (some ⟨g, 0, none⟩)] w (RetSt w m) := by
  obtain ⟨buf, h1, h2, h3⟩ := h
  have H1 := Lib.hid h1
  have H2 := Lib.hid h2
  clear h1 h2
  obtain ⟨C, hC⟩ : ∃ C, C = stc (hs m (m.length / 64)) buf m.length := ⟨_, rfl⟩
  have hl : C.length = 73 := by rw [hC, stc_len _ _ _ H1.out]
  have ho : ∀ v ∈ C, v.oneCell' = true := by rw [hC]; exact stc_one _ _ _
  rw [← hC] at h3
  have HC := Lib.hid hC
  have HL := Lib.hid hl
  have HO := Lib.hid ho
  clear hC hl ho
  have hz := stc_len ⟨0, 0, 0, 0, 0, 0, 0, 0⟩ (List.replicate 64 0) 0 (by simp)
  obtain ⟨Z, hZ⟩ : ∃ Z, Z = stc ⟨0, 0, 0, 0, 0, 0, 0, 0⟩ (List.replicate 64 0) 0 := ⟨_, rfl⟩
  have hzs := zero_state
  rw [← hZ] at hz hzs
  have HZ := Lib.hid hz
  have HZS := Lib.hid hzs
  clear hZ hz hzs
  go_enter Tryz.func147, Tryz.ntmps147
  go_wp2_with (first
    | (refine wpList_load_mid rfl 153 _ rfl _ _ rfl C _ h3.whole Tryz.underlying153 rfl (by rw [size_state, HL.out]) ?_)
    | (refine wpList_alloc_zero rfl 153 rfl Z HZS.out ?_)
    | (refine wpList_store_mid rfl 153 _ _ rfl _ _ C.toArray rfl rfl (Bl.there_ (Bl.new _ Z 153) (by simp [HL.out, HZ.out])) (by rw [size_state, List.size_toArray, HL.out]) (all_oneCell_toArray HO.out) ?_))
  go_ret
  have hb := (Bl.new w Z 153).over (vs := C) (by rw [HL.out, HZ.out])
  exact ⟨w.heap.size, rfl, Nat.le_refl _, ⟨buf, H1.out, H2.out, by rw [← HC.out]; exact hb⟩, below_setCells ((Below.refl _ w).alloc (Nat.le_refl _) _) (Nat.le_refl _) _ _⟩

theorem copy_nil (w : World) : Calls Tryz.prog 147 #[.pointer none] w fun e w' => e = .returned (.pointer none) ∧ w = w' := by
  go_enter Tryz.func147, Tryz.ntmps147
  go_wp2
  go_ret
  exact ⟨rfl, rfl⟩

theorem pad_cells (n : Nat) (t : List UInt8) : (zeros .u8 (1 + n)).set 0 (.int .u8 128) ++ cb t = cb (128 :: (List.replicate n 0 ++ t)) := by
  rw [Nat.add_comm, zeros, List.replicate_succ, List.set_cons_zero, List.cons_append]
  simp [cb, bc]

set_option maxHeartbeats 400000 in
theorem pad_any (n : Nat) (w : World) (hn : n ≤ 1000000000) :
    Calls Tryz.prog 169 #[.int .u64 n] w (RetBytes 5 w (padZ n + 9) (pad n)) := by
  obtain ⟨i0, hi, hz0, hz1, hz2⟩ := info_parts u8_info
  have hz := padZ_lt n
  have HP : Hid (((64 : Int) - ((n : Int) % 64 + 9) % 64) % 64 = (padZ n : Int)) := by unfold Hid padZ; omega
  go_enter Tryz.func169, Tryz.ntmps169
  go_wp2_with (at_make; refine wpList_make_part _ rfl _ _ 22 rfl w.heap.size 5 i0 .u8 Tryz.underlying22 hi hz0 hz1 .i64 .i64 _ _ (1 + padZ n) (9 + padZ n) rfl rfl (by have := HP.out; omega) (by have := HP.out; omega) (by omega) (by rw [hz2]; omega) (by unfold maxLen; omega) (Nat.le_refl _) ?_; intro w1 hown hgrow; obtain ⟨u, hc⟩ := own_cell hown (show 0 < 1 + padZ n by omega); have hf := hown.frozenAt 0)
  have hbel : Below w.heap.size w w1 := (Below.refl w.heap.size w).grown hgrow (Nat.le_refl _) (by simp)
  have hs := (hown.stored 0 (.int .u8 128)).1
  have hb2 : Below w.heap.size w (w1.setCell ⟨w.heap.size, 0, none⟩ (.int .u8 128)) := hbel.setCell (by simp) _
  clear hown hgrow hc hf hbel
  have e8 : ((8 * n : Nat) : Int) = 8 * (n : Int) := by omega
  rw [← e8]
  refine (tell_any (8 * n) _).mono ?_
  rintro e w2 ⟨A2, c2, rfl, hnew⟩
  have hown2 := own_below hs hnew.below
  have hb3 := next hb2 hnew.below
  have HE := Lib.hid (pad_cells (padZ n) (told8 (8 * n)))
  clear hs e8
  go_wp2_with (at_builtin; refine wpList_append_sl _ rfl _ _ 22 rfl w.heap.size 5 i0 (.int .u8 0) 1 Tryz.underlying22 hi hz0 hz1 hz2 rfl _ (1 + padZ n) _ rfl hown2 _ A2 8 c2 (cb (told8 (8 * n))) rfl hnew.sl hnew.none_ (cb_one _) (by unfold maxLen; omega) (by omega) hb3.size ?_; intro v' w3 hown3 hgrow3 hat)
  go_ret
  have hb4 := below_app hb3 (Nat.le_refl _) hown2 hgrow3
  rw [HE.out] at hown3
  exact retBytes (by omega) rfl hown3 hb4

end Go.Proofs.YtlnoopmblmkgkaaGreatDoor

namespace Go.Proofs.YtlnoopmblmkgkaaGreatDoor
set_option maxRecDepth 100000
open Go.RowKit

/-! What a step of Add does to a State, as lists. -/
theorem stc_splice (s : W8) (buf r : List UInt8) (n a : Nat) (hb : buf.length = 64) (ha : a + r.length ≤ 64) : splice (stc s buf n) (8 + a) (cb r) = stc s (splice buf a r) n := by
  unfold stc
  have := splice_mid (us s.list) (cb buf) [.int .u64 (n : Int)] (cb r) a (by rw [cb_len, cb_len, hb]; exact ha)
  rw [us_len, list_len] at this
  rw [this, cb_splice]
theorem stc_set (s : W8) (buf : List UInt8) (n k : Nat) (hb : buf.length = 64) : (stc s buf n).set 72 (.int .u64 (k : Int)) = stc s buf k := by
  unfold stc
  rw [List.set_append_right _ _ (by rw [us_len, list_len]; omega), us_len, list_len, List.set_append_right _ _ (by rw [cb_len, hb]; omega), cb_len, hb]
  rfl
theorem stc_over (s r : W8) (buf : List UInt8) (n : Nat) : splice (stc s buf n) 0 (us r.list) = stc r buf n := by
  unfold stc splice
  rw [List.take_zero, List.nil_append, Nat.zero_add, us_len, list_len, List.drop_append_of_le_length (by rw [us_len, list_len]; omega), List.drop_of_length_le (by rw [us_len, list_len]; omega), List.nil_append]

theorem step_part (q r buf : List UInt8) (t : Nat) (hb : buf.length = 64) (hbuf : buf.take (q.length % 64) = q.drop (64 * (q.length / 64))) (ht : t = Nat.min r.length (64 - q.length % 64)) (hlt : q.length % 64 + t < 64) :
    hs (q ++ r.take t) ((q ++ r.take t).length / 64) = hs q (q.length / 64) ∧
    (splice buf (q.length % 64) (r.take t)).take ((q ++ r.take t).length % 64) = (q ++ r.take t).drop (64 * ((q ++ r.take t).length / 64)) := by
  have htr : t ≤ r.length := by rw [ht]; exact Nat.min_le_left ..
  have hl : (q ++ r.take t).length = q.length + t := by simp; omega
  have hd : (q.length + t) / 64 = q.length / 64 := by omega
  have hm : (q.length + t) % 64 = q.length % 64 + t := by omega
  rw [hl, hd, hm]
  refine ⟨hs_append q _ _ (by omega), ?_⟩
  rw [List.drop_append_of_le_length (by omega), ← hbuf]
  unfold splice
  rw [← List.append_assoc, List.take_append_of_le_length (by simp; omega), List.take_of_length_le (by simp; omega)]
theorem step_full (q r buf : List UInt8) (t : Nat) (hb : buf.length = 64) (hbuf : buf.take (q.length % 64) = q.drop (64 * (q.length / 64))) (ht : t = Nat.min r.length (64 - q.length % 64)) (heq : q.length % 64 + t = 64) :
    hs (q ++ r.take t) ((q ++ r.take t).length / 64) = blk (hs q (q.length / 64)) (splice buf (q.length % 64) (r.take t)) ∧
    (splice buf (q.length % 64) (r.take t)).take ((q ++ r.take t).length % 64) = (q ++ r.take t).drop (64 * ((q ++ r.take t).length / 64)) := by
  have htr : t ≤ r.length := by rw [ht]; exact Nat.min_le_left ..
  have hl : (q ++ r.take t).length = q.length + t := by simp; omega
  have hd : (q.length + t) / 64 = q.length / 64 + 1 := by omega
  have hm : (q.length + t) % 64 = 0 := by omega
  rw [hl, hd, hm]
  have hw : splice buf (q.length % 64) (r.take t) = ((q ++ r.take t).drop (64 * (q.length / 64))).take 64 := by
    rw [List.drop_append_of_le_length (by omega), ← hbuf]
    unfold splice
    rw [List.drop_of_length_le (show buf.length ≤ q.length % 64 + (r.take t).length by simp; omega), List.append_nil]
    exact (List.take_of_length_le (by simp; omega)).symm
  constructor
  · rw [hs, hs_append q _ _ (by omega), ← hw]
  · rw [List.take_zero, List.drop_of_length_le (by rw [hl]; omega)]

/-- What Add gives: nothing; the State has the bytes. -/
def AddPost (w : World) (g : Nat) (m : List UInt8) (e : Ending) (w' : World) : Prop := e = .returned (.tuple #[]) ∧ St w' g m ∧ w.grownBy w' (some g) ∧ Tabs w'
theorem Tabs.but {w w' : World} {g : Nat} (h : Tabs w) (hb : w.grownBy w' (some g)) (hg : 3 ≤ g) : Tabs w' := h.keep fun b hb2 => hb.block b (by have := h.size; omega) (fun e => by injection e; omega)

/-- A round of Add: how the State stands behind it. -/
theorem add_next {w3 : World} {g k t a N : Nat} {m l q buf buf2 : List UInt8} {s s' : W8} (hq : q = m ++ l.take k) (hN : N = q.length) (ha : a = q.length % 64) (ht : t = Nat.min (l.length - k) (64 - a)) (hs1 : s = hs q (q.length / 64))
    (hb64 : buf.length = 64) (hbuf : buf.take (q.length % 64) = q.drop (64 * (q.length / 64))) (hbuf2 : buf2 = splice buf a ((l.drop k).take t)) (hb2 : buf2.length = 64)
    (hs' : (a + t < 64 ∧ s' = s) ∨ (a + t = 64 ∧ s' = blk s buf2)) (hbl : Bl w3 g (stc s' buf2 (N + t)) 153) : St w3 g (m ++ l.take (k + t)) := by
  have e : m ++ l.take (k + t) = q ++ (l.drop k).take t := by rw [hq, List.take_add, List.append_assoc]
  have hr : (l.drop k).length = l.length - k := by simp
  have htr : t ≤ l.length - k := by rw [ht]; exact Nat.min_le_left ..
  have hl : (q ++ (l.drop k).take t).length = N + t := by simp; omega
  subst ha
  rw [e]
  rcases hs' with ⟨h1, h2⟩ | ⟨h1, h2⟩
  · obtain ⟨e1, e2⟩ := step_part q (l.drop k) buf t hb64 hbuf (by rw [hr]; exact ht) h1
    refine ⟨buf2, hb2, by rw [hbuf2]; exact e2, ?_⟩
    rw [e1, hl, ← hs1, ← h2]
    exact hbl
  · obtain ⟨e1, e2⟩ := step_full q (l.drop k) buf t hb64 hbuf (by rw [hr]; exact ht) h1
    refine ⟨buf2, hb2, by rw [hbuf2]; exact e2, ?_⟩
    rw [e1, hl, ← hs1, ← hbuf2, ← h2]
    exact hbl
/-- What a round of Add's loop begins with. -/
def AddR (w : World) (g B : Nat) (m l : List UInt8) (v : Value) (wr : World) : Prop :=
  ∃ (k : Nat) (A' : Option Addr) (c' : Nat), k ≤ l.length ∧ v = .slice A' (l.length - k) c' ∧ Sl wr B A' (l.length - k) (cb (l.drop k)) ∧ Off g (l.length - k) A' ∧ l.length - k ≤ c' ∧ (A' = none → c' = 0) ∧ St wr g (m ++ l.take k) ∧ w.grownBy wr (some g) ∧ Tabs wr
theorem addR_next {w w2 w3 : World} {g B k t c' : Nat} {m l : List UInt8} {A' A2 : Option Addr} (ht : t ≤ l.length - k) (hk : k ≤ l.length) (hA2 : A2 = if c' = t then A' else A'.map (·.add t)) (hsl : Sl w2 B A' (l.length - k) (cb (l.drop k))) (hB : B ≤ w2.heap.size) (hoff : Off g (l.length - k) A')
    (hcc : l.length - k ≤ c') (hnn : A' = none → c' = 0) (hg2 : w2.grownBy w3 (some g)) (hgr : w.grownBy w3 (some g)) (hT : Tabs w3) (hst : St w3 g (m ++ l.take (k + t))) : AddR w g B m l (.slice A2 (l.length - k - t) (c' - t)) w3 := by
  have h1 := sl_cut (k := t) (sl_off hsl hg2 hB hoff) ht hcc
  rw [← hA2, show (cb (l.drop k)).drop t = cb (l.drop (k + t)) by simp [cb, List.drop_drop]] at h1
  have e : l.length - k - t = l.length - (k + t) := by omega
  have h2 : Off g (l.length - k - t) A2 := by rw [hA2]; exact off_cut hoff
  rw [e] at h1 h2 ⊢
  refine ⟨k + t, A2, c' - t, by omega, rfl, h1, h2, by omega, ?_, hst, hgr, hT⟩
  intro h
  rw [h] at hA2
  split at hA2
  · rename_i hc; omega
  · rcases A' with _ | x
    · rw [hnn rfl]; omega
    · cases hA2

theorem Tabs.drew {w : World} (h : Tabs w) : Tabs w.drew := h.keep fun _ _ => rfl
set_option linter.unusedSimpArgs false in
set_option maxRecDepth 100000 in
set_option maxHeartbeats 1000000 in
theorem add_any (g : Nat) (m l : List UInt8) (w : World) (B : Nat) (A : Option Addr) (n c : Nat) (hst : St w g m) (h : Sl w B A n (cb l)) (hB : B ≤ w.heap.size) (ho : Off g n A) (hc : n ≤ c) (hA : A = none → c = 0)
    (hT : Tabs w) (hg : 3 ≤ g) (hm : m.length + l.length ≤ 1000000000) :
    Calls Tryz.prog 146 #[.pointer (some ⟨g, 0, none⟩), .slice A n c] w (AddPost w g (m ++ l)) := by
  have hn : n = l.length := by rw [← h.1, cb_len]
  subst hn
  go_enter Tryz.func146, Tryz.ntmps146
  go_wp2
  go_loopw [1] (fun v wr => AddR w g B m l v wr) (fun v _ => lenOf v)
  case atStart => exact ⟨0, A, c, Nat.zero_le _, rfl, h, ho, hc, hA, by simpa using hst, but_refl w g, hT⟩
  case round =>
    obtain ⟨k, A', c', hk, rfl, hsl, hoff, hcc, hnn, hst', hgr, hT'⟩ := hrel
    clear h ho hc hA hst hT
    by_cases hlt : k < l.length
    · obtain ⟨buf, hb64, hbuf, hbl⟩ := hst'
      obtain ⟨q, hq⟩ : ∃ q, q = m ++ l.take k := ⟨_, rfl⟩
      rw [← hq] at hbuf hbl
      have hql : q.length = m.length + k := by rw [hq]; simp; omega
      obtain ⟨N, hN⟩ : ∃ N, N = q.length := ⟨_, rfl⟩
      obtain ⟨a, ha⟩ : ∃ a, a = q.length % 64 := ⟨_, rfl⟩
      obtain ⟨t, ht⟩ : ∃ t, t = Nat.min (l.length - k) (64 - a) := ⟨_, rfl⟩
      obtain ⟨s, hs1⟩ : ∃ s, s = hs q (q.length / 64) := ⟨_, rfl⟩
      rw [← hs1, ← hN] at hbl
      have ha64 : a < 64 := by rw [ha]; omega
      have htl : t ≤ l.length - k := by rw [ht]; exact Nat.min_le_left ..
      have hta : t ≤ 64 - a := by rw [ht]; exact Nat.min_le_right ..
      have htm : t = l.length - k ∨ t = 64 - a := by rw [ht]; unfold Nat.min; omega
      have hNb : N ≤ 1000000000 := by omega
      have htp : 1 ≤ t := by omega
      have hcnt : wr.cell? ⟨g, 72, none⟩ = some (.int .u64 (N : Int)) := by rw [hbl.cell, stc_count _ _ _ hb64]
      have hmod : (N : Int) % 64 = (a : Int) := by omega
      obtain ⟨w2, hcp, hbl2, hgr2⟩ := run_copy_but (P := Tryz.prog) wr 22 22 3 5 Tryz.underlying22 u8_size g (8 + a) (64 - a) (64 - a) B A' (l.length - k) c' (cb (l.drop k)) hsl _ _ hbl (by rw [stc_len _ _ _ hb64]; omega) (cb_one _)
      rw [← ht] at hcp
      have htk : (cb (l.drop k)).take (64 - a) = cb ((l.drop k).take t) := by
        rw [show (cb (l.drop k)).take (64 - a) = cb ((l.drop k).take (64 - a)) by simp [cb]]
        congr 1
        rcases htm with e | e
        · rw [List.take_of_length_le (by simp; omega), List.take_of_length_le (by simp; omega)]
        · rw [e]
      rw [htk, stc_splice s buf _ N a hb64 (by simp; omega)] at hbl2
      obtain ⟨buf2, hbuf2⟩ : ∃ b, b = splice buf a ((l.drop k).take t) := ⟨_, rfl⟩
      have hb2l : buf2.length = 64 := by rw [hbuf2, splice_len _ _ _ (by simp; omega), hb64]
      rw [← hbuf2] at hbl2
      have hcnt2 : w2.cell? ⟨g, 72, none⟩ = some (.int .u64 (N : Int)) := by rw [hbl2.cell, stc_count _ _ _ hb2l]
      have hfr2 := hbl2.frozen 72
      have hbl3 := hbl2.set 72 (.int .u64 ((N + t : Nat) : Int))
      rw [stc_set s buf2 N (N + t) hb2l] at hbl3
      have hgr3 := but_setCell (but_trans hgr hgr2) 72 (.int .u64 ((N + t : Nat) : Int))
      have hsl2 := (sl_off hsl hgr2 (Nat.le_trans hB hgr.size) hoff)
      have HQ := Lib.hid hq
      have HN := Lib.hid hN
      have HAa := Lib.hid ha
      have HTt := Lib.hid ht
      have HS1 := Lib.hid hs1
      have HB64 := Lib.hid hb64
      have HBUF := Lib.hid hbuf
      have HBUF2 := Lib.hid hbuf2
      have HB2 := Lib.hid hb2l
      have HQL := Lib.hid hql
      have HCP := Lib.hid hcp
      clear hq hN ha ht hs1 hb64 hbuf hbuf2 hb2l htk hbl hbl2 hsl hql hcp
      go_wp2_with fail
      rw [run_slice_arr_from wr 124 5 g 8 64 Tryz.underlying124 u8_size .i64 _ a rfl ha64]
      go_wp2_with fail
      rw [HCP.out]
      have hcast : ((N + t : Nat) : Int) = (N : Int) + (t : Int) := by omega
      rw [hcast] at hbl3 hgr3
      clear hcast
      have hTabs3 : Tabs (w2.setCell ⟨g, 72, none⟩ (.int .u64 ((N : Int) + (t : Int)))) := hT'.but (but_setCell hgr2 72 _) hg
      have hBw2 : B ≤ w2.heap.size := Nat.le_trans (Nat.le_trans hB hgr.size) hgr2.size
      clear hgr hgr2
      by_cases hfull : a + t = 64
      · have hq64 : ((a : Int) + (t : Int) == 64) = true := by simp; omega
        have HF := Lib.hid hfull
        clear hfull
        go_wp2_with (refine wpList_slice_from rfl 22 _ _ rfl 5 Tryz.underlying22 u8_size A' (l.length - k) c' t .i64 _ rfl rfl rfl htl hcc hnn ?_; intro A2 HA2)
        obtain ⟨W3, hW3⟩ : ∃ W3, W3 = w2.setCell ⟨g, 72, none⟩ (.int .u64 ((N : Int) + (t : Int))) := ⟨_, rfl⟩
        rw [← hW3] at hTabs3 hbl3 hgr3 ⊢
        have hg23 : w2.grownBy W3 (some g) := by rw [hW3]; exact but_setCell (but_refl w2 g) 72 _
        have hwords : W3.rangeAt g 0 (us s.list) := by have := hbl3.range 0 8; rwa [stc_words] at this
        have hblock : W3.rangeAt g 8 (cb buf2) := by have := hbl3.range 8 64; rwa [stc_block _ _ _ HB2.out] at this
        have hsok : s.ok := by rw [HS1.out]; exact hs_ok _ _
        clear hW3
        refine wp_region_any (by kernel_rfl) ?_
        change wpAny _ _ _ _ _ _ _ (World.drew _)
        refine wpAny_take (i := 0) (v := (.pointer (some ⟨g, 0, none⟩))) rfl (by kernel_rfl) (by kernel_rfl) (by kernel_rfl) (fun _ _ _ h => h) (Or.inl ⟨by rfl, fun _ => by go_simp⟩) ?_
        simp only [List.getElem_toArray, List.getElem_cons_succ, List.getElem_cons_zero, Act.put, List.setIfInBounds_toArray, List.set_cons_zero, List.set_cons_succ]
        refine wpAny_take (i := 1) (v := (.pointer (some ⟨g, 0, none⟩))) rfl (by kernel_rfl) (by kernel_rfl) (by kernel_rfl) (fun _ _ _ h => h) (Or.inl ⟨by rfl, fun _ => by go_simp⟩) ?_
        simp only [List.getElem_toArray, List.getElem_cons_succ, List.getElem_cons_zero, Act.put, List.setIfInBounds_toArray, List.set_cons_zero, List.set_cons_succ]
        refine wpAny_take (i := 2) (v := (.pointer (some ⟨g, 0, none⟩))) rfl (by kernel_rfl) (by kernel_rfl) (by kernel_rfl) (fun _ _ _ h => h) (Or.inl ⟨by rfl, fun _ => by go_simp⟩) ?_
        simp only [List.getElem_toArray, List.getElem_cons_succ, List.getElem_cons_zero, Act.put, List.setIfInBounds_toArray, List.set_cons_zero, List.set_cons_succ]
        refine wpAny_take (i := 3) (v := (.pointer (some ⟨g, 0, none⟩))) rfl (by kernel_rfl) (by kernel_rfl) (by kernel_rfl) (fun _ _ _ h => h) (Or.inl ⟨by rfl, fun _ => by go_simp⟩) ?_
        simp only [List.getElem_toArray, List.getElem_cons_succ, List.getElem_cons_zero, Act.put, List.setIfInBounds_toArray, List.set_cons_zero, List.set_cons_succ]
        refine wpAny_take (i := 5) (v := (.pointer (some ⟨g, 0, none⟩))) rfl (by kernel_rfl) (by kernel_rfl) (by kernel_rfl) (fun _ _ _ h => h) (Or.inl ⟨by rfl, fun _ => by go_simp⟩) ?_
        simp only [List.getElem_toArray, List.getElem_cons_succ, List.getElem_cons_zero, Act.put, List.setIfInBounds_toArray, List.set_cons_zero, List.set_cons_succ]
        refine wpAny_take (i := 6) (v := (.pointer (some ⟨g, 0, none⟩))) rfl (by kernel_rfl) (by kernel_rfl) (by kernel_rfl) (fun _ _ _ h => h) (Or.inl ⟨by rfl, fun _ => by go_simp⟩) ?_
        simp only [List.getElem_toArray, List.getElem_cons_succ, List.getElem_cons_zero, Act.put, List.setIfInBounds_toArray, List.set_cons_zero, List.set_cons_succ]
        refine wpAny_take (i := 7) (v := (.pointer (some ⟨g, 8, none⟩))) rfl (by kernel_rfl) (by kernel_rfl) (by kernel_rfl) (fun _ _ _ h => h) (Or.inl ⟨by rfl, fun _ => by go_simp⟩) ?_
        simp only [List.getElem_toArray, List.getElem_cons_succ, List.getElem_cons_zero, Act.put, List.setIfInBounds_toArray, List.set_cons_zero, List.set_cons_succ]
        have hwords' : W3.drew.rangeAt g 0 (us s.list) := hwords
        have hblock' : W3.drew.rangeAt g 8 (cb buf2) := hblock
        clear hwords hblock
        refine wpAny_ready (rs := [4, 8]) (by kernel_rfl) (by simp) (AllReady.cons rfl (fun K hK => ?_) (AllReady.cons rfl (fun K hK => ?_) AllReady.nil))
        · simp only [List.getElem_toArray, List.getElem_cons_succ, List.getElem_cons_zero, Act.put, List.setIfInBounds_toArray, List.set_cons_zero, List.set_cons_succ]
          rw [if_pos (by rfl)]
          refine wp_load_mid 151 _ rfl g 0 rfl (us s.list) _ hwords' Tryz.underlying151 rfl size_state8 ?_
          refine hK _ _ ?_
          clear hK K
          simp only [List.getElem_toArray, List.getElem_cons_succ, List.getElem_cons_zero, Act.put, List.setIfInBounds_toArray, List.set_cons_zero, List.set_cons_succ]
          refine wpAny_ready (rs := [8]) (by kernel_rfl) (by simp) (AllReady.cons rfl (fun K hK => ?_) AllReady.nil)
          simp only [List.getElem_toArray, List.getElem_cons_succ, List.getElem_cons_zero, Act.put, List.setIfInBounds_toArray, List.set_cons_zero, List.set_cons_succ]
          rw [if_pos (by rfl)]
          refine wp_load_mid 124 _ rfl g 8 rfl (cb buf2) _ hblock' Tryz.underlying124 rfl (by rw [size_block, cb_len, HB2.out]) ?_
          refine hK _ _ ?_
          clear hK K
          simp only [List.getElem_toArray, List.getElem_cons_succ, List.getElem_cons_zero, Act.put, List.setIfInBounds_toArray, List.set_cons_zero, List.set_cons_succ]
          refine wpAny_ready (rs := [9]) (by kernel_rfl) (by simp) (AllReady.cons rfl (fun K hK => ?_) AllReady.nil)
          simp only [List.getElem_toArray, List.getElem_cons_succ, List.getElem_cons_zero, Act.put, List.setIfInBounds_toArray, List.set_cons_zero, List.set_cons_succ]
          go_simp
          refine (after_any s buf2 _ hsok HB2.out hTabs3.drew).mono ?_
          rintro e w4 ⟨rfl, hb4⟩
          refine hK _ _ ?_
          clear hK K
          have hbl4 := hbl3.drew.next hb4
          have hg34 : W3.grownBy w4 (some g) := but_trans (but_drewN (but_refl W3 g) 1) (but_below hb4)
          have hth : w4.there g 0 (us (blk s buf2).list).toArray.size := hbl4.there_ (by rw [List.size_toArray, us_len, list_len, stc_len _ _ _ HB2.out]; omega)
          have hg35 := Lib.hid (but_setCells hg34 0 (us (blk s buf2).list))
          have hbl5 := Lib.hid (stc_over s (blk s buf2) buf2 (N + t) ▸ Bl.sets g 153 (us (blk s buf2).list) 0 _ _ hbl4 (by rw [us_len, list_len, stc_len _ _ _ HB2.out]; omega))
          clear hwords' hblock' hbl4 hb4 hg34
          refine wpAny_take (i := 10) (v := (.pointer (some ⟨g, 0, none⟩))) rfl (by kernel_rfl) (by kernel_rfl) (by kernel_rfl) (fun _ _ _ h => h) (Or.inl ⟨by rfl, fun _ => by go_simp⟩) ?_
          simp only [List.getElem_toArray, List.getElem_cons_succ, List.getElem_cons_zero, Act.put, List.setIfInBounds_toArray, List.set_cons_zero, List.set_cons_succ]
          refine wpAny_take (i := 11) (v := (.pointer (some ⟨g, 0, none⟩))) rfl (by kernel_rfl) (by kernel_rfl) (by kernel_rfl) (fun _ _ _ h => h) (Or.inl ⟨by rfl, fun _ => by go_simp⟩) ?_
          simp only [List.getElem_toArray, List.getElem_cons_succ, List.getElem_cons_zero, Act.put, List.setIfInBounds_toArray, List.set_cons_zero, List.set_cons_succ]
          refine wpAny_ready (rs := [12]) (by kernel_rfl) (by simp) (AllReady.cons rfl (fun K hK => ?_) AllReady.nil)
          simp only [List.getElem_toArray, List.getElem_cons_succ, List.getElem_cons_zero, Act.put, List.setIfInBounds_toArray, List.set_cons_zero, List.set_cons_succ]
          rw [if_pos (by rfl)]
          refine wp_store_mid 151 _ _ rfl g 0 (us (blk s buf2).list).toArray rfl rfl hth size_state8 (all_oneCell_toArray (us_one _)) ?_
          refine hK _ _ ?_
          clear hK K
          refine wpAny_done (by kernel_rfl) ?_ _
          simp only [List.getElem_toArray, List.getElem_cons_succ, List.getElem_cons_zero, Act.put, List.setIfInBounds_toArray, List.set_cons_zero, List.set_cons_succ]
          go_wp2
          go_roundw
          case rel =>
            have hfin := addR_next htl hk HA2.out hsl2 hBw2 hoff hcc hnn (but_trans hg23 hg35.out) (but_trans hgr3 hg35.out) (hTabs3.but hg35.out hg) (add_next HQ.out HN.out HAa.out HTt.out HS1.out HB64.out HBUF.out HBUF2.out HB2.out (.inr ⟨HF.out, rfl⟩) hbl5.out)
            first | exact hfin | ((repeat apply Exists.intro); exact ⟨hfin, rfl⟩)
          case measure => simp [lenOf]; omega
        · simp only [List.getElem_toArray, List.getElem_cons_succ, List.getElem_cons_zero, Act.put, List.setIfInBounds_toArray, List.set_cons_zero, List.set_cons_succ]
          rw [if_pos (by rfl)]
          refine wp_load_mid 124 _ rfl g 8 rfl (cb buf2) _ hblock' Tryz.underlying124 rfl (by rw [size_block, cb_len, HB2.out]) ?_
          refine hK _ _ ?_
          clear hK K
          simp only [List.getElem_toArray, List.getElem_cons_succ, List.getElem_cons_zero, Act.put, List.setIfInBounds_toArray, List.set_cons_zero, List.set_cons_succ]
          refine wpAny_ready (rs := [4]) (by kernel_rfl) (by simp) (AllReady.cons rfl (fun K hK => ?_) AllReady.nil)
          simp only [List.getElem_toArray, List.getElem_cons_succ, List.getElem_cons_zero, Act.put, List.setIfInBounds_toArray, List.set_cons_zero, List.set_cons_succ]
          rw [if_pos (by rfl)]
          refine wp_load_mid 151 _ rfl g 0 rfl (us s.list) _ hwords' Tryz.underlying151 rfl size_state8 ?_
          refine hK _ _ ?_
          clear hK K
          simp only [List.getElem_toArray, List.getElem_cons_succ, List.getElem_cons_zero, Act.put, List.setIfInBounds_toArray, List.set_cons_zero, List.set_cons_succ]
          refine wpAny_ready (rs := [9]) (by kernel_rfl) (by simp) (AllReady.cons rfl (fun K hK => ?_) AllReady.nil)
          simp only [List.getElem_toArray, List.getElem_cons_succ, List.getElem_cons_zero, Act.put, List.setIfInBounds_toArray, List.set_cons_zero, List.set_cons_succ]
          go_simp
          refine (after_any s buf2 _ hsok HB2.out hTabs3.drew).mono ?_
          rintro e w4 ⟨rfl, hb4⟩
          refine hK _ _ ?_
          clear hK K
          have hbl4 := hbl3.drew.next hb4
          have hg34 : W3.grownBy w4 (some g) := but_trans (but_drewN (but_refl W3 g) 1) (but_below hb4)
          have hth : w4.there g 0 (us (blk s buf2).list).toArray.size := hbl4.there_ (by rw [List.size_toArray, us_len, list_len, stc_len _ _ _ HB2.out]; omega)
          have hg35 := Lib.hid (but_setCells hg34 0 (us (blk s buf2).list))
          have hbl5 := Lib.hid (stc_over s (blk s buf2) buf2 (N + t) ▸ Bl.sets g 153 (us (blk s buf2).list) 0 _ _ hbl4 (by rw [us_len, list_len, stc_len _ _ _ HB2.out]; omega))
          clear hwords' hblock' hbl4 hb4 hg34
          refine wpAny_take (i := 10) (v := (.pointer (some ⟨g, 0, none⟩))) rfl (by kernel_rfl) (by kernel_rfl) (by kernel_rfl) (fun _ _ _ h => h) (Or.inl ⟨by rfl, fun _ => by go_simp⟩) ?_
          simp only [List.getElem_toArray, List.getElem_cons_succ, List.getElem_cons_zero, Act.put, List.setIfInBounds_toArray, List.set_cons_zero, List.set_cons_succ]
          refine wpAny_take (i := 11) (v := (.pointer (some ⟨g, 0, none⟩))) rfl (by kernel_rfl) (by kernel_rfl) (by kernel_rfl) (fun _ _ _ h => h) (Or.inl ⟨by rfl, fun _ => by go_simp⟩) ?_
          simp only [List.getElem_toArray, List.getElem_cons_succ, List.getElem_cons_zero, Act.put, List.setIfInBounds_toArray, List.set_cons_zero, List.set_cons_succ]
          refine wpAny_ready (rs := [12]) (by kernel_rfl) (by simp) (AllReady.cons rfl (fun K hK => ?_) AllReady.nil)
          simp only [List.getElem_toArray, List.getElem_cons_succ, List.getElem_cons_zero, Act.put, List.setIfInBounds_toArray, List.set_cons_zero, List.set_cons_succ]
          rw [if_pos (by rfl)]
          refine wp_store_mid 151 _ _ rfl g 0 (us (blk s buf2).list).toArray rfl rfl hth size_state8 (all_oneCell_toArray (us_one _)) ?_
          refine hK _ _ ?_
          clear hK K
          refine wpAny_done (by kernel_rfl) ?_ _
          simp only [List.getElem_toArray, List.getElem_cons_succ, List.getElem_cons_zero, Act.put, List.setIfInBounds_toArray, List.set_cons_zero, List.set_cons_succ]
          go_wp2
          go_roundw
          case rel =>
            have hfin := addR_next htl hk HA2.out hsl2 hBw2 hoff hcc hnn (but_trans hg23 hg35.out) (but_trans hgr3 hg35.out) (hTabs3.but hg35.out hg) (add_next HQ.out HN.out HAa.out HTt.out HS1.out HB64.out HBUF.out HBUF2.out HB2.out (.inr ⟨HF.out, rfl⟩) hbl5.out)
            first | exact hfin | ((repeat apply Exists.intro); exact ⟨hfin, rfl⟩)
          case measure => simp [lenOf]; omega
      · have hq64 : ((a : Int) + (t : Int) == 64) = false := by simp; omega
        have hte : t = l.length - k := by omega
        have HTE := Lib.hid hte
        have HF : Hid (a + t < 64) := (by omega : a + t < 64)
        clear hfull hte
        go_wp2_with (refine wpList_slice_from rfl 22 _ _ rfl 5 Tryz.underlying22 u8_size A' (l.length - k) c' t .i64 _ rfl rfl rfl htl hcc hnn ?_; intro A2 HA2)
        go_roundw
        case rel => exact addR_next htl hk HA2.out hsl2 hBw2 hoff hcc hnn (but_setCell (but_refl w2 g) 72 _) hgr3 hTabs3 (add_next HQ.out HN.out HAa.out HTt.out HS1.out HB64.out HBUF.out HBUF2.out HB2.out (.inl ⟨HF.out, rfl⟩) hbl3)
        case measure => simp [lenOf]; omega
    · have HK : Hid (k = l.length) := (by omega : k = l.length)
      have hz : l.length - k = 0 := by omega
      rw [hz]
      go_wp2
      go_end0
      refine ⟨rfl, ?_, hgr, hT'⟩
      rw [HK.out, List.take_length] at hst'
      exact hst'

end Go.Proofs.YtlnoopmblmkgkaaGreatDoor

namespace Go.Proofs.YtlnoopmblmkgkaaGreatDoor
set_option maxRecDepth 100000
open Go.RowKit

theorem zero_sum : (Tryz.prog.info? 143).map (·.zero) = some (some (.agg (zeros .u8 32).toArray)) := by kernel_rfl
theorem built_sum : Tryz.prog.built 143 [] = some (zeros .u8 32).toArray := by kernel_rfl
theorem size_sum : (Tryz.prog.info? 143).map (·.size) = some 32 := by kernel_rfl
set_option linter.unusedSimpArgs false in
set_option maxRecDepth 100000 in
set_option maxHeartbeats 1000000 in
theorem sum_any (g : Nat) (m : List UInt8) (w : World) (hst : St w g m) (hT : Tabs w) (hm : m.length ≤ 100000000) :
    Calls Tryz.prog 148 #[.pointer (some ⟨g, 0, none⟩)] w fun e w' => e = .returned (.agg (cb (sha m)).toArray) ∧ Below w.heap.size w w' := by
  have HST := Lib.hid hst
  obtain ⟨buf, h1, h2, h3⟩ := hst
  have H1 := Lib.hid h1
  have H2 := Lib.hid h2
  clear h1 h2
  obtain ⟨C, hC⟩ : ∃ C, C = stc (hs m (m.length / 64)) buf m.length := ⟨_, rfl⟩
  have hl : C.length = 73 := by rw [hC, stc_len _ _ _ H1.out]
  have ho : ∀ v ∈ C, v.oneCell' = true := by rw [hC]; exact stc_one _ _ _
  have hcnt : C[72]? = some (.int .u64 (m.length : Int)) := by rw [hC]; exact stc_count _ _ _ H1.out
  rw [← hC] at h3
  have HC := Lib.hid hC
  have HL := Lib.hid hl
  have HO := Lib.hid ho
  have HCNT := Lib.hid hcnt
  clear hC hl ho hcnt
  have hz := stc_len ⟨0, 0, 0, 0, 0, 0, 0, 0⟩ (List.replicate 64 0) 0 (by simp)
  obtain ⟨Z, hZ⟩ : ∃ Z, Z = stc ⟨0, 0, 0, 0, 0, 0, 0, 0⟩ (List.replicate 64 0) 0 := ⟨_, rfl⟩
  have hzs := zero_state
  rw [← hZ] at hz hzs
  have HZ := Lib.hid hz
  have HZS := Lib.hid hzs
  clear hZ hz hzs
  have hgl := h3.lt
  obtain ⟨b0, b1, hsz, hb0⟩ := sum_start w (zeros .u8 32) 143 C Z 153 (by rw [HL.out, HZ.out])
  obtain ⟨W1, hW1⟩ : ∃ W, W = ((w.alloc (.cells (zeros .u8 32).toArray 143)).alloc (.cells Z.toArray 153)).setCells (w.heap.size + 1) 0 C := ⟨_, rfl⟩
  rw [← hW1] at b0 b1 hsz hb0
  have hcw : W1.cell? ⟨g, 72, none⟩ = some (.int .u64 (m.length : Int)) := by rw [(h3.below hb0 hgl).cell]; exact HCNT.out
  have HSZ := Lib.hid hsz
  have HTT := Lib.hid hT
  have HW1 : Hid (W1 = ((w.alloc (.cells (zeros .u8 32).toArray 143)).alloc (.cells Z.toArray 153)).setCells (w.alloc (.cells (zeros .u8 32).toArray 143)).heap.size 0 C) := by unfold Hid; rw [hW1, alloc_size]
  clear hsz hT hW1
  go_enter Tryz.func148, Tryz.ntmps148
  go_wp2_with (first
    | (refine wpList_alloc_zero rfl 143 rfl (zeros .u8 32) zero_sum ?_)
    | (refine wpList_load_mid rfl 153 _ rfl _ _ rfl C _ (h3.alloc _).whole Tryz.underlying153 rfl (by rw [size_state, HL.out]) ?_)
    | (refine wpList_alloc_zero rfl 153 rfl Z HZS.out ?_)
    | (refine wpList_store_mid rfl 153 _ _ rfl _ _ C.toArray rfl rfl (Bl.there_ (Bl.new _ Z 153) (by simp [HL.out, HZ.out])) (by rw [size_state, List.size_toArray, HL.out]) (all_oneCell_toArray HO.out) ?_; change wpList _ _ _ _ _ (World.setCells ((w.alloc (.cells (zeros .u8 32).toArray 143)).alloc (.cells Z.toArray 153)) (w.alloc (.cells (zeros .u8 32).toArray 143)).heap.size 0 C); rw [← HW1.out]))
  have hst1 : St W1 (w.heap.size + 1) m := ⟨buf, H1.out, H2.out, by rw [← HC.out]; exact b1⟩
  have hT1 : Tabs W1 := HTT.out.next hb0
  clear hcw b1 h3
  refine (pad_any m.length _ (by omega)).mono ?_
  rintro e w2 ⟨A2, c2, rfl, hnew⟩
  have hst2 := hst1.next hnew.below
  have hT2 := hT1.next hnew.below
  have hoff : Off (w.heap.size + 1) (padZ m.length + 9) A2 := own_off hnew.own (by rw [HSZ.out]; omega)
  have hpl := pad_len m.length
  have hzl := padZ_lt m.length
  have h2g : 3 ≤ w.heap.size + 1 := by have := HTT.out.size; omega
  have HPL := Lib.hid hpl
  clear hst1 hT1 hpl
  go_wp2_with fail
  refine (add_any (w.heap.size + 1) m (pad m.length) _ _ A2 _ c2 hst2 hnew.sl (Nat.le_refl _) hoff (own_cap hnew.own) hnew.none_ hT2 h2g (by rw [HPL.out]; omega)).mono ?_
  rintro e w3 ⟨rfl, hst3, hgr3, hT3⟩
  have hsz3 : w.heap.size + 2 ≤ w3.heap.size := by have h1 := hnew.below.size; have h2 := hgr3.size; have h3 := HSZ.out; omega
  have b03 : Bl w3 w.heap.size (zeros .u8 32) 143 := (b0.next hnew.below).grown hgr3 (by simp)
  have hb3 : Below w.heap.size w w3 := below_but (hb0.trans (hnew.below.mono (by rw [HSZ.out]; omega))) hgr3 (by have h1 := hnew.below.size; have h3 := HSZ.out; omega) (by omega)
  obtain ⟨buf3, h31, h32, h33⟩ := hst3
  obtain ⟨R, hR⟩ : ∃ R, R = hs (m ++ pad m.length) ((m ++ pad m.length).length / 64) := ⟨_, rfl⟩
  rw [← hR] at h33
  obtain ⟨D, hD⟩ : ∃ D, D = stc R buf3 (m ++ pad m.length).length := ⟨_, rfl⟩
  rw [← hD] at h33
  have hwd : (D.drop 0).take 8 = us R.list := by rw [hD]; exact stc_words _ _ _
  have HSH : Hid (sha m = out R.list) := by unfold Hid sha padded; rw [hR]
  have HWD := Lib.hid hwd
  clear hR hD hwd h32 h31 hst2 hT2 hoff hnew hgr3 b0 hb0
  obtain ⟨W4, hW4⟩ : ∃ W, W = (w3.alloc (.cells (zeros .u8 32).toArray 143)).setCells w3.heap.size 0 (zeros .u8 32) := ⟨_, rfl⟩
  have b4 : Bl W4 w3.heap.size (zeros .u8 32) 143 := by rw [hW4]; exact (Bl.new w3 _ _).over rfl
  have b04 : Bl W4 w.heap.size (zeros .u8 32) 143 := by rw [hW4]; exact (b03.alloc _).sets_other (by omega) _ _
  have bD4 : Bl W4 (w.heap.size + 1) D 153 := by rw [hW4]; exact (h33.alloc _).sets_other (by omega) _ _
  have hb4 : Below w.heap.size w W4 := by rw [hW4]; exact below_setCells (hb3.alloc (by omega) _) (by omega) _ _
  have hrg : W4.rangeAt (w.heap.size + 1) 0 (us R.list) := by have := bD4.range 0 8; rwa [HWD.out] at this
  have HW4 := Lib.hid hW4
  clear hW4 b03 h33 hb3 bD4
  go_wp2_with (first
    | (refine wpList_build_to rfl 143 _ rfl (zeros .u8 32) built_sum ?_)
    | (refine wpList_alloc_zero rfl 143 rfl (zeros .u8 32) zero_sum ?_)
    | (refine wpList_store_mid rfl 143 _ _ rfl _ _ (zeros .u8 32).toArray rfl rfl (Bl.there_ (Bl.new _ (zeros .u8 32) 143) (by simp [zeros])) (by rw [size_sum, List.size_toArray, zeros_len]) (all_oneCell_toArray (zeros_one _ _)) ?_; change wpList _ _ _ _ _ (World.setCells (w3.alloc (.cells (zeros .u8 32).toArray 143)) w3.heap.size 0 (zeros .u8 32)); rw [← HW4.out])
    | (refine wpList_load_mid rfl 151 _ rfl _ _ rfl (us R.list) _ hrg Tryz.underlying151 rfl size_state8 ?_))
  have hshl := sha_len m
  have hrl : R.list.length = 8 := rfl
  have HSHL := Lib.hid hshl
  clear hshl hrl hrg
  go_loopw [22] (fun i wr => ∃ k : Nat, k ≤ 8 ∧ i = .int .i64 k ∧ Bl wr w.heap.size (zeros .u8 32) 143 ∧ Bl wr w3.heap.size (cb (upTo (sha m) (4 * k))) 143 ∧ Below w.heap.size w wr) (fun i _ => 8 - (intOf i).toNat)
  case atStart => exact ⟨0, by omega, rfl, b04, by rw [Nat.mul_zero, upTo_zero, HSHL.out, cb_zeros]; exact b4, hb4⟩
  case round =>
    clear b04 b4 hb4
    obtain ⟨k, hk, rfl, b0, b4, hb⟩ := hrel
    by_cases hlt : k < 8
    · obtain ⟨x, hx⟩ : ∃ x, x = R.list.getD k 0 := ⟨_, rfl⟩
      have hv : (us R.list)[k]? = some (.int .u32 (x : Int)) := by rw [us_at (by rw [list_len]; exact hlt), hx]
      have HX := Lib.hid hx
      have HV := Lib.hid hv
      clear hx hv
      have hsl4 := run_slice_arr_from (P := Tryz.prog) (t := 143) (e := 5) (g := w3.heap.size) (o := 0) (n := 32) (ht := Tryz.underlying143) (he := u8_size) (kl := .i64) (L := 4 * (k : Int)) (l := 4 * k) (eL := by omega) (h3 := by omega)
      have HSL := Lib.hid hsl4
      clear hsl4
      have x4 : IntKind.i64.wrap (4 * (k : Int)) = 4 * (k : Int) := IntWalk.i64_in _ (by omega)
      go_wp2_with fail
      rw [run_index_agg wr 151 81 8 .i64 .u32 Tryz.underlying151 Tryz.underlying81 u32_size (us R.list) _ k (.int .u32 (x : Int)) rfl hlt HV.out]
      go_wp2_with fail
      refine wp_region_any (by kernel_rfl) ?_
      change wpAny _ _ _ _ _ _ _ (World.drew _)
      refine wpAny_take (i := 0) (v := (.int .i64 (k : Int))) rfl (by kernel_rfl) (by kernel_rfl) (by kernel_rfl) (fun _ _ _ h => h) (Or.inl ⟨by rfl, fun _ => by go_simp⟩) ?_
      simp only [List.getElem_toArray, List.getElem_cons_succ, List.getElem_cons_zero, Act.put, List.setIfInBounds_toArray, List.set_cons_zero, List.set_cons_succ]
      refine wpAny_take (i := 1) (v := (.int .i64 (4 * (k : Int)))) rfl (by kernel_rfl) (by kernel_rfl) (by kernel_rfl) (fun _ _ _ h => h) (Or.inl ⟨by rfl, fun _ => by go_simp⟩) ?_
      simp only [List.getElem_toArray, List.getElem_cons_succ, List.getElem_cons_zero, Act.put, List.setIfInBounds_toArray, List.set_cons_zero, List.set_cons_succ]
      refine wpAny_take (i := 2) (v := (.slice (some ⟨w3.heap.size, 4 * k, none⟩) (32 - 4 * k) (32 - 4 * k))) rfl (by kernel_rfl) (by kernel_rfl) (by kernel_rfl) (fun _ _ _ h => h) (Or.inl ⟨by rfl, fun _ => by go_simp; rw [HSL.out, Nat.zero_add]; rfl⟩) ?_
      simp only [List.getElem_toArray, List.getElem_cons_succ, List.getElem_cons_zero, Act.put, List.setIfInBounds_toArray, List.set_cons_zero, List.set_cons_succ]
      refine wpAny_take (i := 3) (v := (.int .u32 (x : Int))) rfl (by kernel_rfl) (by kernel_rfl) (by kernel_rfl) (fun _ _ _ h => h) (Or.inl ⟨by rfl, fun _ => by go_simp⟩) ?_
      simp only [List.getElem_toArray, List.getElem_cons_succ, List.getElem_cons_zero, Act.put, List.setIfInBounds_toArray, List.set_cons_zero, List.set_cons_succ]
      clear x4
      refine wpAny_ready (rs := [4]) (by kernel_rfl) (by simp) (AllReady.cons rfl (fun K hK => ?_) AllReady.nil)
      simp only [List.getElem_toArray, List.getElem_cons_succ, List.getElem_cons_zero, Act.put, List.setIfInBounds_toArray, List.set_cons_zero, List.set_cons_succ]
      go_simp
      refine (store_any x false _).mono ?_
      rintro e w5 ⟨A5, c5, rfl, hnew5⟩
      refine hK _ _ ?_
      clear hK K
      have b05 := b0.drew.next hnew5.below
      have b45 := b4.drew.next hnew5.below
      have hb5 : Below w.heap.size w w5 := hb.drew.trans (hnew5.below.mono (by have := hb.size; simp; omega))
      obtain ⟨w6, hcp, b46, hg6⟩ := run_copy_but (P := Tryz.prog) w5 22 22 3 5 Tryz.underlying22 u8_size w3.heap.size (4 * k) (32 - 4 * k) (32 - 4 * k) _ A5 4 c5 (cb (stored x false)) hnew5.sl _ _ b45 (by rw [cb_len, upTo_len _ _ (by rw [HSHL.out]; omega), HSHL.out]; omega) (cb_one _)
      have hpart : stored x false = ((sha m).drop (4 * k)).take (stored x false).length := by rw [stored_len, HSH.out, out_part _ _ (by rw [list_len]; exact hlt), HX.out]
      rw [List.take_of_length_le (by rw [cb_len, stored_len]; omega), ← cb_splice, upTo_splice (sha m) (stored x false) (4 * k) hpart (by rw [stored_len, HSHL.out]; omega), stored_len] at b46
      have b06 := b05.grown hg6 (by simp; omega)
      have hb6 : Below w.heap.size w w6 := below_but hb5 hg6 (by have := hb5.size; omega) (by omega)
      have HCP := Lib.hid hcp
      clear hcp hpart b05 b45 hb5 hg6 hnew5
      refine wpAny_ready (rs := [5]) (by kernel_rfl) (by simp) (AllReady.cons rfl (fun K hK => ?_) AllReady.nil)
      simp only [List.getElem_toArray, List.getElem_cons_succ, List.getElem_cons_zero, Act.put, List.setIfInBounds_toArray, List.set_cons_zero, List.set_cons_succ]
      go_simp
      rw [HCP.out]
      go_simp
      refine hK _ _ ?_
      clear hK K
      refine wpAny_done (by kernel_rfl) ?_ _
      go_wp2
      go_roundw
      case rel => exact ⟨k + 1, by omega, by go_num, b06, by rw [show 4 * (k + 1) = 4 * k + 4 by omega]; exact b46, hb6⟩
      case measure => simp [intOf]; omega
    · have HK : Hid (k = 8) := (by omega : k = 8)
      have hall : Bl wr w3.heap.size (cb (sha m)) 143 := by rw [HK.out, show 4 * 8 = (sha m).length from HSHL.out.symm, upTo_all] at b4; exact b4
      clear b4
      go_wp2_with (first
        | (refine wpList_load_mid rfl 143 _ rfl _ _ rfl (cb (sha m)) _ hall.whole Tryz.underlying143 rfl (by rw [size_sum, cb_len, HSHL.out]) ?_)
        | (refine wpList_store_mid rfl 143 _ _ rfl _ _ (cb (sha m)).toArray rfl rfl (b0.there_ (by simp [zeros, cb_len, HSHL.out])) (by rw [size_sum, List.size_toArray, cb_len, HSHL.out]) (all_oneCell_toArray (cb_one _)) ?_))
      have hc := b0.over (vs := cb (sha m)) (by rw [cb_len, HSHL.out, zeros_len])
      exact ret_row Tryz.results148 rfl hc Tryz.underlying143 rfl (by rw [size_sum, cb_len, HSHL.out]) rfl ⟨rfl, below_setCells hb (Nat.le_refl _) _ _⟩

end Go.Proofs.YtlnoopmblmkgkaaGreatDoor

namespace Go.Proofs.YtlnoopmblmkgkaaGreatDoor
set_option maxRecDepth 100000
open Go.RowKit

set_option maxHeartbeats 600000 in
theorem of_any (ls : List (List UInt8)) (w : World) (B : Nat) (A : Option Addr) (n c : Nat) (hp : Parts w B A n ls) (hB : B ≤ w.heap.size) (hn : n ≤ 1000000000) (hT : Tabs w) (hm : ls.flatten.length ≤ 100000000) :
    Calls Tryz.prog 144 #[.slice A n c] w fun e w' => e = .returned (.agg (cb (sha ls.flatten)).toArray) ∧ Below w.heap.size w w' := by
  have HSHL := Lib.hid (sha_len ls.flatten)
  have hpl := hp.len
  subst hpl
  have HTT := Lib.hid hT
  clear hT
  go_enter Tryz.func144, Tryz.ntmps144
  go_wp2_with (refine wpList_alloc_zero rfl 143 rfl (zeros .u8 32) zero_sum ?_)
  refine (new_any _ (HTT.out.alloc _)).mono ?_
  rintro e w1 ⟨gs, rfl, hgs, hst, hb1⟩
  have hgs' : w.heap.size + 1 ≤ gs := by simpa using hgs
  have b0 := (Bl.new w (zeros .u8 32) 143).next hb1
  have hb0 : Below w.heap.size w w1 := ((Below.refl _ w).alloc (Nat.le_refl _) _).trans (hb1.mono (by simp))
  have hT1 := HTT.out.next hb0
  have h2g : 3 ≤ gs := by have := HTT.out.size; omega
  clear hb1 hgs
  go_wp2
  go_loopw [9] (fun i wr => ∃ k : Nat, k ≤ ls.length ∧ i = .int .i64 k ∧ St wr gs (ls.take k).flatten ∧ Bl wr w.heap.size (zeros .u8 32) 143 ∧ Below w.heap.size w wr ∧ Tabs wr) (fun i _ => ls.length - (intOf i).toNat)
  case atStart => exact ⟨0, by omega, rfl, hst, b0, hb0, hT1⟩
  case round =>
    clear hst b0 hb0 hT1
    obtain ⟨k, hk, rfl, hst, b0, hb, hT1⟩ := hrel
    by_cases hlt : k < ls.length
    · have hp2 := hp.below (hb.mono hB)
      obtain ⟨ad, A', c', rfl, hcell, hsl, hcc, hnn⟩ := hp2.at_ hlt
      have hfl := flat_take ls k hlt
      have hle := flat_le ls (k + 1)
      rw [hfl, List.length_append] at hle
      have hbs := hb.size
      have HF := Lib.hid hfl
      clear hp2 hfl
      go_wp2_with fail
      refine (add_any gs (ls.take k).flatten ls[k] _ _ A' _ c' hst hsl (by omega) (hsl.off (by omega)) hcc hnn hT1 h2g (by omega)).mono ?_
      rintro e w2 ⟨rfl, hst2, hg2, hT2⟩
      have b02 := b0.grown hg2 (by simp; omega)
      have hb2 := below_but hb hg2 hbs (by omega)
      rw [← HF.out] at hst2
      clear hst hsl hT1 b0 hb hg2
      go_wp2
      go_roundw
      case rel => exact ⟨k + 1, by omega, by go_num, hst2, b02, hb2, hT2⟩
      case measure => simp [intOf]; omega
    · have HK : Hid (k = ls.length) := (by omega : k = ls.length)
      rw [HK.out, List.take_length] at hst
      go_wp2_with fail
      refine (sum_any gs ls.flatten _ hst hT1 hm).mono ?_
      rintro e w2 ⟨rfl, hb2⟩
      have b02 := b0.next hb2
      have hb3 := hb.trans (hb2.mono hb.size)
      go_wp2_with (refine wpList_store_mid rfl 143 _ _ rfl _ _ (cb (sha ls.flatten)).toArray rfl rfl (b02.there_ (by simp [zeros, cb_len, HSHL.out])) (by rw [size_sum, List.size_toArray, cb_len, HSHL.out]) (all_oneCell_toArray (cb_one _)) ?_)
      have hc := b02.over (vs := cb (sha ls.flatten)) (by rw [cb_len, HSHL.out, zeros_len])
      exact ret_row Tryz.results144 rfl hc Tryz.underlying143 rfl (by rw [size_sum, cb_len, HSHL.out]) rfl ⟨rfl, below_setCells hb3 (Nat.le_refl _) _ _⟩

theorem add_nil (v : Value) (w : World) : Calls Tryz.prog 146 #[.pointer none, v] w fun e w' => e = .returned (.tuple #[]) ∧ w = w' := by
  go_enter Tryz.func146, Tryz.ntmps146
  go_wp2
  exact bodyPost_ret (results_none rfl _ _ _) rfl ⟨rfl, rfl⟩

theorem sum_nil (w : World) (hT : Tabs w) : Calls Tryz.prog 148 #[.pointer none] w fun e w' => e = .returned (.agg (cb (sha [])).toArray) ∧ Below w.heap.size w w' := by
  have HSHL := Lib.hid (sha_len [])
  have HTT := Lib.hid hT
  clear hT
  go_enter Tryz.func148, Tryz.ntmps148
  go_wp2_with (refine wpList_alloc_zero rfl 143 rfl (zeros .u8 32) zero_sum ?_)
  refine (of_any [] _ 0 none 0 0 ⟨[], Sl.nil_, rfl, fun j h => absurd h (by simp)⟩ (Nat.zero_le _) (by omega) (HTT.out.alloc _) (by simp)).mono ?_
  rintro e w1 ⟨rfl, hb1⟩
  rw [List.flatten_nil]
  have b0 := (Bl.new w (zeros .u8 32) 143).next hb1
  have hb0 : Below w.heap.size w w1 := ((Below.refl _ w).alloc (Nat.le_refl _) _).trans (hb1.mono (by simp))
  clear hb1
  obtain ⟨S, hS⟩ : ∃ S, S = sha [] := ⟨_, rfl⟩
  rw [← hS] at HSHL ⊢
  have HS := Lib.hid hS
  clear hS
  go_wp2_with (refine wpList_store_mid rfl 143 _ _ rfl _ _ (cb S).toArray rfl rfl (b0.there_ (by simp [zeros, cb_len, HSHL.out])) (by rw [size_sum, List.size_toArray, cb_len, HSHL.out]) (all_oneCell_toArray (cb_one _)) ?_)
  have hc := b0.over (vs := cb S) (by rw [cb_len, HSHL.out, zeros_len])
  exact ret_row Tryz.results148 rfl hc Tryz.underlying143 rfl (by rw [size_sum, cb_len, HSHL.out]) rfl ⟨by rw [HS.out], below_setCells hb0 (Nat.le_refl _) _ _⟩

end Go.Proofs.YtlnoopmblmkgkaaGreatDoor

namespace Go.Proofs.YtlnoopmblmkgkaaGreatDoor
set_option maxRecDepth 100000
open Go.ChangeShapes Go.WideShapes Go.ChangeAt Go.RowKit

/-- The listed tables, as the rows list them. -/
def laid2 : List (String × DataW Unit) := [("hypogeum/digest.roundConstants", Rows.laid_hypogeum_digest_roundConstants), ("hypogeum/digest.startWords", Rows.laid_hypogeum_digest_startWords)]
theorem gK : Tryz.prog.globalNamed "hypogeum/digest.roundConstants" = some 2 := by kernel_rfl
theorem gS : Tryz.prog.globalNamed "hypogeum/digest.startWords" = some 0 := by kernel_rfl
theorem tK : (Tryz.prog.globals[2]?).map (·.type) = some 213 := by kernel_rfl
theorem tS : (Tryz.prog.globals[0]?).map (·.type) = some 151 := by kernel_rfl
theorem cells_u32 : Tryz.prog.cellsOf 81 = 1 := by kernel_rfl
theorem cells_64 : Tryz.prog.cellsOf 213 = 64 := by kernel_rfl
theorem cells_8 : Tryz.prog.cellsOf 151 = 8 := by kernel_rfl
theorem laidK : (Rows.laid_hypogeum_digest_roundConstants : DataW Unit) = Lib.tabData .u32 (shaK.map fun x : Nat => (x : Int)) := by kernel_rfl
theorem laidS : (Rows.laid_hypogeum_digest_startWords : DataW Unit) = Lib.tabData .u32 (shaS.list.map fun x : Nat => (x : Int)) := by kernel_rfl

theorem getD_cast (l : List Nat) (i : Nat) : (l.map fun x : Nat => (x : Int)).getD i 0 = ((l.getD i 0 : Nat) : Int) := by
  simp only [List.getD_eq_getElem?_getD, List.getElem?_map]
  cases l[i]? <;> rfl

theorem tabs_of_laid {W : World} (h : laidMetH Tryz.prog laid2 W) : Tabs W := by
  rw [MakeChecks.laidMetH_plain _ _ _ (by kernel_rfl)] at h
  unfold laid2 at h
  rw [laidK, laidS] at h
  have h1 := Lib.tabIs_of_head gK tK Tryz.underlying213 Tryz.underlying81 cells_u32 cells_64 h
  have h2 := Lib.tabIs_of_head gS tS Tryz.underlying151 Tryz.underlying81 cells_u32 cells_8 h.tail
  refine ⟨fun i hi => ?_, fun i hi => ?_⟩
  · rw [h1.cell gK i (by rw [List.length_map, shaK_len]; exact hi), getD_cast]
  · rw [h2.cell gS i (by rw [List.length_map, list_len]; exact hi), getD_cast]

theorem door_met (os : Os) (args : Array Value) : laidMetH Tryz.prog laid2 ((World.doorLaid Tryz.prog 32 os).forCall (fun _ _ => 0) ⟨#[], args, []⟩).memory :=
  laidMetH_of_parts3 (fuel := 8) (laidMet_of_run' 8 (by kernel_rfl) (by kernel_rfl)) (by kernel_rfl) (by kernel_rfl)

end Go.Proofs.YtlnoopmblmkgkaaGreatDoor
