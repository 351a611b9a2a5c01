/- SHA-256 as plain arithmetic over natural numbers and lists of bytes. No program is named here. -/
import Derived.Test.YtfmbilnbbpbpeaaDoorPure
namespace Go.Proofs.YtfmbilnbbpbpeaaDoor
open Go.RowKit

def ss0 (x : Nat) : Nat := rotN x 25 ^^^ rotN x 14 ^^^ x / 8
def ss1 (x : Nat) : Nat := rotN x 15 ^^^ rotN x 13 ^^^ x / 1024
def bs0 (x : Nat) : Nat := rotN x 30 ^^^ rotN x 19 ^^^ rotN x 10
def bs1 (x : Nat) : Nat := rotN x 26 ^^^ rotN x 21 ^^^ rotN x 7
theorem xor_lt32 {a b : Nat} (ha : a < 4294967296) (hb : b < 4294967296) : a ^^^ b < 4294967296 := Nat.xor_lt_two_pow (n := 32) ha hb
theorem and_lt32 {a b : Nat} (ha : a < 4294967296) : a &&& b < 4294967296 := Nat.lt_of_le_of_lt Nat.and_le_left ha
theorem ss0_lt (x : Nat) (h : x < 4294967296) : ss0 x < 4294967296 := xor_lt32 (xor_lt32 (rotN_lt x 25 h (by omega)) (rotN_lt x 14 h (by omega))) (by omega)
theorem ss1_lt (x : Nat) (h : x < 4294967296) : ss1 x < 4294967296 := xor_lt32 (xor_lt32 (rotN_lt x 15 h (by omega)) (rotN_lt x 13 h (by omega))) (by omega)
theorem bs0_lt (x : Nat) (h : x < 4294967296) : bs0 x < 4294967296 := xor_lt32 (xor_lt32 (rotN_lt x 30 h (by omega)) (rotN_lt x 19 h (by omega))) (rotN_lt x 10 h (by omega))
theorem bs1_lt (x : Nat) (h : x < 4294967296) : bs1 x < 4294967296 := xor_lt32 (xor_lt32 (rotN_lt x 26 h (by omega)) (rotN_lt x 21 h (by omega))) (rotN_lt x 7 h (by omega))

/-- The word t of a block. -/
def wd (b : List UInt8) (t : Nat) : Nat := loadV ((b.drop (4 * t)).take 4) false
theorem wd_lt (b : List UInt8) (t : Nat) : wd b t < 4294967296 := loadV_lt _ _
/-- The next word of a schedule. -/
def nxt (w : List Nat) (t : Nat) : Nat := (ss1 (w.getD (t - 2) 0) + w.getD (t - 7) 0 + ss0 (w.getD (t - 15) 0) + w.getD (t - 16) 0) % 4294967296
/-- The first t words of the schedule of a block. -/
def ws (b : List UInt8) : Nat → List Nat
  | 0 => []
  | t + 1 => ws b t ++ [if t < 16 then wd b t else nxt (ws b t) t]
theorem ws_len (b : List UInt8) (t : Nat) : (ws b t).length = t := by
  induction t with
  | zero => rfl
  | succ t ih => simp [ws, ih]
theorem ws_low (b : List UInt8) (t : Nat) (h : t < 16) : ws b (t + 1) = ws b t ++ [wd b t] := by rw [ws, if_pos h]
theorem ws_high (b : List UInt8) (t : Nat) (h : 16 ≤ t) : ws b (t + 1) = ws b t ++ [nxt (ws b t) t] := by rw [ws, if_neg (by omega)]
theorem ws_lt (b : List UInt8) (t : Nat) : ∀ x ∈ ws b t, x < 4294967296 := by
  induction t with
  | zero => intro x hx; simp [ws] at hx
  | succ t ih =>
    intro x hx
    rw [ws, List.mem_append] at hx
    rcases hx with hx | hx
    · exact ih x hx
    · simp only [List.mem_singleton] at hx
      subst hx
      split
      · exact wd_lt b t
      · exact Nat.mod_lt _ (by decide)
theorem getD_lt32 {l : List Nat} (h : ∀ x ∈ l, x < 4294967296) (i : Nat) : l.getD i 0 < 4294967296 := by
  rw [List.getD_eq_getElem?_getD]
  rcases Nat.lt_or_ge i l.length with hi | hi
  · rw [List.getElem?_eq_getElem hi]; exact h _ (List.getElem_mem hi)
  · rw [List.getElem?_eq_none hi]; decide

/-- Eight words. -/
structure W8 where
  (a b c d e f g h : Nat)
def W8.ok (s : W8) : Prop := s.a < 4294967296 ∧ s.b < 4294967296 ∧ s.c < 4294967296 ∧ s.d < 4294967296 ∧ s.e < 4294967296 ∧ s.f < 4294967296 ∧ s.g < 4294967296 ∧ s.h < 4294967296
def W8.list (s : W8) : List Nat := [s.a, s.b, s.c, s.d, s.e, s.f, s.g, s.h]
def tU (s : W8) (k w : Nat) : Nat := (s.h + bs1 s.e + ((s.e &&& s.f) ^^^ ((4294967295 - s.e) &&& s.g)) + k + w) % 4294967296
def tV (s : W8) : Nat := (bs0 s.a + ((s.a &&& s.b) ^^^ (s.a &&& s.c) ^^^ (s.b &&& s.c))) % 4294967296
/-- One round. -/
def rnd (s : W8) (k w : Nat) : W8 := ⟨(tU s k w + tV s) % 4294967296, s.a, s.b, s.c, (s.d + tU s k w) % 4294967296, s.e, s.f, s.g⟩
theorem tU_lt (s : W8) (k w : Nat) : tU s k w < 4294967296 := Nat.mod_lt _ (by decide)
theorem tV_lt (s : W8) : tV s < 4294967296 := Nat.mod_lt _ (by decide)
theorem rnd_ok (s : W8) (k w : Nat) (h : s.ok) : (rnd s k w).ok := by
  obtain ⟨h1, h2, h3, h4, h5, h6, h7, h8⟩ := h
  exact ⟨Nat.mod_lt _ (by decide), h1, h2, h3, Nat.mod_lt _ (by decide), h5, h6, h7⟩

theorem not32 (e : Nat) (h : e < 4294967296) : 4294967295 ^^^ e = 4294967295 - e := by
  apply Nat.eq_of_testBit_eq
  intro i
  rw [Nat.testBit_xor, show (4294967295 : Nat) = 2 ^ 32 - 1 by decide, Nat.testBit_two_pow_sub_one, show 2 ^ 32 - 1 - e = 2 ^ 32 - (e + 1) by omega, Nat.testBit_two_pow_sub_succ (by omega)]
  by_cases hi : i < 32
  · simp [hi]
  · have : e.testBit i = false := Nat.testBit_lt_two_pow (Nat.lt_of_lt_of_le h (Nat.pow_le_pow_right (n := 2) (by decide) (show 32 ≤ i by omega)))
    simp [hi, this]

/-- The rounds' numbers, and the words at the start. -/
def shaK : List Nat := [1116352408, 1899447441, 3049323471, 3921009573, 961987163, 1508970993, 2453635748, 2870763221,
  3624381080, 310598401, 607225278, 1426881987, 1925078388, 2162078206, 2614888103, 3248222580,
  3835390401, 4022224774, 264347078, 604807628, 770255983, 1249150122, 1555081692, 1996064986,
  2554220882, 2821834349, 2952996808, 3210313671, 3336571891, 3584528711, 113926993, 338241895,
  666307205, 773529912, 1294757372, 1396182291, 1695183700, 1986661051, 2177026350, 2456956037,
  2730485921, 2820302411, 3259730800, 3345764771, 3516065817, 3600352804, 4094571909, 275423344,
  430227734, 506948616, 659060556, 883997877, 958139571, 1322822218, 1537002063, 1747873779,
  1955562222, 2024104815, 2227730452, 2361852424, 2428436474, 2756734187, 3204031479, 3329325298]
def shaS : W8 := ⟨1779033703, 3144134277, 1013904242, 2773480762, 1359893119, 2600822924, 528734635, 1541459225⟩
theorem shaS_ok : shaS.ok := by unfold W8.ok shaS; decide
theorem shaK_len : shaK.length = 64 := by decide
theorem shaK_lt : ∀ x ∈ shaK, x < 4294967296 := by decide

/-- The words behind t rounds over a schedule. -/
def rnds (w : List Nat) (s : W8) : Nat → W8
  | 0 => s
  | t + 1 => rnd (rnds w s t) (shaK.getD t 0) (w.getD t 0)
theorem rnds_ok (w : List Nat) (s : W8) (h : s.ok) (t : Nat) : (rnds w s t).ok := by
  induction t with
  | zero => exact h
  | succ t ih => exact rnd_ok _ _ _ ih
def W8.plus (s r : W8) : W8 := ⟨(s.a + r.a) % 4294967296, (s.b + r.b) % 4294967296, (s.c + r.c) % 4294967296, (s.d + r.d) % 4294967296,
  (s.e + r.e) % 4294967296, (s.f + r.f) % 4294967296, (s.g + r.g) % 4294967296, (s.h + r.h) % 4294967296⟩
theorem plus_ok (s r : W8) : (s.plus r).ok := ⟨Nat.mod_lt _ (by decide), Nat.mod_lt _ (by decide), Nat.mod_lt _ (by decide), Nat.mod_lt _ (by decide), Nat.mod_lt _ (by decide), Nat.mod_lt _ (by decide), Nat.mod_lt _ (by decide), Nat.mod_lt _ (by decide)⟩
/-- The words behind a block. -/
def blk (s : W8) (b : List UInt8) : W8 := s.plus (rnds (ws b 64) s 64)
theorem blk_ok (s : W8) (b : List UInt8) : (blk s b).ok := plus_ok _ _
/-- The words behind the first n blocks of a text. -/
def hs (l : List UInt8) : Nat → W8
  | 0 => shaS
  | n + 1 => blk (hs l n) ((l.drop (64 * n)).take 64)
theorem hs_ok (l : List UInt8) (n : Nat) : (hs l n).ok := by
  cases n with
  | zero => exact shaS_ok
  | succ n => exact blk_ok _ _
theorem hs_append (l r : List UInt8) (n : Nat) (h : 64 * n ≤ l.length) : hs (l ++ r) n = hs l n := by
  induction n with
  | zero => rfl
  | succ n ih =>
    rw [hs, hs, ih (by omega), List.drop_append_of_le_length (by omega), List.take_append_of_le_length (by rw [List.length_drop]; omega)]

/-- How many noughts a text of n bytes is padded with. -/
def padZ (n : Nat) : Nat := (64 - (n % 64 + 9) % 64) % 64
theorem padZ_lt (n : Nat) : padZ n < 64 := Nat.mod_lt _ (by decide)
theorem padZ_iff (n k : Nat) (h : k ≤ padZ n) : (n + 1 + k) % 64 = 56 ↔ k = padZ n := by unfold padZ at *; omega
def pad (n : Nat) : List UInt8 := 128 :: (List.replicate (padZ n) 0 ++ told8 (8 * n))
theorem pad_len (n : Nat) : (pad n).length = padZ n + 9 := by simp [pad, told8_len]
theorem pad_whole (n : Nat) : (n + (pad n).length) % 64 = 0 := by rw [pad_len]; unfold padZ; omega
def padded (l : List UInt8) : List UInt8 := l ++ pad l.length
/-- The bytes of words, one behind the other. -/
def out (l : List Nat) : List UInt8 := l.flatMap fun x => stored x false
/-- The sum. -/
def sha (l : List UInt8) : List UInt8 := out (hs (padded l) ((padded l).length / 64)).list
theorem out_len (l : List Nat) : (out l).length = 4 * l.length := by
  unfold out
  induction l with
  | nil => rfl
  | cons x l ih => rw [List.flatMap_cons, List.length_append, ih, stored_len, List.length_cons]; omega
/-- The bytes of a sum while they are written, k words of them so far. -/
theorem out_part (l : List Nat) (k : Nat) (h : k < l.length) : ((out l).drop (4 * k)).take 4 = stored (l.getD k 0) false := by
  induction l generalizing k with
  | nil => simp at h
  | cons x l ih =>
    have e : out (x :: l) = stored x false ++ out l := by simp [out]
    rw [e]
    cases k with
    | zero => rw [Nat.mul_zero, List.drop_zero, List.take_append_of_le_length (by rw [stored_len]; omega), List.take_of_length_le (by rw [stored_len]; omega)]; rfl
    | succ k =>
      rw [List.drop_append, List.drop_of_length_le (by rw [stored_len]; omega), stored_len, List.nil_append, show 4 * (k + 1) - 4 = 4 * k by omega, ih k (by simpa using h)]
      rfl
theorem sha_len (l : List UInt8) : (sha l).length = 32 := by unfold sha; rw [out_len]; rfl

theorem sha_abc : (sha [97, 98, 99])[0]? = some 186 ∧ (sha [97, 98, 99])[1]? = some 120 ∧ (sha [97, 98, 99])[31]? = some 173 := by decide +kernel

end Go.Proofs.YtfmbilnbbpbpeaaDoor

