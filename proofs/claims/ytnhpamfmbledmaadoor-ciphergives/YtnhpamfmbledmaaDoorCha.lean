/- ChaCha20 on lists of numbers. No program is named here. -/
import Derived.Test.YtnhpamfmbledmaaDoorLA
namespace Go.Proofs.YtnhpamfmbledmaaDoor
open Go.RowKit

def add32 (a b : Nat) : Nat := (a + b) % 4294967296
theorem add32_lt (a b : Nat) : add32 a b < 4294967296 := Nat.mod_lt _ (by decide)
theorem xor32_lt {a b : Nat} (ha : a < 4294967296) (hb : b < 4294967296) : a ^^^ b < 4294967296 := Nat.xor_lt_two_pow (n := 32) ha hb

/-- Four words. -/
structure Q4 where
  a : Nat
  b : Nat
  c : Nat
  d : Nat
/-- A quarter round. -/
def qr (q : Q4) : Q4 :=
  let a1 := add32 q.a q.b
  let d1 := rotN (q.d ^^^ a1) 16
  let c1 := add32 q.c d1
  let b1 := rotN (q.b ^^^ c1) 12
  let a2 := add32 a1 b1
  let d2 := rotN (d1 ^^^ a2) 8
  let c2 := add32 c1 d2
  let b2 := rotN (b1 ^^^ c2) 7
  ⟨a2, b2, c2, d2⟩
def Q4.ok (q : Q4) : Prop := q.a < 4294967296 ∧ q.b < 4294967296 ∧ q.c < 4294967296 ∧ q.d < 4294967296
theorem qr_ok (q : Q4) (h : q.ok) : (qr q).ok := by
  obtain ⟨h1, h2, h3, h4⟩ := h
  have hd1 : rotN (q.d ^^^ add32 q.a q.b) 16 < 4294967296 := rotN_lt _ _ (xor32_lt h4 (add32_lt _ _)) (by omega)
  have hb1 : rotN (q.b ^^^ add32 q.c (rotN (q.d ^^^ add32 q.a q.b) 16)) 12 < 4294967296 := rotN_lt _ _ (xor32_lt h2 (add32_lt _ _)) (by omega)
  exact ⟨add32_lt _ _, rotN_lt _ _ (xor32_lt hb1 (add32_lt _ _)) (by omega), add32_lt _ _, rotN_lt _ _ (xor32_lt hd1 (add32_lt _ _)) (by omega)⟩

/-- All words are below 2^32. -/
def Wds (x : List Nat) : Prop := ∀ y ∈ x, y < 4294967296
theorem Wds.at_ {x : List Nat} (h : Wds x) (i : Nat) : x.getD i 0 < 4294967296 := by
  rw [List.getD_eq_getElem?_getD]
  cases e : x[i]? with
  | none => exact (by decide : (0 : Nat) < 4294967296)
  | some y => exact h y (List.mem_of_getElem? e)
theorem Wds.set {x : List Nat} (h : Wds x) (i : Nat) {y : Nat} (hy : y < 4294967296) : Wds (x.set i y) := by
  intro z hz
  rcases List.mem_or_eq_of_mem_set hz with hz | rfl
  · exact h z hz
  · exact hy
theorem Wds.append {x y : List Nat} (h : Wds x) (k : Wds y) : Wds (x ++ y) := by
  intro z hz
  rcases List.mem_append.1 hz with hz | hz
  · exact h z hz
  · exact k z hz

/-- The words of a quarter round's places. -/
def four (x : List Nat) (q : Q4) : Q4 := ⟨x.getD q.a 0, x.getD q.b 0, x.getD q.c 0, x.getD q.d 0⟩
def put4 (x : List Nat) (q r : Q4) : List Nat := (((x.set q.a r.a).set q.b r.b).set q.c r.c).set q.d r.d
/-- The list behind a quarter round at the places q. -/
def qAt (x : List Nat) (q : Q4) : List Nat := put4 x q (qr (four x q))
theorem put4_len (x : List Nat) (q r : Q4) : (put4 x q r).length = x.length := by simp [put4]
theorem qAt_len (x : List Nat) (q : Q4) : (qAt x q).length = x.length := put4_len _ _ _
theorem four_ok {x : List Nat} (h : Wds x) (q : Q4) : (four x q).ok := ⟨h.at_ _, h.at_ _, h.at_ _, h.at_ _⟩
theorem qAt_ok {x : List Nat} (h : Wds x) (q : Q4) : Wds (qAt x q) := by
  obtain ⟨h1, h2, h3, h4⟩ := qr_ok _ (four_ok h q)
  exact (((h.set _ h1).set _ h2).set _ h3).set _ h4

/-- The places of the quarter rounds. -/
def quar : List Q4 := [⟨0, 4, 8, 12⟩, ⟨1, 5, 9, 13⟩, ⟨2, 6, 10, 14⟩, ⟨3, 7, 11, 15⟩, ⟨0, 5, 10, 15⟩, ⟨1, 6, 11, 12⟩, ⟨2, 7, 8, 13⟩, ⟨3, 4, 9, 14⟩]
def quarAt (k : Nat) : Q4 := quar.getD k ⟨0, 0, 0, 0⟩
/-- Places that are four, of sixteen. -/
def Q4.apart (q : Q4) : Prop := q.a < 16 ∧ q.b < 16 ∧ q.c < 16 ∧ q.d < 16 ∧ q.a ≠ q.b ∧ q.a ≠ q.c ∧ q.a ≠ q.d ∧ q.b ≠ q.c ∧ q.b ≠ q.d ∧ q.c ≠ q.d
theorem quar_apart (k : Nat) (h : k < 8) : (quarAt k).apart := by
  rcases (show k = 0 ∨ k = 1 ∨ k = 2 ∨ k = 3 ∨ k = 4 ∨ k = 5 ∨ k = 6 ∨ k = 7 by omega) with rfl | rfl | rfl | rfl | rfl | rfl | rfl | rfl <;> unfold Q4.apart <;> decide
/-- The words behind the first k quarter rounds of a double round. -/
def quTo (x : List Nat) : Nat → List Nat
  | 0 => x
  | k + 1 => qAt (quTo x k) (quarAt k)
theorem quTo_len (x : List Nat) (k : Nat) : (quTo x k).length = x.length := by
  induction k with
  | zero => rfl
  | succ k ih => rw [quTo, qAt_len, ih]
theorem quTo_ok {x : List Nat} (h : Wds x) (k : Nat) : Wds (quTo x k) := by
  induction k with
  | zero => exact h
  | succ k ih => exact qAt_ok ih _
/-- The words behind n double rounds. -/
def rds (x : List Nat) : Nat → List Nat
  | 0 => x
  | n + 1 => quTo (rds x n) 8
theorem rds_len (x : List Nat) (n : Nat) : (rds x n).length = x.length := by
  induction n with
  | zero => rfl
  | succ n ih => rw [rds, quTo_len, ih]
theorem rds_ok {x : List Nat} (h : Wds x) (n : Nat) : Wds (rds x n) := by
  induction n with
  | zero => exact h
  | succ n ih => exact quTo_ok ih _

/-- The words of bytes, n of them. -/
def wdL (b : List UInt8) (i : Nat) : Nat := loadV ((b.drop (4 * i)).take 4) true
def wdsL (b : List UInt8) (n : Nat) : List Nat := (List.range n).map (wdL b)
theorem wdsL_len (b : List UInt8) (n : Nat) : (wdsL b n).length = n := by simp [wdsL]
theorem wdsL_ok (b : List UInt8) (n : Nat) : Wds (wdsL b n) := by
  intro y hy
  obtain ⟨i, _, rfl⟩ := List.mem_map.1 hy
  exact loadV_lt _ _
theorem wdsL_succ (b : List UInt8) (n : Nat) : wdsL b (n + 1) = wdsL b n ++ [wdL b n] := by simp [wdsL, List.range_succ]
/-- The first words. -/
def cst : List Nat := [1634760805, 857760878, 2036477234, 1797285236]
/-- The initial state. -/
def stOf (key nonce : List UInt8) (n : Nat) : List Nat := cst ++ (wdsL key 8 ++ (n :: wdsL nonce 3))
theorem stOf_len (key nonce : List UInt8) (n : Nat) : (stOf key nonce n).length = 16 := by simp [stOf, cst, wdsL_len]
theorem stOf_ok (key nonce : List UInt8) (n : Nat) (h : n < 4294967296) : Wds (stOf key nonce n) := by
  refine Wds.append (by unfold Wds cst; decide) ((wdsL_ok _ _).append ?_)
  intro y hy
  rcases List.mem_cons.1 hy with rfl | hy
  · exact h
  · exact wdsL_ok _ _ y hy
theorem stOf_set (key nonce : List UInt8) (m n : Nat) : (stOf key nonce m).set 12 n = stOf key nonce n := by
  unfold stOf
  rw [List.set_append_right _ _ (by simp [cst]), List.set_append_right _ _ (by simp [cst, wdsL_len])]
  simp [cst, wdsL_len]
/-- The bytes of words, the lowest first, one word behind the other. -/
def outL (l : List Nat) : List UInt8 := l.flatMap fun x => stored x true
theorem outL_len (l : List Nat) : (outL l).length = 4 * l.length := by
  unfold outL
  induction l with
  | nil => rfl
  | cons x l ih => rw [List.flatMap_cons, List.length_append, ih, stored_len, List.length_cons]; omega
theorem outL_part (l : List Nat) (k : Nat) (h : k < l.length) : ((outL l).drop (4 * k)).take 4 = stored (l.getD k 0) true := by
  induction l generalizing k with
  | nil => simp at h
  | cons x l ih =>
    have e : outL (x :: l) = stored x true ++ outL l := by simp [outL]
    rw [e]
    cases k with
    | zero => rw [Nat.mul_zero, List.drop_zero, List.take_append_of_le_length (by rw [stored_len]; omega), List.take_of_length_le (by rw [stored_len]; omega)]; rfl
    | succ k =>
      rw [List.drop_append, List.drop_of_length_le (by rw [stored_len]; omega), stored_len, List.nil_append, show 4 * (k + 1) - 4 = 4 * k by omega, ih k (by simpa using h)]
      rfl
theorem outL_take (l : List Nat) (k : Nat) (h : k < l.length) : outL (l.take (k + 1)) = outL (l.take k) ++ stored (l.getD k 0) true := by
  unfold outL
  rw [List.take_succ_eq_append_getElem h, List.flatMap_append]
  simp [h]
/-- The sums of the words of two lists. -/
def sumL (x y : List Nat) : List Nat := List.zipWith add32 x y
theorem sumL_len (x y : List Nat) (h : y.length = x.length) : (sumL x y).length = x.length := by simp [sumL, h]
theorem sumL_at (x y : List Nat) (i : Nat) (hx : i < x.length) (hy : i < y.length) : (sumL x y).getD i 0 = add32 (x.getD i 0) (y.getD i 0) := by
  simp [sumL, List.getElem?_zipWith, hx, hy]
/-- The block of an initial state. -/
def blkS (s : List Nat) : List UInt8 := outL (sumL (rds s 10) s)
theorem blkS_len (s : List Nat) (h : s.length = 16) : (blkS s).length = 64 := by unfold blkS; rw [outL_len, sumL_len _ _ (by rw [rds_len]), rds_len, h]
/-- The block. -/
def cblk (key nonce : List UInt8) (n : Nat) : List UInt8 := blkS (stOf key nonce n)
theorem cblk_len (key nonce : List UInt8) (n : Nat) : (cblk key nonce n).length = 64 := blkS_len _ (stOf_len _ _ _)

theorem blk_known : (cblk ((List.range 32).map UInt8.ofNat) [0, 0, 0, 9, 0, 0, 0, 74, 0, 0, 0, 0] 1)[0]? = some 16 ∧ (cblk ((List.range 32).map UInt8.ofNat) [0, 0, 0, 9, 0, 0, 0, 74, 0, 0, 0, 0] 1)[1]? = some 241
    ∧ (cblk ((List.range 32).map UInt8.ofNat) [0, 0, 0, 9, 0, 0, 0, 74, 0, 0, 0, 0] 1)[7]? = some 21 := by decide +kernel

/-- May a key and a nonce be? -/
def fitK (key nonce : List UInt8) : Bool := key.length == 32 && nonce.length == 12
/-- How many blocks n bytes need. -/
def blksN (n : Nat) : Nat := (n + 63) / 64
/-- Bytes mixed with the blocks from a counter on. -/
def mixL (key nonce : List UInt8) (f : Nat) (b : List UInt8) : List UInt8 := (List.range b.length).map fun i => b.getD i 0 ^^^ (cblk key nonce (f + i / 64)).getD (i % 64) 0
theorem mixL_len (key nonce : List UInt8) (f : Nat) (b : List UInt8) : (mixL key nonce f b).length = b.length := by simp [mixL]
theorem mixL_at (key nonce : List UInt8) (f : Nat) (b : List UInt8) (i : Nat) (h : i < b.length) : (mixL key nonce f b).getD i 0 = b.getD i 0 ^^^ (cblk key nonce (f + i / 64)).getD (i % 64) 0 := by
  simp [mixL, h]
/-- What Mix gives, and its error. -/
def mixE (key nonce : List UInt8) (f : Nat) (b : List UInt8) : Int := if fitK key nonce then if blksN b.length ≤ 4294967296 - f then 0 else 10 else 1
def mixR (key nonce : List UInt8) (f : Nat) (b : List UInt8) : List UInt8 := if fitK key nonce then if blksN b.length ≤ 4294967296 - f then mixL key nonce f b else [] else []

end Go.Proofs.YtnhpamfmbledmaaDoor
