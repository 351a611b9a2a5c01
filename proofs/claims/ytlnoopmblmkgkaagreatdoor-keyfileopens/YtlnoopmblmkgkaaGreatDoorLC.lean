/- ChaCha20 on lists of numbers. No program is named here. -/
import Derived.Test.YtlnoopmblmkgkaaGreatDoorLA
import Derived.Test.YtlnoopmblmkgkaaGreatDoorLW
import Derived.Test.YtlnoopmblmkgkaaGreatDoorLG
import Derived.IntWalk
import Derived.Laws.ResultCell
namespace Go.Proofs.YtlnoopmblmkgkaaGreatDoor
set_option maxRecDepth 100000
open Go.RowKit

def add32 (a b : Nat) : Nat := (a + b) % 4294967296
theorem add32_lt (a b : Nat) : add32 a b < 4294967296 := Nat.mod_lt _ (by decide)
theorem xor32_lt {a b : Nat} (ha : a < 4294967296) (hb : b < 4294967296) : a ^^^ b < 4294967296 := Nat.xor_lt_two_pow (n := 32) ha hb

/-- Four words. -/
structure Q4 where
  a : Nat
  b : Nat
  c : Nat
  d : Nat
/-- A quarter round. -/
def qr (q : Q4) : Q4 :=
  let a1 := add32 q.a q.b
  let d1 := rotN (q.d ^^^ a1) 16
  let c1 := add32 q.c d1
  let b1 := rotN (q.b ^^^ c1) 12
  let a2 := add32 a1 b1
  let d2 := rotN (d1 ^^^ a2) 8
  let c2 := add32 c1 d2
  let b2 := rotN (b1 ^^^ c2) 7
  ⟨a2, b2, c2, d2⟩
def Q4.ok (q : Q4) : Prop := q.a < 4294967296 ∧ q.b < 4294967296 ∧ q.c < 4294967296 ∧ q.d < 4294967296
theorem qr_ok (q : Q4) (h : q.ok) : (qr q).ok := by
  obtain ⟨h1, h2, h3, h4⟩ := h
  have hd1 : rotN (q.d ^^^ add32 q.a q.b) 16 < 4294967296 := rotN_lt _ _ (xor32_lt h4 (add32_lt _ _)) (by omega)
  have hb1 : rotN (q.b ^^^ add32 q.c (rotN (q.d ^^^ add32 q.a q.b) 16)) 12 < 4294967296 := rotN_lt _ _ (xor32_lt h2 (add32_lt _ _)) (by omega)
  exact ⟨add32_lt _ _, rotN_lt _ _ (xor32_lt hb1 (add32_lt _ _)) (by omega), add32_lt _ _, rotN_lt _ _ (xor32_lt hd1 (add32_lt _ _)) (by omega)⟩

/-- All words are below 2^32. -/
def Wds (x : List Nat) : Prop := ∀ y ∈ x, y < 4294967296
theorem Wds.at_ {x : List Nat} (h : Wds x) (i : Nat) : x.getD i 0 < 4294967296 := by
  rw [List.getD_eq_getElem?_getD]
  cases e : x[i]? with
  | none => exact (by decide : (0 : Nat) < 4294967296)
  | some y => exact h y (List.mem_of_getElem? e)
theorem Wds.set {x : List Nat} (h : Wds x) (i : Nat) {y : Nat} (hy : y < 4294967296) : Wds (x.set i y) := by
  intro z hz
  rcases List.mem_or_eq_of_mem_set hz with hz | rfl
  · exact h z hz
  · exact hy
theorem Wds.append {x y : List Nat} (h : Wds x) (k : Wds y) : Wds (x ++ y) := by
  intro z hz
  rcases List.mem_append.1 hz with hz | hz
  · exact h z hz
  · exact k z hz

/-- The words of a quarter round's places. -/
def four (x : List Nat) (q : Q4) : Q4 := ⟨x.getD q.a 0, x.getD q.b 0, x.getD q.c 0, x.getD q.d 0⟩
def put4 (x : List Nat) (q r : Q4) : List Nat := (((x.set q.a r.a).set q.b r.b).set q.c r.c).set q.d r.d
/-- The list behind a quarter round at the places q. -/
def qAt (x : List Nat) (q : Q4) : List Nat := put4 x q (qr (four x q))
theorem put4_len (x : List Nat) (q r : Q4) : (put4 x q r).length = x.length := by simp [put4]
theorem qAt_len (x : List Nat) (q : Q4) : (qAt x q).length = x.length := put4_len _ _ _
theorem four_ok {x : List Nat} (h : Wds x) (q : Q4) : (four x q).ok := ⟨h.at_ _, h.at_ _, h.at_ _, h.at_ _⟩
theorem qAt_ok {x : List Nat} (h : Wds x) (q : Q4) : Wds (qAt x q) := by
  obtain ⟨h1, h2, h3, h4⟩ := qr_ok _ (four_ok h q)
  exact (((h.set _ h1).set _ h2).set _ h3).set _ h4

/-- The places of the quarter rounds. -/
def quar : List Q4 := [⟨0, 4, 8, 12⟩, ⟨1, 5, 9, 13⟩, ⟨2, 6, 10, 14⟩, ⟨3, 7, 11, 15⟩, ⟨0, 5, 10, 15⟩, ⟨1, 6, 11, 12⟩, ⟨2, 7, 8, 13⟩, ⟨3, 4, 9, 14⟩]
def quarAt (k : Nat) : Q4 := quar.getD k ⟨0, 0, 0, 0⟩
/-- Places that are four, of sixteen. -/
def Q4.apart (q : Q4) : Prop := q.a < 16 ∧ q.b < 16 ∧ q.c < 16 ∧ q.d < 16 ∧ q.a ≠ q.b ∧ q.a ≠ q.c ∧ q.a ≠ q.d ∧ q.b ≠ q.c ∧ q.b ≠ q.d ∧ q.c ≠ q.d
theorem quar_apart (k : Nat) (h : k < 8) : (quarAt k).apart := by
  rcases (show k = 0 ∨ k = 1 ∨ k = 2 ∨ k = 3 ∨ k = 4 ∨ k = 5 ∨ k = 6 ∨ k = 7 by omega) with rfl | rfl | rfl | rfl | rfl | rfl | rfl | rfl <;> unfold Q4.apart <;> decide
/-- The words behind the first k quarter rounds of a double round. -/
def quTo (x : List Nat) : Nat → List Nat
  | 0 => x
  | k + 1 => qAt (quTo x k) (quarAt k)
theorem quTo_len (x : List Nat) (k : Nat) : (quTo x k).length = x.length := by
  induction k with
  | zero => rfl
  | succ k ih => rw [quTo, qAt_len, ih]
theorem quTo_ok {x : List Nat} (h : Wds x) (k : Nat) : Wds (quTo x k) := by
  induction k with
  | zero => exact h
  | succ k ih => exact qAt_ok ih _
/-- The words behind n double rounds. -/
def rds (x : List Nat) : Nat → List Nat
  | 0 => x
  | n + 1 => quTo (rds x n) 8
theorem rds_len (x : List Nat) (n : Nat) : (rds x n).length = x.length := by
  induction n with
  | zero => rfl
  | succ n ih => rw [rds, quTo_len, ih]
theorem rds_ok {x : List Nat} (h : Wds x) (n : Nat) : Wds (rds x n) := by
  induction n with
  | zero => exact h
  | succ n ih => exact quTo_ok ih _

/-- The words of bytes, n of them. -/
def wdL (b : List UInt8) (i : Nat) : Nat := loadV ((b.drop (4 * i)).take 4) true
def wdsL (b : List UInt8) (n : Nat) : List Nat := (List.range n).map (wdL b)
theorem wdsL_len (b : List UInt8) (n : Nat) : (wdsL b n).length = n := by simp [wdsL]
theorem wdsL_ok (b : List UInt8) (n : Nat) : Wds (wdsL b n) := by
  intro y hy
  obtain ⟨i, _, rfl⟩ := List.mem_map.1 hy
  exact loadV_lt _ _
theorem wdsL_succ (b : List UInt8) (n : Nat) : wdsL b (n + 1) = wdsL b n ++ [wdL b n] := by simp [wdsL, List.range_succ]
/-- The first words. -/
def cst : List Nat := [1634760805, 857760878, 2036477234, 1797285236]
/-- The initial state. -/
def stOf (key nonce : List UInt8) (n : Nat) : List Nat := cst ++ (wdsL key 8 ++ (n :: wdsL nonce 3))
theorem stOf_len (key nonce : List UInt8) (n : Nat) : (stOf key nonce n).length = 16 := by simp [stOf, cst, wdsL_len]
theorem stOf_ok (key nonce : List UInt8) (n : Nat) (h : n < 4294967296) : Wds (stOf key nonce n) := by
  refine Wds.append (by unfold Wds cst; decide) ((wdsL_ok _ _).append ?_)
  intro y hy
  rcases List.mem_cons.1 hy with rfl | hy
  · exact h
  · exact wdsL_ok _ _ y hy
theorem stOf_set (key nonce : List UInt8) (m n : Nat) : (stOf key nonce m).set 12 n = stOf key nonce n := by
  unfold stOf
  rw [List.set_append_right _ _ (by simp [cst]), List.set_append_right _ _ (by simp [cst, wdsL_len])]
  simp [cst, wdsL_len]
/-- The bytes of words, the lowest first, one word behind the other. -/
def outL (l : List Nat) : List UInt8 := l.flatMap fun x => stored x true
theorem outL_len (l : List Nat) : (outL l).length = 4 * l.length := by
  unfold outL
  induction l with
  | nil => rfl
  | cons x l ih => rw [List.flatMap_cons, List.length_append, ih, stored_len, List.length_cons]; omega
theorem outL_part (l : List Nat) (k : Nat) (h : k < l.length) : ((outL l).drop (4 * k)).take 4 = stored (l.getD k 0) true := by
  induction l generalizing k with
  | nil => simp at h
  | cons x l ih =>
    have e : outL (x :: l) = stored x true ++ outL l := by simp [outL]
    rw [e]
    cases k with
    | zero => rw [Nat.mul_zero, List.drop_zero, List.take_append_of_le_length (by rw [stored_len]; omega), List.take_of_length_le (by rw [stored_len]; omega)]; rfl
    | succ k =>
      rw [List.drop_append, List.drop_of_length_le (by rw [stored_len]; omega), stored_len, List.nil_append, show 4 * (k + 1) - 4 = 4 * k by omega, ih k (by simpa using h)]
      rfl
theorem outL_take (l : List Nat) (k : Nat) (h : k < l.length) : outL (l.take (k + 1)) = outL (l.take k) ++ stored (l.getD k 0) true := by
  unfold outL
  rw [List.take_succ_eq_append_getElem h, List.flatMap_append]
  simp [h]
/-- The sums of the words of two lists. -/
def sumL (x y : List Nat) : List Nat := List.zipWith add32 x y
theorem sumL_len (x y : List Nat) (h : y.length = x.length) : (sumL x y).length = x.length := by simp [sumL, h]
theorem sumL_at (x y : List Nat) (i : Nat) (hx : i < x.length) (hy : i < y.length) : (sumL x y).getD i 0 = add32 (x.getD i 0) (y.getD i 0) := by
  simp [sumL, List.getElem?_zipWith, hx, hy]
/-- The block of an initial state. -/
def blkS (s : List Nat) : List UInt8 := outL (sumL (rds s 10) s)
theorem blkS_len (s : List Nat) (h : s.length = 16) : (blkS s).length = 64 := by unfold blkS; rw [outL_len, sumL_len _ _ (by rw [rds_len]), rds_len, h]
/-- The block. -/
def cblk (key nonce : List UInt8) (n : Nat) : List UInt8 := blkS (stOf key nonce n)
theorem cblk_len (key nonce : List UInt8) (n : Nat) : (cblk key nonce n).length = 64 := blkS_len _ (stOf_len _ _ _)

theorem blk_known : (cblk ((List.range 32).map UInt8.ofNat) [0, 0, 0, 9, 0, 0, 0, 74, 0, 0, 0, 0] 1)[0]? = some 16 ∧ (cblk ((List.range 32).map UInt8.ofNat) [0, 0, 0, 9, 0, 0, 0, 74, 0, 0, 0, 0] 1)[1]? = some 241
    ∧ (cblk ((List.range 32).map UInt8.ofNat) [0, 0, 0, 9, 0, 0, 0, 74, 0, 0, 0, 0] 1)[7]? = some 21 := by decide +kernel

/-- May a key and a nonce be? -/
def fitK (key nonce : List UInt8) : Bool := key.length == 32 && nonce.length == 12
/-- How many blocks n bytes need. -/
def blksN (n : Nat) : Nat := (n + 63) / 64
/-- Bytes mixed with the blocks from a counter on. -/
def mixL (key nonce : List UInt8) (f : Nat) (b : List UInt8) : List UInt8 := (List.range b.length).map fun i => b.getD i 0 ^^^ (cblk key nonce (f + i / 64)).getD (i % 64) 0
theorem mixL_len (key nonce : List UInt8) (f : Nat) (b : List UInt8) : (mixL key nonce f b).length = b.length := by simp [mixL]
theorem mixL_at (key nonce : List UInt8) (f : Nat) (b : List UInt8) (i : Nat) (h : i < b.length) : (mixL key nonce f b).getD i 0 = b.getD i 0 ^^^ (cblk key nonce (f + i / 64)).getD (i % 64) 0 := by
  simp [mixL, h]
/-- What Mix gives, and its error. -/
def mixE (key nonce : List UInt8) (f : Nat) (b : List UInt8) : Int := if fitK key nonce then if blksN b.length ≤ 4294967296 - f then 0 else 10 else 1
def mixR (key nonce : List UInt8) (f : Nat) (b : List UInt8) : List UInt8 := if fitK key nonce then if blksN b.length ≤ 4294967296 - f then mixL key nonce f b else [] else []

end Go.Proofs.YtlnoopmblmkgkaaGreatDoor

namespace Go.Proofs.YtlnoopmblmkgkaaGreatDoor
set_option maxRecDepth 100000
open Go.RowKit
set_option linter.unusedVariables false
set_option linter.unusedSimpArgs false

/-- Turn by a literal, its answer under a name. -/
theorem turn_to (x : Nat) (n : Int) (k y : Nat) (w : World) (h1 : x < 4294967296) (hk : turnK n = k) (hy : y = rotN x k) :
    Calls Tryz.prog 182 #[.int .u32 x, .int .i64 n] w fun e w' => e = .returned (.int .u32 (y : Nat)) ∧ w = w' := by
  subst hk; subst hy; exact turn_any x n w h1

theorem add32_int (a b y : Nat) (h : y = add32 a b) : ((a : Int) + (b : Int)) % 4294967296 = (y : Int) := by rw [h]; unfold add32; omega
theorem xor32_int (a b y : Nat) (ha : a < 4294967296) (hb : b < 4294967296) (h : y = a ^^^ b) : bits BinOp.xor IntKind.u32 (a : Int) (b : Int) = (y : Int) := by rw [h]; exact xor32 a b ha hb

theorem results_tmp4 {fn : Func} {t u v x : Tmp} (h : fn.results = #[.tmp t, .tmp u, .tmp v, .tmp x]) (tmps : Array Value) (P : Program) (w : World) :
    (results fn tmps).run P w = .ok (.tuple #[tmps.getD t undef, tmps.getD u undef, tmps.getD v undef, tmps.getD x undef]) w := by
  simp [results, h]

/-- The steps of a quarter round, each under a name. -/
structure QSteps (q r : Q4) where
  a1 : Nat
  x1 : Nat
  d1 : Nat
  c1 : Nat
  x2 : Nat
  b1 : Nat
  x3 : Nat
  x4 : Nat
  h1 : a1 = add32 q.a q.b
  h2 : x1 = q.d ^^^ a1
  h3 : d1 = rotN x1 16
  h4 : c1 = add32 q.c d1
  h5 : x2 = q.b ^^^ c1
  h6 : b1 = rotN x2 12
  h7 : r.a = add32 a1 b1
  h8 : x3 = d1 ^^^ r.a
  h9 : r.d = rotN x3 8
  h10 : r.c = add32 c1 r.d
  h11 : x4 = b1 ^^^ r.c
  h12 : r.b = rotN x4 7
def qsteps (q : Q4) : QSteps q (qr q) := ⟨_, _, _, _, _, _, _, _, rfl, rfl, rfl, rfl, rfl, rfl, rfl, rfl, rfl, rfl, rfl, rfl⟩

set_option maxHeartbeats 400000 in
theorem qround_any (q r : Q4) (w : World) (h : q.ok) (hr : r = qr q) :
    Calls Tryz.prog 170 #[.int .u32 q.a, .int .u32 q.b, .int .u32 q.c, .int .u32 q.d] w fun e w' => e = .returned (.tuple #[.int .u32 r.a, .int .u32 r.b, .int .u32 r.c, .int .u32 r.d]) ∧ w = w' := by
  have st := qsteps q
  have hk := qr_ok q h
  rw [← hr] at st hk
  clear hr
  obtain ⟨ha, hb, hc, hd⟩ := h
  obtain ⟨ka, kb, kc, kd⟩ := hk
  obtain ⟨a1, x1, d1, c1, x2, b1, x3, x4, h1, h2, h3, h4, h5, h6, h7, h8, h9, h10, h11, h12⟩ := st
  obtain ⟨a, b, c, d⟩ := q
  obtain ⟨ra, rb, rc, rd⟩ := r
  dsimp only at *
  have la1 : a1 < 4294967296 := by rw [h1]; exact add32_lt _ _
  have lx1 : x1 < 4294967296 := by rw [h2]; exact xor32_lt hd la1
  have ld1 : d1 < 4294967296 := by rw [h3]; exact rotN_lt _ _ lx1 (by omega)
  have lc1 : c1 < 4294967296 := by rw [h4]; exact add32_lt _ _
  have lx2 : x2 < 4294967296 := by rw [h5]; exact xor32_lt hb lc1
  have lb1 : b1 < 4294967296 := by rw [h6]; exact rotN_lt _ _ lx2 (by omega)
  have lx3 : x3 < 4294967296 := by rw [h8]; exact xor32_lt ld1 ka
  have lx4 : x4 < 4294967296 := by rw [h11]; exact xor32_lt lb1 kc
  have e1 := add32_int _ _ _ h1
  have e2 := xor32_int _ _ _ hd la1 h2
  have e4 := add32_int _ _ _ h4
  have e5 := xor32_int _ _ _ hb lc1 h5
  have e7 := add32_int _ _ _ h7
  have e8 := xor32_int _ _ _ ld1 ka h8
  have e10 := add32_int _ _ _ h10
  have e11 := xor32_int _ _ _ lb1 kc h11
  have H3 := Lib.hid h3
  have H6 := Lib.hid h6
  have H9 := Lib.hid h9
  have H12 := Lib.hid h12
  clear h1 h2 h3 h4 h5 h6 h7 h8 h9 h10 h11 h12
  go_enter Tryz.func170, Tryz.ntmps170
  go_wp2_with fail
  refine (turn_to x1 16 16 d1 _ lx1 (by decide) H3.out).mono ?_
  rintro e w' ⟨rfl, rfl⟩
  go_wp2_with fail
  refine (turn_to x2 12 12 b1 _ lx2 (by decide) H6.out).mono ?_
  rintro e w' ⟨rfl, rfl⟩
  go_wp2_with fail
  refine (turn_to x3 8 8 rd _ lx3 (by decide) H9.out).mono ?_
  rintro e w' ⟨rfl, rfl⟩
  go_wp2_with fail
  refine (turn_to x4 7 7 rb _ lx4 (by decide) H12.out).mono ?_
  rintro e w' ⟨rfl, rfl⟩
  go_wp2
  refine bodyPost_ret (results_tmp4 rfl _ _ _) rfl ?_
  exact ⟨rfl, rfl⟩

end Go.Proofs.YtlnoopmblmkgkaaGreatDoor

namespace Go.Proofs.YtlnoopmblmkgkaaGreatDoor
set_option maxRecDepth 100000
open Go.RowKit
set_option linter.unusedVariables false
set_option linter.unusedSimpArgs false

/-- 'x[i]' of an array that is a value, its elements arrays. -/
theorem run_index_row {P : Program} (w : World) (t e e' : TypeId) (n m : Nat) (ki : IntKind) (ht : P.underlying t = some (.array n e)) (he : P.underlying e = some (.array m e')) (hs : (P.info? e).map (·.size) = some m) (cs : List Value) (i : Int) (j : Nat) (ei : i = j) (hj : j < n) :
    (Instr.index t (.agg cs.toArray) (.int ki i)).run P w = .ok (.agg ((cs.drop (j * m)).take m).toArray) w := by
  subst ei
  cases hq : P.info? e with
  | none => simp [hq] at hs
  | some ii =>
    have hsz : ii.size = m := by simpa [hq] using hs
    have hagg : (isAgg e).run P w = .ok true w := by
      unfold isAgg
      rw [Sem.run_bind, run_underlying he w]
      rfl
    simp [Instr.index, asIntOf, run_underlying ht, hj, part, hagg, sizeOf, typeInfo, hq, hsz, List.extract_toArray, List.extract_eq_take_drop]

/-- The table's cells. -/
def qcell (q : Q4) : List Value := [.int .i64 (q.a : Int), .int .i64 (q.b : Int), .int .i64 (q.c : Int), .int .i64 (q.d : Int)]
def qcs : List Value := quar.flatMap qcell
theorem qcs_part (k : Nat) (h : k < 8) : (qcs.drop (k * 4)).take 4 = qcell (quarAt k) := by
  rcases (show k = 0 ∨ k = 1 ∨ k = 2 ∨ k = 3 ∨ k = 4 ∨ k = 5 ∨ k = 6 ∨ k = 7 by omega) with rfl | rfl | rfl | rfl | rfl | rfl | rfl | rfl <;> rfl

/-- The package's table holds what its text lays. -/
def TabC (w : World) : Prop := w.rangeAt 1 0 qcs

theorem TabC.size {w : World} (h : TabC w) : 1 < w.heap.size := by
  have h1 := block_lt_of_cell (h 0 _ rfl)
  simpa using h1

theorem TabC.keep {w w' : World} (h : TabC w) (hk : w'.heap[1]? = w.heap[1]?) : TabC w' := fun j v hv => by
  rw [World.cell?_of_block (w := w) hk]
  exact h j v hv

theorem TabC.next {w w' : World} (h : TabC w) (hb : Below w.heap.size w w') : TabC w' := h.keep (hb.block _ h.size)
theorem TabC.alloc {w : World} (h : TabC w) (o : Obj) : TabC (w.alloc o) := h.keep (Below.heap_alloc w o _ h.size)
theorem TabC.drewN {w : World} (h : TabC w) (n : Nat) : TabC (w.drewN n) := h.keep rfl
theorem TabC.sets {w : World} (h : TabC w) (g o : Nat) (vs : List Value) (hg : w.heap.size ≤ g ∨ 1 ≠ g) : TabC (w.setCells g o vs) := h.keep (heap_setCells_other _ _ (by have := h.size; omega) _ _ _)
theorem TabC.set {w : World} (h : TabC w) (g o : Nat) (v : Value) (hg : 1 ≠ g) : TabC (w.setCell ⟨g, o, none⟩ v) := h.keep (heap_setCell_other _ _ _ _ hg)

theorem zero_16 : (Tryz.prog.info? 160).map (·.zero) = some (some (.agg (zeros .u32 16).toArray)) := by kernel_rfl
theorem size_16 : (Tryz.prog.info? 160).map (·.size) = some 16 := by kernel_rfl
theorem zero_q : (Tryz.prog.info? 202).map (·.zero) = some (some (.agg (zeros .i64 4).toArray)) := by kernel_rfl
theorem size_q : (Tryz.prog.info? 202).map (·.size) = some 4 := by kernel_rfl
theorem size_qs : (Tryz.prog.info? 203).map (·.size) = some 32 := by kernel_rfl
theorem qcs_len : qcs.length = 32 := rfl
theorem qcell_one (q : Q4) : ∀ v ∈ qcell q, v.oneCell' = true := by intro v hv; simp [qcell] at hv; rcases hv with rfl | rfl | rfl | rfl <;> rfl

theorem us_put4 (x : List Nat) (q r : Q4) : ((((us x).set q.a (.int .u32 (r.a : Int))).set q.b (.int .u32 (r.b : Int))).set q.c (.int .u32 (r.c : Int))).set q.d (.int .u32 (r.d : Int)) = us (put4 x q r) := by
  simp [us, put4, List.map_set, uc]

set_option maxRecDepth 100000 in
set_option maxHeartbeats 2000000 in
theorem cafter_any (x : List Nat) (w : World) (hx : x.length = 16) (hW : Wds x) (hT : TabC w) :
    Calls Tryz.prog 149 #[.agg (us x).toArray] w fun e w' => e = .returned (.agg (us (rds x 10)).toArray) ∧ Below w.heap.size w w' := by
  have HX := Lib.hid hx
  have HWD := Lib.hid hW
  have HT := Lib.hid hT
  have hts := hT.size
  clear hx hW hT
  obtain ⟨R, hR⟩ : ∃ R, R = rds x 10 := ⟨_, rfl⟩
  rw [← hR]
  have HRR := Lib.hid hR
  clear hR
  obtain ⟨gx, hgx⟩ : ∃ g, g = w.heap.size := ⟨_, rfl⟩
  have HGX := Lib.hid hgx
  have hgt : 1 < gx := by rw [hgx]; exact hts
  go_enter Tryz.func149, Tryz.ntmps149
  go_wp2
  refine wp_scope_back 0 (fun a' w' => ∃ (m : Nat) (u4 u5 u6 u7 u8 u9 u10 u11 u12 u13 u14 u15 u16 u17 u18 u19 u20 u21 u22 u23 u24 u25 u26 u27 u28 u29 u30 u31 u32 u33 u34 u35 u36 u37 u38 u39 u40 u41 u42 u43 u44 u45 u46 u47 u48 u49 u50 u51 u52 u53 : Value), a' = { tmps := #[.agg (us x).toArray, .pointer (some ⟨gx, 0, none⟩), .pointer (some ⟨gx + 1, 0, none⟩), .int .i64 (m : Int), u4, u5, u6, u7, u8, u9, u10, u11, u12, u13, u14, u15, u16, u17, u18, u19, u20, u21, u22, u23, u24, u25, u26, u27, u28, u29, u30, u31, u32, u33, u34, u35, u36, u37, u38, u39, u40, u41, u42, u43, u44, u45, u46, u47, u48, u49, u50, u51, u52, u53], defers := [] } ∧ 1 ≤ m ∧ m ≤ 10 ∧
    Bl w' gx (us (rds x (10 - m))) 160 ∧ Bl w' (gx + 1) (zeros .u32 16) 160 ∧ TabC w' ∧ Below w.heap.size w w') (fun a' _ => (intOf (a'.tmps.getD 3 undef)).toNat) rfl ?first ?pass
  case first =>
    intro hgo
    go_wp2_with (refine wpList_alloc_zero rfl 160 rfl (zeros .u32 16) zero_16 ?_)
    go_step3
    rename_i hKK
    refine hKK _ _ (hgo _ _ ?_)
    rw [← hgx]
    have b1 : Bl ((w.alloc (.cells (us x).toArray 160)).alloc (.cells (zeros .u32 16).toArray 160)) (gx + 1) (zeros .u32 16) 160 := by
      have := Bl.new (w.alloc (.cells (us x).toArray 160)) (zeros .u32 16) 160
      rw [alloc_size, ← hgx] at this
      exact this
    refine ⟨10, _, _, _, _, _, _, _, _, _, _, _, _, _, _, _, _, _, _, _, _, _, _, _, _, _, _, _, _, _, _, _, _, _, _, _, _, _, _, _, _, _, _, _, _, _, _, _, _, _, _, rfl, by omega, by omega, ?_, b1, (HT.out.alloc _).alloc _, by rw [hgx]; exact ((Below.refl _ w).alloc (Nat.le_refl _) _).alloc (by simp) _⟩
    rw [hgx]
    exact (Bl.new w (us x) 160).alloc _
  case pass =>
    rintro a' w' ⟨m, u4, u5, u6, u7, u8, u9, u10, u11, u12, u13, u14, u15, u16, u17, u18, u19, u20, u21, u22, u23, u24, u25, u26, u27, u28, u29, u30, u31, u32, u33, u34, u35, u36, u37, u38, u39, u40, u41, u42, u43, u44, u45, u46, u47, u48, u49, u50, u51, u52, u53, rfl, hm1, hm2, bx, br, hT, hb⟩
    obtain ⟨X, hXd⟩ : ∃ X, X = rds x (10 - m) := ⟨_, rfl⟩
    rw [← hXd] at bx
    have HXL : Hid (X.length = 16) := by unfold Hid; rw [hXd, rds_len, HX.out]
    have HXW : Hid (Wds X) := by unfold Hid; rw [hXd]; exact rds_ok HWD.out _
    have HXD := Lib.hid hXd
    have hsz := hb.size
    rw [← hgx] at hsz
    clear hXd hgx
    go_wp2_with (refine wpList_load_mid rfl 203 _ rfl _ _ rfl qcs _ hT Tryz.underlying203 rfl size_qs ?_)
    go_loopw [11] (fun i wr => ∃ k : Nat, k ≤ 8 ∧ i = .int .i64 k ∧ Bl wr gx (us (quTo X k)) 160 ∧ Bl wr (gx + 1) (zeros .u32 16) 160 ∧ TabC wr ∧ Below w.heap.size w wr) (fun i _ => 8 - (intOf i).toNat)
    case atStart => exact ⟨0, by omega, rfl, bx, br, hT, hb⟩
    case round =>
      clear bx br hT hb
      obtain ⟨k, hk, rfl, bx, br, hT, hb⟩ := hrel
      have hbz := hb.size
      rw [← HGX.out] at hbz
      by_cases hlt : k < 8
      · obtain ⟨q, hq⟩ : ∃ q, q = quarAt k := ⟨_, rfl⟩
        have hap := quar_apart k hlt
        rw [← hq] at hap
        have HP : Hid ((qcs.drop (k * 4)).take 4 = qcell q) := by unfold Hid; rw [hq]; exact qcs_part k hlt
        have HQ := Lib.hid hq
        clear hq
        go_wp2_with fail
        rw [run_index_row wr 203 202 3 8 4 .i64 Tryz.underlying203 Tryz.underlying202 size_q qcs _ k rfl hlt, HP.out]
        obtain ⟨bq, hb2, hz2⟩ := put_new wr (zeros .i64 4) (qcell q) 202 rfl
        obtain ⟨W2, hW2⟩ : ∃ W, W = (wr.alloc (.cells (zeros .i64 4).toArray 202)).setCells wr.heap.size 0 (qcell q) := ⟨_, rfl⟩
        rw [← hW2] at bq hb2 hz2
        have HW2 := Lib.hid hW2
        have bx2 := bx.next hb2
        have br2 := br.next hb2
        have hT2 := hT.next hb2
        have hbw2 := next hb hb2
        clear hW2 hz2 bx br hT hb hb2
        have x0 : W2.cell? ⟨wr.heap.size, 0, none⟩ = some (.int .i64 (q.a : Int)) := bq.cell 0
        have x1 : W2.cell? ⟨wr.heap.size, 1, none⟩ = some (.int .i64 (q.b : Int)) := bq.cell 1
        have x2 : W2.cell? ⟨wr.heap.size, 2, none⟩ = some (.int .i64 (q.c : Int)) := bq.cell 2
        have x3 : W2.cell? ⟨wr.heap.size, 3, none⟩ = some (.int .i64 (q.d : Int)) := bq.cell 3
        go_wp2_with (first
          | (refine wpList_alloc_zero rfl 202 rfl (zeros .i64 4) zero_q ?_)
          | (refine wpList_store_mid rfl 202 _ _ rfl _ _ (qcell q).toArray rfl rfl (Bl.there_ (Bl.new wr (zeros .i64 4) 202) (by simp [zeros, qcell])) (by rw [size_q]; rfl) (all_oneCell_toArray (qcell_one _)) ?_; change wpList _ _ _ _ _ (World.setCells (wr.alloc (.cells (zeros .i64 4).toArray 202)) wr.heap.size 0 (qcell q)); rw [← HW2.out]))
        go_quiet (fail)
        clear x0 x1 x2 x3 bq HW2
        go_wp2_with fail
        obtain ⟨W3, hW3⟩ : ∃ W, W = W2.drewN nq := ⟨_, rfl⟩
        rw [← hW3]
        have bx3 := bx2.drewN nq
        have br3 := br2.drewN nq
        have hT3 := hT2.drewN nq
        have hbw3 : Below w.heap.size w (W2.drewN nq) := hbw2.trans (Drew.below ⟨_, rfl⟩ _)
        rw [← hW3] at bx3 br3 hT3 hbw3
        clear hW3 bx2 br2 hT2 hbw2
        obtain ⟨W4, hW4⟩ : ∃ W, W = W3.drew := ⟨_, rfl⟩
        have bx4 := bx3.drew
        have br4 := br3.drew
        have hT4 : TabC W3.drew := hT3.keep rfl
        have hbw4 : Below w.heap.size w W3.drew := hbw3.drew
        rw [← hW4] at bx4 br4 hT4 hbw4
        obtain ⟨Y, hY⟩ : ∃ Y, Y = quTo X k := ⟨_, rfl⟩
        rw [← hY] at bx4
        have HYL : Hid (Y.length = 16) := by unfold Hid; rw [hY, quTo_len, HXL.out]
        have HYW : Hid (Wds Y) := by unfold Hid; rw [hY]; exact quTo_ok HXW.out _
        have HY := Lib.hid hY
        obtain ⟨f, hf⟩ : ∃ f, f = four Y q := ⟨_, rfl⟩
        have HFO : Hid f.ok := by unfold Hid; rw [hf]; exact four_ok HYW.out _
        obtain ⟨r, hr⟩ : ∃ r, r = qr f := ⟨_, rfl⟩
        have HR := Lib.hid hr
        have HF := Lib.hid hf
        obtain ⟨ia, ib, ic, id, n1, n2, n3, n4, n5, n6⟩ := hap
        obtain ⟨S, hSd⟩ : ∃ S : World → Prop, S = fun w' => Bl w' gx (us Y) 160 := ⟨_, rfl⟩
        have hS : S W4 := by rw [hSd]; exact bx4
        have HSa : Hid (∀ w', S w' → w'.cell? ⟨gx, q.a, none⟩ = some (.int .u32 (f.a : Int))) := by unfold Hid; intro w' h; rw [hSd] at h; rw [Bl.cell h, us_at (by rw [HYL.out]; exact ia), hf]; rfl
        have HSb : Hid (∀ w', S w' → w'.cell? ⟨gx, q.b, none⟩ = some (.int .u32 (f.b : Int))) := by unfold Hid; intro w' h; rw [hSd] at h; rw [Bl.cell h, us_at (by rw [HYL.out]; exact ib), hf]; rfl
        have HSc : Hid (∀ w', S w' → w'.cell? ⟨gx, q.c, none⟩ = some (.int .u32 (f.c : Int))) := by unfold Hid; intro w' h; rw [hSd] at h; rw [Bl.cell h, us_at (by rw [HYL.out]; exact ic), hf]; rfl
        have HSd : Hid (∀ w', S w' → w'.cell? ⟨gx, q.d, none⟩ = some (.int .u32 (f.d : Int))) := by unfold Hid; intro w' h; rw [hSd] at h; rw [Bl.cell h, us_at (by rw [HYL.out]; exact id), hf]; rfl
        have HW4 := Lib.hid hW4
        have ja : (q.a : Int) < 16 := by omega
        have jb : (q.b : Int) < 16 := by omega
        have jc : (q.c : Int) < 16 := by omega
        have jd : (q.d : Int) < 16 := by omega
        clear hY hf hr hSd hW4 bx3 br3 hT3 hbw3
        refine wp_region_K 23 S (by kernel_rfl) (by rw [← HW4.out]; exact hS) (fun _ => ?_)
        rw [← HW4.out]
        refine wpAnyK_take0 (i := 0) (v := (.int .i64 (q.a : Int))) rfl (by kernel_rfl) (by kernel_rfl) (by kernel_rfl) (by kernel_rfl) (fun _ _ _ h => h) (Or.inl ⟨by rfl, fun _ => by go_simp⟩) hS ?_
        simp only [List.getElem_toArray, List.getElem_cons_succ, List.getElem_cons_zero, Act.put, List.setIfInBounds_toArray, List.set_cons_zero, List.set_cons_succ]
        refine wpAnyK_take0 (i := 1) (v := (.int .i64 (q.b : Int))) rfl (by kernel_rfl) (by kernel_rfl) (by kernel_rfl) (by kernel_rfl) (fun _ _ _ h => h) (Or.inl ⟨by rfl, fun _ => by go_simp⟩) hS ?_
        simp only [List.getElem_toArray, List.getElem_cons_succ, List.getElem_cons_zero, Act.put, List.setIfInBounds_toArray, List.set_cons_zero, List.set_cons_succ]
        refine wpAnyK_take0 (i := 2) (v := (.int .i64 (q.c : Int))) rfl (by kernel_rfl) (by kernel_rfl) (by kernel_rfl) (by kernel_rfl) (fun _ _ _ h => h) (Or.inl ⟨by rfl, fun _ => by go_simp⟩) hS ?_
        simp only [List.getElem_toArray, List.getElem_cons_succ, List.getElem_cons_zero, Act.put, List.setIfInBounds_toArray, List.set_cons_zero, List.set_cons_succ]
        refine wpAnyK_take0 (i := 3) (v := (.int .i64 (q.d : Int))) rfl (by kernel_rfl) (by kernel_rfl) (by kernel_rfl) (by kernel_rfl) (fun _ _ _ h => h) (Or.inl ⟨by rfl, fun _ => by go_simp⟩) hS ?_
        simp only [List.getElem_toArray, List.getElem_cons_succ, List.getElem_cons_zero, Act.put, List.setIfInBounds_toArray, List.set_cons_zero, List.set_cons_succ]
        refine wpAnyK_take0 (i := 4) (v := (.int .i64 (q.a : Int))) rfl (by kernel_rfl) (by kernel_rfl) (by kernel_rfl) (by kernel_rfl) (fun _ _ _ h => h) (Or.inl ⟨by rfl, fun _ => by go_simp⟩) hS ?_
        simp only [List.getElem_toArray, List.getElem_cons_succ, List.getElem_cons_zero, Act.put, List.setIfInBounds_toArray, List.set_cons_zero, List.set_cons_succ]
        refine wpAnyK_take0 (i := 5) (v := (.pointer (some ⟨gx, q.a, none⟩))) rfl (by kernel_rfl) (by kernel_rfl) (by kernel_rfl) (by kernel_rfl) (fun _ _ _ h => h) (Or.inl ⟨by rfl, fun _ => by go_simp⟩) hS ?_
        simp only [List.getElem_toArray, List.getElem_cons_succ, List.getElem_cons_zero, Act.put, List.setIfInBounds_toArray, List.set_cons_zero, List.set_cons_succ]
        refine wpAnyK_take0 (i := 7) (v := (.int .i64 (q.b : Int))) rfl (by kernel_rfl) (by kernel_rfl) (by kernel_rfl) (by kernel_rfl) (fun _ _ _ h => h) (Or.inl ⟨by rfl, fun _ => by go_simp⟩) hS ?_
        simp only [List.getElem_toArray, List.getElem_cons_succ, List.getElem_cons_zero, Act.put, List.setIfInBounds_toArray, List.set_cons_zero, List.set_cons_succ]
        refine wpAnyK_take0 (i := 8) (v := (.pointer (some ⟨gx, q.b, none⟩))) rfl (by kernel_rfl) (by kernel_rfl) (by kernel_rfl) (by kernel_rfl) (fun _ _ _ h => h) (Or.inl ⟨by rfl, fun _ => by go_simp⟩) hS ?_
        simp only [List.getElem_toArray, List.getElem_cons_succ, List.getElem_cons_zero, Act.put, List.setIfInBounds_toArray, List.set_cons_zero, List.set_cons_succ]
        refine wpAnyK_take0 (i := 10) (v := (.int .i64 (q.c : Int))) rfl (by kernel_rfl) (by kernel_rfl) (by kernel_rfl) (by kernel_rfl) (fun _ _ _ h => h) (Or.inl ⟨by rfl, fun _ => by go_simp⟩) hS ?_
        simp only [List.getElem_toArray, List.getElem_cons_succ, List.getElem_cons_zero, Act.put, List.setIfInBounds_toArray, List.set_cons_zero, List.set_cons_succ]
        refine wpAnyK_take0 (i := 11) (v := (.pointer (some ⟨gx, q.c, none⟩))) rfl (by kernel_rfl) (by kernel_rfl) (by kernel_rfl) (by kernel_rfl) (fun _ _ _ h => h) (Or.inl ⟨by rfl, fun _ => by go_simp⟩) hS ?_
        simp only [List.getElem_toArray, List.getElem_cons_succ, List.getElem_cons_zero, Act.put, List.setIfInBounds_toArray, List.set_cons_zero, List.set_cons_succ]
        refine wpAnyK_take0 (i := 13) (v := (.int .i64 (q.d : Int))) rfl (by kernel_rfl) (by kernel_rfl) (by kernel_rfl) (by kernel_rfl) (fun _ _ _ h => h) (Or.inl ⟨by rfl, fun _ => by go_simp⟩) hS ?_
        simp only [List.getElem_toArray, List.getElem_cons_succ, List.getElem_cons_zero, Act.put, List.setIfInBounds_toArray, List.set_cons_zero, List.set_cons_succ]
        refine wpAnyK_take0 (i := 14) (v := (.pointer (some ⟨gx, q.d, none⟩))) rfl (by kernel_rfl) (by kernel_rfl) (by kernel_rfl) (by kernel_rfl) (fun _ _ _ h => h) (Or.inl ⟨by rfl, fun _ => by go_simp⟩) hS ?_
        simp only [List.getElem_toArray, List.getElem_cons_succ, List.getElem_cons_zero, Act.put, List.setIfInBounds_toArray, List.set_cons_zero, List.set_cons_succ]
        refine wpAnyK_take (i := 6) (v := (.int .u32 (f.a : Int))) rfl (by kernel_rfl) (by kernel_rfl) (by kernel_rfl) (by kernel_rfl) (fun _ _ _ h => h) (Or.inl ⟨by rfl, fun w9 hw9 => by have hq9 := HSa.out w9 hw9; go_simp⟩) hS ?_
        simp only [List.getElem_toArray, List.getElem_cons_succ, List.getElem_cons_zero, Act.put, List.setIfInBounds_toArray, List.set_cons_zero, List.set_cons_succ]
        refine wpAnyK_take (i := 9) (v := (.int .u32 (f.b : Int))) rfl (by kernel_rfl) (by kernel_rfl) (by kernel_rfl) (by kernel_rfl) (fun _ _ _ h => h) (Or.inl ⟨by rfl, fun w9 hw9 => by have hq9 := HSb.out w9 hw9; go_simp⟩) hS ?_
        simp only [List.getElem_toArray, List.getElem_cons_succ, List.getElem_cons_zero, Act.put, List.setIfInBounds_toArray, List.set_cons_zero, List.set_cons_succ]
        refine wpAnyK_take (i := 12) (v := (.int .u32 (f.c : Int))) rfl (by kernel_rfl) (by kernel_rfl) (by kernel_rfl) (by kernel_rfl) (fun _ _ _ h => h) (Or.inl ⟨by rfl, fun w9 hw9 => by have hq9 := HSc.out w9 hw9; go_simp⟩) hS ?_
        simp only [List.getElem_toArray, List.getElem_cons_succ, List.getElem_cons_zero, Act.put, List.setIfInBounds_toArray, List.set_cons_zero, List.set_cons_succ]
        refine wpAnyK_take (i := 15) (v := (.int .u32 (f.d : Int))) rfl (by kernel_rfl) (by kernel_rfl) (by kernel_rfl) (by kernel_rfl) (fun _ _ _ h => h) (Or.inl ⟨by rfl, fun w9 hw9 => by have hq9 := HSd.out w9 hw9; go_simp⟩) hS ?_
        simp only [List.getElem_toArray, List.getElem_cons_succ, List.getElem_cons_zero, Act.put, List.setIfInBounds_toArray, List.set_cons_zero, List.set_cons_succ]
        refine wpAnyK_one (i := 16) (by kernel_rfl) rfl (by decide) (by rfl) (fun K hK => ?_)
        simp only [List.getElem_toArray, List.getElem_cons_succ, List.getElem_cons_zero, Act.put, List.setIfInBounds_toArray, List.set_cons_zero, List.set_cons_succ]
        go_simp
        refine (qround_any f r _ HFO.out HR.out).mono ?_
        rintro e w' ⟨rfl, rfl⟩
        refine hK.out _ _ hS ?_
        clear hK K
        refine wpAnyK_take0 (i := 17) (v := (.tuple #[.int .u32 (r.a : Int), .int .u32 (r.b : Int), .int .u32 (r.c : Int), .int .u32 (r.d : Int)])) rfl (by kernel_rfl) (by kernel_rfl) (by kernel_rfl) (by kernel_rfl) (fun _ _ _ h => h) (Or.inl ⟨by rfl, fun _ => by go_simp⟩) hS ?_
        simp only [List.getElem_toArray, List.getElem_cons_succ, List.getElem_cons_zero, Act.put, List.setIfInBounds_toArray, List.set_cons_zero, List.set_cons_succ]
        refine wpAnyK_take0 (i := 18) (v := (.int .u32 (r.a : Int))) rfl (by kernel_rfl) (by kernel_rfl) (by kernel_rfl) (by kernel_rfl) (fun _ _ _ h => h) (Or.inl ⟨by rfl, fun _ => by go_simp⟩) hS ?_
        simp only [List.getElem_toArray, List.getElem_cons_succ, List.getElem_cons_zero, Act.put, List.setIfInBounds_toArray, List.set_cons_zero, List.set_cons_succ]
        refine wpAnyK_take0 (i := 19) (v := (.int .u32 (r.b : Int))) rfl (by kernel_rfl) (by kernel_rfl) (by kernel_rfl) (by kernel_rfl) (fun _ _ _ h => h) (Or.inl ⟨by rfl, fun _ => by go_simp⟩) hS ?_
        simp only [List.getElem_toArray, List.getElem_cons_succ, List.getElem_cons_zero, Act.put, List.setIfInBounds_toArray, List.set_cons_zero, List.set_cons_succ]
        refine wpAnyK_take0 (i := 20) (v := (.int .u32 (r.c : Int))) rfl (by kernel_rfl) (by kernel_rfl) (by kernel_rfl) (by kernel_rfl) (fun _ _ _ h => h) (Or.inl ⟨by rfl, fun _ => by go_simp⟩) hS ?_
        simp only [List.getElem_toArray, List.getElem_cons_succ, List.getElem_cons_zero, Act.put, List.setIfInBounds_toArray, List.set_cons_zero, List.set_cons_succ]
        refine wpAnyK_take0 (i := 21) (v := (.int .u32 (r.d : Int))) rfl (by kernel_rfl) (by kernel_rfl) (by kernel_rfl) (by kernel_rfl) (fun _ _ _ h => h) (Or.inl ⟨by rfl, fun _ => by go_simp⟩) hS ?_
        simp only [List.getElem_toArray, List.getElem_cons_succ, List.getElem_cons_zero, Act.put, List.setIfInBounds_toArray, List.set_cons_zero, List.set_cons_succ]
        refine wpAnyK_take0 (i := 22) (v := (.pointer (some ⟨gx, q.a, none⟩))) rfl (by kernel_rfl) (by kernel_rfl) (by kernel_rfl) (by kernel_rfl) (fun _ _ _ h => h) (Or.inl ⟨by rfl, fun _ => by go_simp⟩) hS ?_
        simp only [List.getElem_toArray, List.getElem_cons_succ, List.getElem_cons_zero, Act.put, List.setIfInBounds_toArray, List.set_cons_zero, List.set_cons_succ]
        have hc1 := HSa.out _ hS
        have hf1 := bx4.frozen q.a
        refine wpAnyK_K (by kernel_rfl) rfl (by rfl) (fun K hK => ?_)
        simp only [List.getElem_toArray, List.getElem_cons_succ, List.getElem_cons_zero, Act.put, List.setIfInBounds_toArray, List.set_cons_zero, List.set_cons_succ]
        go_simp
        refine hK.out _ _ ?_
        clear hK K hc1 hf1 HSa HSb HSc HSd
        obtain ⟨W5, hW5⟩ : ∃ W, W = W4.setCell ⟨gx, q.a, none⟩ (.int .u32 (r.a : Int)) := ⟨_, rfl⟩
        have bx5 := bx4.set q.a (.int .u32 (r.a : Int))
        have br5 := br4.set_other ⟨gx, q.a, none⟩ (.int .u32 (r.a : Int)) (by simp)
        have hT5 := hT4.set gx q.a (.int .u32 (r.a : Int)) (by omega)
        have hbw5 := hbw4.setCell (p := ⟨gx, q.a, none⟩) (Nat.le_of_eq HGX.out.symm) (.int .u32 (r.a : Int))
        rw [← hW5] at bx5 br5 hT5 hbw5 ⊢
        clear hW5 bx4 br4 hT4 hbw4
        refine wpAny_take (i := 24) (v := (.pointer (some ⟨gx, q.b, none⟩))) rfl (by kernel_rfl) (by kernel_rfl) (by kernel_rfl) (fun _ _ _ h => h) (Or.inl ⟨by rfl, fun _ => by go_simp⟩) ?_
        simp only [List.getElem_toArray, List.getElem_cons_succ, List.getElem_cons_zero, Act.put, List.setIfInBounds_toArray, List.set_cons_zero, List.set_cons_succ]
        have hc1 := bx5.cell q.b
        rw [List.getElem?_eq_getElem (by simp [us_len, HYL.out]; exact ib)] at hc1
        have hf1 := bx5.frozen q.b
        refine wpAny_one (i := 25) (by kernel_rfl) rfl (by rfl) (fun K hK => ?_)
        simp only [List.getElem_toArray, List.getElem_cons_succ, List.getElem_cons_zero, Act.put, List.setIfInBounds_toArray, List.set_cons_zero, List.set_cons_succ]
        go_simp
        refine hK.out _ _ ?_
        clear hK K hc1 hf1
        obtain ⟨W6, hW6⟩ : ∃ W, W = W5.setCell ⟨gx, q.b, none⟩ (.int .u32 (r.b : Int)) := ⟨_, rfl⟩
        have bx6 := bx5.set q.b (.int .u32 (r.b : Int))
        have br6 := br5.set_other ⟨gx, q.b, none⟩ (.int .u32 (r.b : Int)) (by simp)
        have hT6 := hT5.set gx q.b (.int .u32 (r.b : Int)) (by omega)
        have hbw6 := hbw5.setCell (p := ⟨gx, q.b, none⟩) (Nat.le_of_eq HGX.out.symm) (.int .u32 (r.b : Int))
        rw [← hW6] at bx6 br6 hT6 hbw6 ⊢
        clear hW6 bx5 br5 hT5 hbw5
        refine wpAny_take (i := 26) (v := (.pointer (some ⟨gx, q.c, none⟩))) rfl (by kernel_rfl) (by kernel_rfl) (by kernel_rfl) (fun _ _ _ h => h) (Or.inl ⟨by rfl, fun _ => by go_simp⟩) ?_
        simp only [List.getElem_toArray, List.getElem_cons_succ, List.getElem_cons_zero, Act.put, List.setIfInBounds_toArray, List.set_cons_zero, List.set_cons_succ]
        have hc1 := bx6.cell q.c
        rw [List.getElem?_eq_getElem (by simp [us_len, HYL.out]; exact ic)] at hc1
        have hf1 := bx6.frozen q.c
        refine wpAny_one (i := 27) (by kernel_rfl) rfl (by rfl) (fun K hK => ?_)
        simp only [List.getElem_toArray, List.getElem_cons_succ, List.getElem_cons_zero, Act.put, List.setIfInBounds_toArray, List.set_cons_zero, List.set_cons_succ]
        go_simp
        refine hK.out _ _ ?_
        clear hK K hc1 hf1
        obtain ⟨W7, hW7⟩ : ∃ W, W = W6.setCell ⟨gx, q.c, none⟩ (.int .u32 (r.c : Int)) := ⟨_, rfl⟩
        have bx7 := bx6.set q.c (.int .u32 (r.c : Int))
        have br7 := br6.set_other ⟨gx, q.c, none⟩ (.int .u32 (r.c : Int)) (by simp)
        have hT7 := hT6.set gx q.c (.int .u32 (r.c : Int)) (by omega)
        have hbw7 := hbw6.setCell (p := ⟨gx, q.c, none⟩) (Nat.le_of_eq HGX.out.symm) (.int .u32 (r.c : Int))
        rw [← hW7] at bx7 br7 hT7 hbw7 ⊢
        clear hW7 bx6 br6 hT6 hbw6
        refine wpAny_take (i := 28) (v := (.pointer (some ⟨gx, q.d, none⟩))) rfl (by kernel_rfl) (by kernel_rfl) (by kernel_rfl) (fun _ _ _ h => h) (Or.inl ⟨by rfl, fun _ => by go_simp⟩) ?_
        simp only [List.getElem_toArray, List.getElem_cons_succ, List.getElem_cons_zero, Act.put, List.setIfInBounds_toArray, List.set_cons_zero, List.set_cons_succ]
        have hc1 := bx7.cell q.d
        rw [List.getElem?_eq_getElem (by simp [us_len, HYL.out]; exact id)] at hc1
        have hf1 := bx7.frozen q.d
        refine wpAny_one (i := 29) (by kernel_rfl) rfl (by rfl) (fun K hK => ?_)
        simp only [List.getElem_toArray, List.getElem_cons_succ, List.getElem_cons_zero, Act.put, List.setIfInBounds_toArray, List.set_cons_zero, List.set_cons_succ]
        go_simp
        refine hK.out _ _ ?_
        clear hK K hc1 hf1
        obtain ⟨W8, hW8⟩ : ∃ W, W = W7.setCell ⟨gx, q.d, none⟩ (.int .u32 (r.d : Int)) := ⟨_, rfl⟩
        have bx8 := bx7.set q.d (.int .u32 (r.d : Int))
        have br8 := br7.set_other ⟨gx, q.d, none⟩ (.int .u32 (r.d : Int)) (by simp)
        have hT8 := hT7.set gx q.d (.int .u32 (r.d : Int)) (by omega)
        have hbw8 := hbw7.setCell (p := ⟨gx, q.d, none⟩) (Nat.le_of_eq HGX.out.symm) (.int .u32 (r.d : Int))
        rw [us_put4] at bx8
        rw [← hW8] at bx8 br8 hT8 hbw8 ⊢
        clear hW8 bx7 br7 hT7 hbw7
        refine wpAny_done (by kernel_rfl) ?_ _
        have HN : Hid (put4 Y q r = quTo X (k + 1)) := by unfold Hid; rw [quTo, ← HY.out, ← HQ.out, qAt, ← HF.out, ← HR.out]
        go_wp2
        go_roundw
        case rel => exact ⟨k + 1, by omega, by go_num, by rw [← HN.out]; exact bx8, br8, hT8, hbw8⟩
        case measure => simp [intOf]; omega
      · have HK : Hid (k = 8) := (by omega : k = 8)
        rw [HK.out] at bx
        have HN : Hid (quTo X 8 = rds x (10 - m + 1)) := by unfold Hid; rw [rds, ← HXD.out]
        rw [HN.out] at bx
        by_cases hm : m = 1
        · obtain ⟨Z, hZ⟩ : ∃ Z, Z = rds x (10 - m + 1) := ⟨_, rfl⟩
          rw [← hZ] at bx HN
          have HZ : Hid (Z.length = 16) := by unfold Hid; rw [hZ, rds_len, HX.out]
          have HZZ : Hid (Z = R) := by unfold Hid; rw [hZ, hm, HRR.out]
          have hpos : ¬ (0 : Int) < (m : Int) - 1 := by omega
          have HB := Lib.hid bx
          clear hZ hm HN bx HXD
          go_wp2_with (first
            | (refine wpList_load_mid rfl 160 _ rfl _ _ rfl (us Z) _ HB.out.whole Tryz.underlying160 rfl (by rw [size_16, us_len, HZ.out]) ?_)
            | (refine wpList_store_mid rfl 160 _ _ rfl _ _ (us Z).toArray rfl rfl (br.there_ (by simp [zeros, us_len, HZ.out])) (by rw [size_16, List.size_toArray, us_len, HZ.out]) (all_oneCell_toArray (us_one _)) ?_))
          simp only [Exit.jump]
          have hfin := br.over (vs := us Z) (by rw [us_len, HZ.out, zeros_len])
          exact ret_row Tryz.results149 rfl hfin Tryz.underlying160 rfl (by rw [size_16, us_len, HZ.out]) rfl ⟨by rw [HZZ.out], below_setCells hb (by have := HGX.out; omega) _ _⟩
        · obtain ⟨Z, hZ⟩ : ∃ Z, Z = rds x (10 - m + 1) := ⟨_, rfl⟩
          rw [← hZ] at bx HN
          have HZZ := Lib.hid hZ
          have hpos : (0 : Int) < (m : Int) - 1 := by omega
          clear hZ HN HXD
          go_wp2
          go_step3
          have e1 : (m : Int) - 1 = ((m - 1 : Nat) : Int) := by omega
          rw [e1]
          refine ⟨rfl, ⟨m - 1, _, _, _, _, _, _, _, _, _, _, _, _, _, _, _, _, _, _, _, _, _, _, _, _, _, _, _, _, _, _, _, _, _, _, _, _, _, _, _, _, _, _, _, _, _, _, _, _, _, _, rfl, by omega, by omega, ?_, br, hT, hb⟩, ?_⟩
          · rw [show 10 - (m - 1) = 10 - m + 1 by omega, ← HZZ.out]; exact bx
          · simp [intOf]; omega

end Go.Proofs.YtlnoopmblmkgkaaGreatDoor

namespace Go.Proofs.YtlnoopmblmkgkaaGreatDoor
set_option maxRecDepth 100000
open Go.RowKit
set_option linter.unusedVariables false
set_option linter.unusedSimpArgs false

theorem splice_snoc (cs r : List Value) (o : Nat) (v : Value) (h : o + r.length < cs.length) : (splice cs o r).set (o + r.length) v = splice cs o (r ++ [v]) := by
  unfold splice
  have hl : (cs.take o).length = o := by rw [List.length_take]; omega
  rw [List.set_append_right _ _ (by omega), hl, Nat.add_sub_cancel_left, List.set_append_right _ _ (Nat.le_refl _), Nat.sub_self, List.length_append, List.length_singleton, ← Nat.add_assoc,
    List.drop_eq_getElem_cons h, List.set_cons_zero, List.append_assoc]
  rfl
theorem splice_nil (cs : List Value) (o : Nat) : splice cs o [] = cs := by simp [splice]
theorem splice_at (cs r : List Value) (o : Nat) (h : o + r.length ≤ cs.length) (j : Nat) (hj : j < cs.length) : ∃ u, (splice cs o r)[j]? = some u :=
  ⟨_, List.getElem?_eq_getElem (by rw [splice_len cs o r h]; exact hj)⟩

set_option maxHeartbeats 400000 in
theorem loadw_any (g off n c : Nat) (cs : List Value) (T : TypeId) (l : List UInt8) (A : Option Addr) (m c' B : Nat) (w : World) (hg : Bl w g cs T) (hfit : off + n ≤ cs.length) (h : Sl w B A m (cb l)) (hB : B ≤ g) (hc : m ≤ c') (hA : A = none → c' = 0) (h4 : 4 * n = m) (hm : n ≤ 1000) :
    Calls Tryz.prog 150 #[.slice (some ⟨g, off, none⟩) n c, .slice A m c'] w fun e w' => e = .returned (.tuple #[]) ∧ Bl w' g (splice cs off (us (wdsL l n))) T ∧ w.grownBy w' (some g) := by
  have hml : m = l.length := by rw [← h.1, cb_len]
  have HML := Lib.hid hml
  have H4 := Lib.hid h4
  have hgl := hg.lt
  have HFIT := Lib.hid hfit
  clear hml hfit
  go_enter Tryz.func150, Tryz.ntmps150
  go_wp2
  go_loopw [7] (fun i wr => ∃ k : Nat, k ≤ n ∧ i = .int .i64 k ∧ Bl wr g (splice cs off (us (wdsL l k))) T ∧ w.grownBy wr (some g)) (fun i _ => n - (intOf i).toNat)
  case atStart => exact ⟨0, by omega, rfl, by rw [show us (wdsL l 0) = [] from rfl, splice_nil]; exact hg, but_refl w g⟩
  case round =>
    obtain ⟨k, hk, rfl, hb, hgr⟩ := hrel
    by_cases hlt : k < n
    · have hsl := sl_but h hgr (by omega) hB
      have hx4 : 4 * k + 4 ≤ m := by omega
      have i1 : IntKind.i64.wrap (4 * (k : Int)) = 4 * (k : Int) := IntWalk.i64_in _ (by omega)
      have i2 : IntKind.i64.wrap (4 * ((k : Int) + 1)) = 4 * ((k : Int) + 1) := IntWalk.i64_in _ (by omega)
      go_wp2_with (refine wpList_slice_lh rfl 22 _ _ _ rfl 5 Tryz.underlying22 u8_size A m c' (4 * k) (4 * k + 4) .i64 .i64 _ _ rfl rfl rfl (by omega) (by omega) (by omega) (by omega) hA ?_; intro A2 HA2)
      have hs2 := sl_mid (l := 4 * k) (h := 4 * k + 4) hsl (by omega) (by omega) hc
      rw [← HA2.out, show 4 * k + 4 - 4 * k = 4 by omega, ← cb_slice] at hs2
      refine (load_any ((l.drop (4 * k)).take 4) true _ _ _ _ _ hs2 (by decide)).mono ?_
      rintro e w1 ⟨rfl, hD⟩
      obtain ⟨y, hy⟩ : ∃ y, y = wdL l k := ⟨_, rfl⟩
      have HY : Hid (loadV ((l.drop (4 * k)).take 4) true = y) := hy.symm
      rw [HY.out]
      have hb1 := hb.keep (w' := w1) (by obtain ⟨j, rfl⟩ := hD; rfl)
      have hg1 : w.grownBy w1 (some g) := by obtain ⟨j, rfl⟩ := hD; exact but_drewN hgr j
      obtain ⟨C, hC⟩ : ∃ C, C = splice cs off (us (wdsL l k)) := ⟨_, rfl⟩
      have hcl : C.length = cs.length := by rw [hC, splice_len _ _ _ (by rw [us_len, wdsL_len]; have := HFIT.out; omega)]
      rw [← hC] at hb1
      have hcell : ∃ u, w1.cell? ⟨g, off + k, none⟩ = some u := ⟨_, by rw [hb1.cell, List.getElem?_eq_getElem (by rw [hcl]; have := HFIT.out; omega)]⟩
      obtain ⟨u, hcell⟩ := hcell
      have hfr := hb1.frozen (off + k)
      have HS : Hid (C.set (off + k) (.int .u32 (y : Int)) = splice cs off (us (wdsL l (k + 1)))) := by
        unfold Hid
        have := splice_snoc cs (us (wdsL l k)) off (.int .u32 (y : Int)) (by rw [us_len, wdsL_len]; have := HFIT.out; omega)
        rw [us_len, wdsL_len, ← hC] at this
        rw [this, wdsL_succ, us_append, hy]
        rfl
      have d1 := Lib.hid (hb1.set (off + k) (.int .u32 (y : Int)))
      clear hD hs2 hb hgr hb1 hy hC hcl i1 i2
      go_wp2
      go_roundw
      case rel => exact ⟨k + 1, by omega, by go_num, by rw [← HS.out]; exact d1.out, but_setCell hg1 _ _⟩
      case measure => simp [intOf]; omega
    · have HK : Hid (k = n) := (by omega : k = n)
      go_wp2
      go_end0
      rw [HK.out] at hb
      exact ⟨rfl, hb, hgr⟩

end Go.Proofs.YtlnoopmblmkgkaaGreatDoor

namespace Go.Proofs.YtlnoopmblmkgkaaGreatDoor
set_option maxRecDepth 100000
open Go.RowKit
set_option linter.unusedVariables false
set_option linter.unusedSimpArgs false

theorem built_16 : Tryz.prog.built 160 [(0, .int .u32 1634760805), (1, .int .u32 857760878), (2, .int .u32 2036477234), (3, .int .u32 1797285236)] = some (us (cst ++ List.replicate 12 0)).toArray := by kernel_rfl

theorem us_splice (x y : List Nat) (o : Nat) : splice (us x) o (us y) = us (splice x o y) := by simp [splice, us]
theorem st_start (K N : List Nat) (hK : K.length = 8) (hN : N.length = 3) : splice (splice (cst ++ List.replicate 12 0) 4 K) 13 N = cst ++ (K ++ (0 :: N)) := by
  match K, hK, N, hN with
  | [a, b, c, d, e, f, g, h], _, [x, y, z], _ => rfl

theorem init_start (w : World) (Z C : List Value) (T : TypeId) (hl : C.length = Z.length) :
    Bl (((w.alloc (.cells Z.toArray T)).alloc (.cells Z.toArray T)).setCells (w.heap.size + 1) 0 C) w.heap.size Z T ∧
    Bl (((w.alloc (.cells Z.toArray T)).alloc (.cells Z.toArray T)).setCells (w.heap.size + 1) 0 C) (w.heap.size + 1) C T ∧
    (((w.alloc (.cells Z.toArray T)).alloc (.cells Z.toArray T)).setCells (w.heap.size + 1) 0 C).heap.size = w.heap.size + 2 ∧
    Below w.heap.size w (((w.alloc (.cells Z.toArray T)).alloc (.cells Z.toArray T)).setCells (w.heap.size + 1) 0 C) := sum_start w Z T C Z T hl

set_option maxHeartbeats 600000 in
theorem init_any (key nonce : List UInt8) (A0 A1 : Option Addr) (c0 c1 : Nat) (w : World) (s : List Nat) (h0 : Sl w w.heap.size A0 32 (cb key)) (h1 : Sl w w.heap.size A1 12 (cb nonce)) (k0 : 32 ≤ c0) (k1 : 12 ≤ c1) (z0 : A0 = none → c0 = 0) (z1 : A1 = none → c1 = 0) (hs : s = stOf key nonce 0) :
    Calls Tryz.prog 126 #[.slice A0 32 c0, .slice A1 12 c1] w fun e w' => e = .returned (.agg (us s).toArray) ∧ Below w.heap.size w w' := by
  have HS := Lib.hid hs
  clear hs
  obtain ⟨C, hC⟩ : ∃ C, C = us (cst ++ List.replicate 12 0) := ⟨_, rfl⟩
  have hCl : C.length = 16 := by rw [hC]; rfl
  have hCo : ∀ v ∈ C, v.oneCell' = true := by rw [hC]; exact us_one _
  have HBU := built_16
  rw [← hC] at HBU
  have HC := Lib.hid hC
  have HCL := Lib.hid hCl
  have HCO := Lib.hid hCo
  clear hC hCl hCo
  obtain ⟨b0, b1, hsz, hb0⟩ := init_start w (zeros .u32 16) C 160 (by rw [HCL.out, zeros_len])
  obtain ⟨W1, hW1⟩ : ∃ W, W = ((w.alloc (.cells (zeros .u32 16).toArray 160)).alloc (.cells (zeros .u32 16).toArray 160)).setCells (w.heap.size + 1) 0 C := ⟨_, rfl⟩
  rw [← hW1] at b0 b1 hsz hb0
  have HW1 : Hid (W1 = ((w.alloc (.cells (zeros .u32 16).toArray 160)).alloc (.cells (zeros .u32 16).toArray 160)).setCells (w.alloc (.cells (zeros .u32 16).toArray 160)).heap.size 0 C) := by unfold Hid; rw [hW1, alloc_size]
  have HSZ := Lib.hid hsz
  have HBU' := Lib.hid HBU
  clear hW1 hsz HBU
  have hw := w.heap.size
  go_enter Tryz.func126, Tryz.ntmps126
  go_wp2_with (first
    | (refine wpList_build_to rfl 160 _ rfl C HBU'.out ?_)
    | (refine wpList_alloc_zero rfl 160 rfl (zeros .u32 16) zero_16 ?_)
    | (refine wpList_store_mid rfl 160 _ _ rfl _ _ C.toArray rfl rfl (Bl.there_ (Bl.new _ (zeros .u32 16) 160) (by simp [HCL.out, zeros_len])) (by rw [size_16, List.size_toArray, HCL.out]) (all_oneCell_toArray HCO.out) ?_; change wpList _ _ _ _ _ (World.setCells ((w.alloc (.cells (zeros .u32 16).toArray 160)).alloc (.cells (zeros .u32 16).toArray 160)) (w.alloc (.cells (zeros .u32 16).toArray 160)).heap.size 0 C); rw [← HW1.out]))
  refine (loadw_any (w.heap.size + 1) 4 8 12 C 160 key A0 32 c0 w.heap.size W1 b1 (by rw [HCL.out]; omega) (h0.below hb0) (by omega) k0 z0 rfl (by omega)).mono ?_
  rintro e w2 ⟨rfl, b2, g2⟩
  have b02 := b0.grown g2 (by simp)
  have hb2 := below_but hb0 g2 (by rw [HSZ.out]; omega) (by omega)
  have hsz2 := g2.size
  go_wp2_with fail
  refine (loadw_any (w.heap.size + 1) 13 3 3 _ 160 nonce A1 12 c1 w.heap.size w2 b2 (by rw [splice_len _ _ _ (by rw [us_len, wdsL_len, HCL.out]; omega), HCL.out]; omega) (h1.below hb2) (by omega) k1 z1 rfl (by omega)).mono ?_
  rintro e w3 ⟨rfl, b3, g3⟩
  have b03 := b02.grown g3 (by simp)
  have hb3 := below_but hb2 g3 (by have := HSZ.out; omega) (by omega)
  have HE : Hid (splice (splice C 4 (us (wdsL key 8))) 13 (us (wdsL nonce 3)) = us s) := by
    unfold Hid
    rw [HC.out, us_splice, us_splice, st_start _ _ (wdsL_len _ _) (wdsL_len _ _), HS.out]; rfl
  rw [HE.out] at b3
  have HSL : Hid (s.length = 16) := by unfold Hid; rw [HS.out, stOf_len]
  have HB := Lib.hid b3
  clear b0 b1 b2 b02 b3 hb0 hb2 g2 g3
  go_wp2_with (first
    | (refine wpList_load_mid rfl 160 _ rfl _ _ rfl (us s) _ HB.out.whole Tryz.underlying160 rfl (by rw [size_16, us_len, HSL.out]) ?_)
    | (refine wpList_store_mid rfl 160 _ _ rfl _ _ (us s).toArray rfl rfl (b03.there_ (by simp [zeros, us_len, HSL.out])) (by rw [size_16, List.size_toArray, us_len, HSL.out]) (all_oneCell_toArray (us_one _)) ?_))
  have hfin := b03.over (vs := us s) (by rw [us_len, HSL.out, zeros_len])
  exact ret_row Tryz.results126 rfl hfin Tryz.underlying160 rfl (by rw [size_16, us_len, HSL.out]) rfl ⟨rfl, below_setCells hb3 (Nat.le_refl _) _ _⟩

theorem fit_any (n m c d : Nat) (A B : Option Addr) (w : World) :
    Calls Tryz.prog 96 #[.slice A n c, .slice B m d] w fun e w' => e = .returned (.bool (n == 32 && m == 12)) ∧ w = w' := by
  by_cases h1 : n = 32
  · have q1 : ((n : Int) == 32) = true := by simp; omega
    by_cases h2 : m = 12
    · have q2 : ((m : Int) == 12) = true := by simp; omega
      have H : Hid ((n == 32 && m == 12) = true) := by unfold Hid; simp [h1, h2]
      clear h1 h2
      go_enter Tryz.func96, Tryz.ntmps96
      go_wp2
      go_ret
      exact ⟨ret_bool (by rw [H.out]), rfl⟩
    · have q2 : ((m : Int) == 12) = false := by simp; omega
      have H : Hid ((n == 32 && m == 12) = false) := by unfold Hid; simp [h1, h2]
      clear h1 h2
      go_enter Tryz.func96, Tryz.ntmps96
      go_wp2
      go_ret
      exact ⟨ret_bool (by rw [H.out]), rfl⟩
  · have q1 : ((n : Int) == 32) = false := by simp; omega
    have H : Hid ((n == 32 && m == 12) = false) := by unfold Hid; simp [h1]
    clear h1
    go_enter Tryz.func96, Tryz.ntmps96
    go_wp2
    go_ret
    exact ⟨ret_bool (by rw [H.out]), rfl⟩

theorem cright_any (n m c d : Nat) (A B : Option Addr) (w : World) :
    Calls Tryz.prog 69 #[.slice A n c, .slice B m d] w fun e w' => e = .returned (.bool (n == 32 && m == 12)) ∧ w = w' := by
  by_cases h1 : n = 32
  · have q1 : ((n : Int) == 32) = true := by simp; omega
    by_cases h2 : m = 12
    · have q2 : ((m : Int) == 12) = true := by simp; omega
      have H : Hid ((n == 32 && m == 12) = true) := by unfold Hid; simp [h1, h2]
      clear h1 h2
      go_enter Tryz.func69, Tryz.ntmps69
      go_wp2
      go_ret
      exact ⟨ret_bool (by rw [H.out]), rfl⟩
    · have q2 : ((m : Int) == 12) = false := by simp; omega
      have H : Hid ((n == 32 && m == 12) = false) := by unfold Hid; simp [h1, h2]
      clear h1 h2
      go_enter Tryz.func69, Tryz.ntmps69
      go_wp2
      go_ret
      exact ⟨ret_bool (by rw [H.out]), rfl⟩
  · have q1 : ((n : Int) == 32) = false := by simp; omega
    have H : Hid ((n == 32 && m == 12) = false) := by unfold Hid; simp [h1]
    clear h1
    go_enter Tryz.func69, Tryz.ntmps69
    go_wp2
    go_ret
    exact ⟨ret_bool (by rw [H.out]), rfl⟩

end Go.Proofs.YtlnoopmblmkgkaaGreatDoor

namespace Go.Proofs.YtlnoopmblmkgkaaGreatDoor
set_option maxRecDepth 100000
open Go.RowKit
set_option linter.unusedVariables false
set_option linter.unusedSimpArgs false

theorem bo_start (w : World) (S Z : List Value) (T T2 : TypeId) (i : Nat) (v : Value) :
    Bl ((((w.alloc (.cells S.toArray T)).alloc (.cells Z.toArray T2)).setCell ⟨w.heap.size, i, none⟩ v)) w.heap.size (S.set i v) T ∧
    Bl ((((w.alloc (.cells S.toArray T)).alloc (.cells Z.toArray T2)).setCell ⟨w.heap.size, i, none⟩ v)) (w.heap.size + 1) Z T2 ∧
    (((w.alloc (.cells S.toArray T)).alloc (.cells Z.toArray T2)).setCell ⟨w.heap.size, i, none⟩ v).heap.size = w.heap.size + 2 ∧
    Below w.heap.size w (((w.alloc (.cells S.toArray T)).alloc (.cells Z.toArray T2)).setCell ⟨w.heap.size, i, none⟩ v) := by
  have e1 : (w.alloc (.cells S.toArray T)).heap.size = w.heap.size + 1 := by simp
  have b2 : Bl ((w.alloc (.cells S.toArray T)).alloc (.cells Z.toArray T2)) (w.heap.size + 1) Z T2 := by rw [← e1]; exact Bl.new _ _ _
  exact ⟨((Bl.new w S T).alloc _).set i v, b2.set_other _ _ (by simp), by rw [heap_size_setCell]; simp, (((Below.refl _ w).alloc (Nat.le_refl _) _).alloc (by simp) _).setCell (p := ⟨w.heap.size, i, none⟩) (Nat.le_refl _) _⟩

theorem us_set (x : List Nat) (i v : Nat) : (us x).set i (.int .u32 (v : Int)) = us (x.set i v) := by simp [us, List.map_set, uc]

set_option maxRecDepth 100000 in
set_option maxHeartbeats 600000 in
theorem bo_any (s : List Nat) (n : Nat) (w : World) (hs : s.length = 16) (hw : Wds s) (hn : n < 4294967296) (hT : TabC w) (B : List UInt8) (hB : B = blkS (s.set 12 n)) :
    Calls Tryz.prog 125 #[.agg (us s).toArray, .int .u32 n] w fun e w' => e = .returned (.agg (cb B).toArray) ∧ Below w.heap.size w w' := by
  obtain ⟨X, hX⟩ : ∃ X, X = s.set 12 n := ⟨_, rfl⟩
  have HXL : Hid (X.length = 16) := by unfold Hid; rw [hX]; simp [hs]
  have HXW : Hid (Wds X) := by unfold Hid; rw [hX]; exact hw.set _ hn
  obtain ⟨R, hR⟩ : ∃ R, R = rds X 10 := ⟨_, rfl⟩
  have HRL : Hid (R.length = 16) := by unfold Hid; rw [hR, rds_len, HXL.out]
  have HRW : Hid (Wds R) := by unfold Hid; rw [hR]; exact rds_ok HXW.out _
  have HBB : Hid (B = outL (sumL R X)) := by unfold Hid; rw [hB, hR, ← hX]; rfl
  have HBL : Hid (B.length = 64) := by unfold Hid; rw [HBB.out, outL_len, sumL_len _ _ (by rw [HRL.out, HXL.out]), HRL.out]
  have HS := Lib.hid hs
  obtain ⟨b0, b1, hsz, hb0⟩ := bo_start w (us s) (zeros .u8 64) 160 124 12 (.int .u32 (n : Int))
  rw [us_set, ← hX] at b0
  have HRR := Lib.hid hR
  have HT := Lib.hid hT
  have hts := hT.size
  have q12 : (w.alloc (.cells (us s).toArray 160)).alloc (.cells (zeros .u8 64).toArray 124) = (w.alloc (.cells (us s).toArray 160)).alloc (.cells (zeros .u8 64).toArray 124) := rfl
  have hc12 : ∃ u, ((w.alloc (.cells (us s).toArray 160)).alloc (.cells (zeros .u8 64).toArray 124)).cell? ⟨w.heap.size, 12, none⟩ = some u := ⟨_, by rw [((Bl.new w (us s) 160).alloc _).cell, List.getElem?_eq_getElem (by rw [us_len, hs]; omega)]⟩
  obtain ⟨u12, hc12⟩ := hc12
  have hf12 := ((Bl.new w (us s) 160).alloc (.cells (zeros .u8 64).toArray 124)).frozen 12
  obtain ⟨W0, hW0⟩ : ∃ W, W = (w.alloc (.cells (us s).toArray 160)).alloc (.cells (zeros .u8 64).toArray 124) := ⟨_, rfl⟩
  rw [← hW0] at b0 b1 hsz hb0 hc12 hf12
  have HW0 := Lib.hid hW0
  clear hX hR hB hs hT q12 hW0
  obtain ⟨W1, hW1⟩ : ∃ W, W = W0.setCell ⟨w.heap.size, 12, none⟩ (.int .u32 (n : Int)) := ⟨_, rfl⟩
  rw [← hW1] at b0 b1 hsz hb0
  have HW1 := Lib.hid hW1
  clear hW1
  obtain ⟨bk, hb2, hz2⟩ := put_new W1 (zeros .u8 64) (zeros .u8 64) 124 rfl
  obtain ⟨W2, hW2⟩ : ∃ W, W = (W1.alloc (.cells (zeros .u8 64).toArray 124)).setCells W1.heap.size 0 (zeros .u8 64) := ⟨_, rfl⟩
  rw [← hW2] at bk hb2 hz2
  have HW2 := Lib.hid hW2
  have b02 := b0.next hb2
  have b12 := b1.next hb2
  have hbw2 := next hb0 hb2
  obtain ⟨gb, hgb⟩ : ∃ g, g = W1.heap.size := ⟨_, rfl⟩
  rw [← hgb] at bk
  have hgb1 : w.heap.size + 2 = gb := by rw [hgb, hsz]
  have HGB := Lib.hid hgb
  have HB02 := Lib.hid b02
  clear hW2 b0 b1 hz2 hsz hgb
  go_enter Tryz.func125, Tryz.ntmps125
  go_wp2_with (first
    | (refine wpList_box_agg rfl 160 _ rfl (us s) rfl ?_)
    | (refine wpList_alloc_zero rfl 124 rfl (zeros .u8 64) zero_block ?_; first | (rw [← HW0.out]) | (rw [← HW1.out]))
    | (refine wpList_build_to rfl 124 _ rfl (zeros .u8 64) built_block ?_)
    | (refine wpList_store_mid rfl 124 _ _ rfl _ _ (zeros .u8 64).toArray rfl rfl (Bl.there_ (Bl.new W1 (zeros .u8 64) 124) (by simp [zeros])) (by rw [size_block, List.size_toArray, zeros_len]) (all_oneCell_toArray (zeros_one _ _)) ?_; change wpList _ _ _ _ _ (World.setCells (W1.alloc (.cells (zeros .u8 64).toArray 124)) W1.heap.size 0 (zeros .u8 64)); rw [← HW2.out])
    | (refine wpList_load_mid rfl 160 _ rfl _ _ rfl (us X) _ HB02.out.whole Tryz.underlying160 rfl (by rw [size_16, us_len, HXL.out]) ?_))
  rw [← HGB.out]
  refine (cafter_any X W2 HXL.out HXW.out (HT.out.next hbw2)).mono ?_
  rintro e w3 ⟨rfl, hb3⟩
  rw [← HRR.out]
  have b03 := b02.next hb3
  have b13 := b12.next hb3
  have bk3 := bk.next hb3
  have hbw3 := next hbw2 hb3
  have hT3 := HT.out.next hbw3
  clear b02 b12 bk hbw2 hb3 HB02 HW0 HW1 HW2 hc12 hf12 hb0 hb2 HRR
  go_wp2
  go_loopw [13] (fun i wr => ∃ k : Nat, k ≤ 16 ∧ i = .int .i64 k ∧ Bl wr w.heap.size (us X) 160 ∧ Bl wr (w.heap.size + 1) (zeros .u8 64) 124 ∧ Bl wr gb (cb (upTo B (4 * k))) 124 ∧ Below w.heap.size w wr) (fun i _ => 16 - (intOf i).toNat)
  case atStart => exact ⟨0, by omega, rfl, b03, b13, by rw [Nat.mul_zero, upTo_zero, HBL.out, cb_zeros]; exact bk3, hbw3⟩
  case round =>
    clear b03 b13 bk3 hbw3 hT3
    obtain ⟨k, hk, rfl, b0, b1, bk, hb⟩ := hrel
    by_cases hlt : k < 16
    · obtain ⟨r, hr⟩ : ∃ r, r = R.getD k 0 := ⟨_, rfl⟩
      obtain ⟨x, hx⟩ : ∃ x, x = X.getD k 0 := ⟨_, rfl⟩
      have hv : (us R)[k]? = some (.int .u32 (r : Int)) := by rw [us_at (by rw [HRL.out]; exact hlt), hr]
      have hc : wr.cell? ⟨w.heap.size, k, none⟩ = some (.int .u32 (x : Int)) := by rw [b0.cell, us_at (by rw [HXL.out]; exact hlt), hx]
      obtain ⟨z, hz⟩ : ∃ z, z = add32 r x := ⟨_, rfl⟩
      have ez := add32_int _ _ _ hz
      have HZ : Hid (stored z true = (B.drop (4 * k)).take 4) := by
        unfold Hid
        rw [HBB.out, outL_part _ _ (by rw [sumL_len _ _ (by rw [HRL.out, HXL.out]), HRL.out]; exact hlt), sumL_at _ _ _ (by rw [HRL.out]; exact hlt) (by rw [HXL.out]; exact hlt), ← hr, ← hx, ← hz]
      have HV := Lib.hid hv
      clear hr hx hv hz
      have hsl4 := run_slice_arr_from (P := Tryz.prog) (t := 124) (e := 5) (g := gb) (o := 0) (n := 64) (ht := Tryz.underlying124) (he := u8_size) (kl := .i64) (L := 4 * (k : Int)) (l := 4 * k) (eL := by omega) (h3 := by omega)
      have HSL := Lib.hid hsl4
      clear hsl4
      have x4 : IntKind.i64.wrap (4 * (k : Int)) = 4 * (k : Int) := IntWalk.i64_in _ (by omega)
      have hi1 : (k : Int) < 16 := by omega
      go_wp2_with fail
      rw [run_index_agg wr 160 81 16 .i64 .u32 Tryz.underlying160 Tryz.underlying81 u32_size (us R) _ k (.int .u32 (r : Int)) rfl hlt HV.out]
      go_wp2_with fail
      refine wp_region_any (by kernel_rfl) ?_
      change wpAny _ _ _ _ _ _ _ (World.drew _)
      refine wpAny_take (i := 0) (v := (.int .i64 (k : Int))) rfl (by kernel_rfl) (by kernel_rfl) (by kernel_rfl) (fun _ _ _ h => h) (Or.inl ⟨by rfl, fun _ => by go_simp⟩) ?_
      simp only [List.getElem_toArray, List.getElem_cons_succ, List.getElem_cons_zero, Act.put, List.setIfInBounds_toArray, List.set_cons_zero, List.set_cons_succ]
      refine wpAny_take (i := 1) (v := (.int .i64 (4 * (k : Int)))) rfl (by kernel_rfl) (by kernel_rfl) (by kernel_rfl) (fun _ _ _ h => h) (Or.inl ⟨by rfl, fun _ => by go_simp⟩) ?_
      simp only [List.getElem_toArray, List.getElem_cons_succ, List.getElem_cons_zero, Act.put, List.setIfInBounds_toArray, List.set_cons_zero, List.set_cons_succ]
      refine wpAny_take (i := 2) (v := (.slice (some ⟨gb, 4 * k, none⟩) (64 - 4 * k) (64 - 4 * k))) rfl (by kernel_rfl) (by kernel_rfl) (by kernel_rfl) (fun _ _ _ h => h) (Or.inl ⟨by rfl, fun _ => by go_simp; rw [HSL.out, Nat.zero_add]; rfl⟩) ?_
      simp only [List.getElem_toArray, List.getElem_cons_succ, List.getElem_cons_zero, Act.put, List.setIfInBounds_toArray, List.set_cons_zero, List.set_cons_succ]
      refine wpAny_take (i := 3) (v := (.int .u32 (r : Int))) rfl (by kernel_rfl) (by kernel_rfl) (by kernel_rfl) (fun _ _ _ h => h) (Or.inl ⟨by rfl, fun _ => by go_simp⟩) ?_
      simp only [List.getElem_toArray, List.getElem_cons_succ, List.getElem_cons_zero, Act.put, List.setIfInBounds_toArray, List.set_cons_zero, List.set_cons_succ]
      refine wpAny_take (i := 4) (v := (.int .i64 (k : Int))) rfl (by kernel_rfl) (by kernel_rfl) (by kernel_rfl) (fun _ _ _ h => h) (Or.inl ⟨by rfl, fun _ => by go_simp⟩) ?_
      simp only [List.getElem_toArray, List.getElem_cons_succ, List.getElem_cons_zero, Act.put, List.setIfInBounds_toArray, List.set_cons_zero, List.set_cons_succ]
      refine wpAny_take (i := 5) (v := (.pointer (some ⟨w.heap.size, k, none⟩))) rfl (by kernel_rfl) (by kernel_rfl) (by kernel_rfl) (fun _ _ _ h => h) (Or.inl ⟨by rfl, fun _ => by go_simp⟩) ?_
      simp only [List.getElem_toArray, List.getElem_cons_succ, List.getElem_cons_zero, Act.put, List.setIfInBounds_toArray, List.set_cons_zero, List.set_cons_succ]
      clear x4
      have hc' : wr.drew.cell? ⟨w.heap.size, k, none⟩ = some (.int .u32 (x : Int)) := hc
      refine wpAny_one (i := 6) (by kernel_rfl) rfl (by rfl) (fun K hK => ?_)
      simp only [List.getElem_toArray, List.getElem_cons_succ, List.getElem_cons_zero, Act.put, List.setIfInBounds_toArray, List.set_cons_zero, List.set_cons_succ]
      go_simp
      refine hK.out _ _ ?_
      clear hK K hc hc'
      refine wpAny_take (i := 7) (v := (.int .u32 (z : Int))) rfl (by kernel_rfl) (by kernel_rfl) (by kernel_rfl) (fun _ _ _ h => h) (Or.inl ⟨by rfl, fun _ => by go_simp; rw [IntKind.wrap_u32]; exact ez⟩) ?_
      simp only [List.getElem_toArray, List.getElem_cons_succ, List.getElem_cons_zero, Act.put, List.setIfInBounds_toArray, List.set_cons_zero, List.set_cons_succ]
      refine wpAny_one (i := 8) (by kernel_rfl) rfl (by rfl) (fun K hK => ?_)
      simp only [List.getElem_toArray, List.getElem_cons_succ, List.getElem_cons_zero, Act.put, List.setIfInBounds_toArray, List.set_cons_zero, List.set_cons_succ]
      go_simp
      refine (store_any z true _).mono ?_
      rintro e w5 ⟨A5, c5, rfl, hnew5⟩
      refine hK.out _ _ ?_
      clear hK K
      have b05 := b0.drew.next hnew5.below
      have b15 := b1.drew.next hnew5.below
      have bk5 := bk.drew.next hnew5.below
      have hb5 : Below w.heap.size w w5 := hb.drew.trans (hnew5.below.mono (by have := hb.size; simp; omega))
      obtain ⟨w6, hcp, bk6, hg6⟩ := run_copy_but (P := Tryz.prog) w5 22 22 3 5 Tryz.underlying22 u8_size gb (4 * k) (64 - 4 * k) (64 - 4 * k) _ A5 4 c5 (cb (stored z true)) hnew5.sl _ _ bk5 (by rw [cb_len, upTo_len _ _ (by rw [HBL.out]; omega), HBL.out]; omega) (cb_one _)
      rw [List.take_of_length_le (by rw [cb_len, stored_len]; omega), ← cb_splice, upTo_splice B (stored z true) (4 * k) (by rw [stored_len]; exact HZ.out) (by rw [stored_len, HBL.out]; omega), stored_len] at bk6
      have b06 := b05.grown hg6 (by simp; omega)
      have b16 := b15.grown hg6 (by simp; omega)
      have hb6 : Below w.heap.size w w6 := below_but hb5 hg6 (by have := hb5.size; omega) (by omega)
      have HCP := Lib.hid hcp
      clear hcp b05 b15 bk5 hb5 hg6 hnew5 b0 b1 bk hb
      refine wpAny_one (i := 9) (by kernel_rfl) rfl (by rfl) (fun K hK => ?_)
      simp only [List.getElem_toArray, List.getElem_cons_succ, List.getElem_cons_zero, Act.put, List.setIfInBounds_toArray, List.set_cons_zero, List.set_cons_succ]
      go_simp
      rw [HCP.out]
      go_simp
      refine hK.out _ _ ?_
      clear hK K
      refine wpAny_done (by kernel_rfl) ?_ _
      go_wp2
      go_roundw
      case rel => exact ⟨k + 1, by omega, by go_num, b06, b16, by rw [show 4 * (k + 1) = 4 * k + 4 by omega]; exact bk6, hb6⟩
      case measure => simp [intOf]; omega
    · have HK : Hid (k = 16) := (by omega : k = 16)
      have hall : Bl wr gb (cb B) 124 := by rw [HK.out, show 4 * 16 = B.length from HBL.out.symm, upTo_all] at bk; exact bk
      have HA := Lib.hid hall
      clear bk hall
      go_wp2_with (first
        | (refine wpList_load_mid rfl 124 _ rfl _ _ rfl (cb B) _ HA.out.whole Tryz.underlying124 rfl (by rw [size_block, cb_len, HBL.out]) ?_)
        | (refine wpList_store_mid rfl 124 _ _ rfl _ _ (cb B).toArray rfl rfl (b1.there_ (by simp [zeros, cb_len, HBL.out])) (by rw [size_block, List.size_toArray, cb_len, HBL.out]) (all_oneCell_toArray (cb_one _)) ?_))
      have hfin := b1.over (vs := cb B) (by rw [cb_len, HBL.out, zeros_len])
      exact ret_row Tryz.results125 rfl hfin Tryz.underlying124 rfl (by rw [size_block, cb_len, HBL.out]) rfl ⟨rfl, below_setCells hb (by omega) _ _⟩

end Go.Proofs.YtlnoopmblmkgkaaGreatDoor

namespace Go.Proofs.YtlnoopmblmkgkaaGreatDoor
set_option maxRecDepth 100000
open Go.RowKit
set_option linter.unusedVariables false
set_option linter.unusedSimpArgs false

theorem stb (key nonce : List UInt8) (n : Nat) : blkS ((stOf key nonce 0).set 12 n) = cblk key nonce n := by rw [stOf_set]; rfl

/-- What Block gives. -/
def blkR (key nonce : List UInt8) (n : Nat) : List UInt8 := if fitK key nonce then cblk key nonce n else List.replicate 64 0
def blkE (key nonce : List UInt8) : Int := if fitK key nonce then 0 else 1

set_option maxHeartbeats 600000 in
theorem block_any (key nonce : List UInt8) (n : Nat) (A0 A1 : Option Addr) (n0 n1 c0 c1 : Nat) (w : World) (hn : n < 4294967296) (h0 : Sl w w.heap.size A0 n0 (cb key)) (h1 : Sl w w.heap.size A1 n1 (cb nonce)) (k0 : n0 ≤ c0) (k1 : n1 ≤ c1) (z0 : A0 = none → c0 = 0) (z1 : A1 = none → c1 = 0) (hT : TabC w) :
    Calls Tryz.prog 94 #[.slice A0 n0 c0, .slice A1 n1 c1, .int .u32 n] w fun e w' => e = .returned (.tuple #[.agg (cb (blkR key nonce n)).toArray, .int .i64 (blkE key nonce)]) ∧ Below w.heap.size w w' := by
  have hn0 : n0 = key.length := by rw [← h0.1, cb_len]
  have hn1 : n1 = nonce.length := by rw [← h1.1, cb_len]
  obtain ⟨B, hB⟩ : ∃ B, B = blkR key nonce n := ⟨_, rfl⟩
  have HBL : Hid (B.length = 64) := by unfold Hid; rw [hB]; unfold blkR; split <;> simp [cblk_len]
  rw [← hB]
  obtain ⟨E, hE⟩ : ∃ E, E = blkE key nonce := ⟨_, rfl⟩
  rw [← hE]
  have b0 := Bl.new w (zeros .u8 64) 124
  have hb0 : Below w.heap.size w (w.alloc (.cells (zeros .u8 64).toArray 124)) := (Below.refl _ w).alloc (Nat.le_refl _) _
  have hsz0 : (w.alloc (.cells (zeros .u8 64).toArray 124)).heap.size = w.heap.size + 1 := by simp
  obtain ⟨W0, hW0⟩ : ∃ W, W = w.alloc (.cells (zeros .u8 64).toArray 124) := ⟨_, rfl⟩
  rw [← hW0] at b0 hb0 hsz0
  have HW0 := Lib.hid hW0
  have HSZ0 := Lib.hid hsz0
  have HT := Lib.hid hT
  have HK0 := Lib.hid hn0
  have HK1 := Lib.hid hn1
  have hf := fit_any n0 n1 c0 c1 A0 A1 W0
  by_cases hfit : fitK key nonce = true
  · have HB : Hid (B = cblk key nonce n) := by unfold Hid; rw [hB, blkR, if_pos hfit]
    have HE : Hid (E = 0) := by unfold Hid; rw [hE, blkE, if_pos hfit]
    have hq : n0 = 32 ∧ n1 = 12 := by rw [hn0, hn1]; simpa [fitK] using hfit
    obtain ⟨rfl, rfl⟩ := hq
    have HF : Hid (Calls Tryz.prog 96 #[.slice A0 32 c0, .slice A1 12 c1] W0 fun e w' => e = .returned (.bool true) ∧ W0 = w') := hf
    clear hfit hB hE hn0 hn1 hsz0 hT hf hW0
    go_enter Tryz.func94, Tryz.ntmps94
    go_wp2_with (refine wpList_alloc_zero rfl 124 rfl (zeros .u8 64) zero_block ?_; rw [← HW0.out])
    refine HF.out.mono ?_
    rintro e w' ⟨rfl, rfl⟩
    obtain ⟨s, hs⟩ : ∃ s, s = stOf key nonce 0 := ⟨_, rfl⟩
    have HS := Lib.hid hs
    have HSL : Hid (s.length = 16) := by unfold Hid; rw [hs, stOf_len]
    have HSW : Hid (Wds s) := by unfold Hid; rw [hs]; exact stOf_ok _ _ _ (by decide)
    clear hs
    go_wp2_with fail
    refine (init_any key nonce A0 A1 c0 c1 _ s (h0.nx hb0) (h1.nx hb0) k0 k1 z0 z1 HS.out).mono ?_
    rintro e w2 ⟨rfl, hb2⟩
    have b02 := b0.next hb2
    have hbw2 := next hb0 hb2
    go_wp2_with fail
    refine (bo_any s n _ HSL.out HSW.out hn (HT.out.next hbw2) B (by rw [HB.out, HS.out, stb])).mono ?_
    rintro e w3 ⟨rfl, hb3⟩
    have b03 := b02.next hb3
    have hbw3 := next hbw2 hb3
    clear b02 hbw2 hb2 hb3 b0 hb0
    go_wp2_with (refine wpList_store_mid rfl 124 _ _ rfl _ _ (cb B).toArray rfl rfl (b03.there_ (by simp [zeros, cb_len, HBL.out])) (by rw [size_block, List.size_toArray, cb_len, HBL.out]) (all_oneCell_toArray (cb_one _)) ?_)
    have hfin := b03.over (vs := cb B) (by rw [cb_len, HBL.out, zeros_len])
    exact ret_row_tmp Tryz.results94 rfl hfin Tryz.underlying124 rfl (by rw [size_block, cb_len, HBL.out]) rfl ⟨by rw [HE.out]; rfl, below_setCells hbw3 (Nat.le_refl _) _ _⟩
  · have HB : Hid (cb B = zeros .u8 64) := by unfold Hid; rw [hB, blkR, if_neg hfit, zeros_cb]
    have HE : Hid (E = 1) := by unfold Hid; rw [hE, blkE, if_neg hfit]
    have hq : (n0 == 32 && n1 == 12) = false := by rw [hn0, hn1]; simpa [fitK] using hfit
    rw [hq] at hf
    have HF := Lib.hid hf
    clear hfit hB hE hn0 hn1 hsz0 hT hf hW0 hq
    go_enter Tryz.func94, Tryz.ntmps94
    go_wp2_with (refine wpList_alloc_zero rfl 124 rfl (zeros .u8 64) zero_block ?_; rw [← HW0.out])
    refine HF.out.mono ?_
    rintro e w' ⟨rfl, rfl⟩
    go_wp2_with (first
      | (refine wpList_build_to rfl 124 _ rfl (zeros .u8 64) built_block ?_)
      | (refine wpList_store_mid rfl 124 _ _ rfl _ _ (zeros .u8 64).toArray rfl rfl (b0.there_ (by simp [zeros])) (by rw [size_block, List.size_toArray, zeros_len]) (all_oneCell_toArray (zeros_one _ _)) ?_))
    have hfin := b0.over (vs := zeros .u8 64) rfl
    exact ret_row_tmp Tryz.results94 rfl hfin Tryz.underlying124 rfl (by rw [size_block, zeros_len]) rfl ⟨by rw [HE.out, HB.out]; rfl, below_setCells hb0 (Nat.le_refl _) _ _⟩

theorem bfor_any (n : Nat) (w : World) (hn : n ≤ 9223372036854775807) :
    Calls Tryz.prog 97 #[.int .i64 n] w fun e w' => e = .returned (.int .u64 (blksN n : Nat)) ∧ w = w' := by
  have H : Hid (((n : Int) + 64 - 1) / 64 = ((blksN n : Nat) : Int)) := by unfold Hid blksN; omega
  go_enter Tryz.func97, Tryz.ntmps97
  go_wp2
  go_ret
  exact ⟨ret_int H.out, rfl⟩

end Go.Proofs.YtlnoopmblmkgkaaGreatDoor

namespace Go.Proofs.YtlnoopmblmkgkaaGreatDoor
set_option maxRecDepth 100000
open Go.RowKit
set_option linter.unusedVariables false
set_option linter.unusedSimpArgs false

/-- What Blocks gives where key and nonce may be. -/
def RetSeq (w : World) (key nonce : List UInt8) (f : Nat) (e : Ending) (w' : World) : Prop := ∃ gF gS, e = .returned (.func (.func 131) #[] #[.pointer (some ⟨gF, 0, none⟩), .pointer (some ⟨gS, 0, none⟩)]) ∧ w.heap.size ≤ gF ∧ gF < gS ∧
  Bl w' gF [.int .u32 (f : Int)] 81 ∧ Bl w' gS (us (stOf key nonce 0)) 160 ∧ Below w.heap.size w w'

set_option maxHeartbeats 600000 in
theorem blocks_any (key nonce : List UInt8) (f : Nat) (A0 A1 : Option Addr) (c0 c1 : Nat) (w : World) (h0 : Sl w w.heap.size A0 32 (cb key)) (h1 : Sl w w.heap.size A1 12 (cb nonce)) (k0 : 32 ≤ c0) (k1 : 12 ≤ c1) (z0 : A0 = none → c0 = 0) (z1 : A1 = none → c1 = 0) :
    Calls Tryz.prog 98 #[.slice A0 32 c0, .slice A1 12 c1, .int .u32 f] w (RetSeq w key nonce f) := by
  have b0 := Bl.new w [.int .u32 (f : Int)] 81
  have hb0 : Below w.heap.size w (w.alloc (.cells [Value.int .u32 (f : Int)].toArray 81)) := (Below.refl _ w).alloc (Nat.le_refl _) _
  have hsz0 : (w.alloc (.cells [Value.int .u32 (f : Int)].toArray 81)).heap.size = w.heap.size + 1 := by simp
  obtain ⟨W0, hW0⟩ : ∃ W, W = w.alloc (.cells [Value.int .u32 (f : Int)].toArray 81) := ⟨_, rfl⟩
  rw [← hW0] at b0 hb0 hsz0
  have HW0 := Lib.hid hW0
  have HSZ0 := Lib.hid hsz0
  have HF : Hid (Calls Tryz.prog 96 #[.slice A0 32 c0, .slice A1 12 c1] W0 fun e w' => e = .returned (.bool true) ∧ W0 = w') := fit_any 32 12 c0 c1 A0 A1 W0
  clear hsz0 hW0
  go_enter Tryz.func98, Tryz.ntmps98
  go_wp2_with fail
  rw [← HW0.out]
  refine HF.out.mono ?_
  rintro e w' ⟨rfl, rfl⟩
  obtain ⟨s, hs⟩ : ∃ s, s = stOf key nonce 0 := ⟨_, rfl⟩
  have HS := Lib.hid hs
  have HSL : Hid (s.length = 16) := by unfold Hid; rw [hs, stOf_len]
  clear hs
  go_wp2_with fail
  refine (init_any key nonce A0 A1 c0 c1 _ s (h0.nx hb0) (h1.nx hb0) k0 k1 z0 z1 HS.out).mono ?_
  rintro e w2 ⟨rfl, hb2⟩
  have b02 := b0.next hb2
  have hbw2 := next hb0 hb2
  obtain ⟨bs, hb3, hz3⟩ := put_new w2 (zeros .u32 16) (us s) 160 (by rw [us_len, HSL.out, zeros_len])
  have b03 := b02.next hb3
  have hbw3 := next hbw2 hb3
  have hlt : w.heap.size < w2.heap.size := by have h1 := hb2.size; have h2 := HSZ0.out; omega
  have hmk : Hid (∀ w', (Instr.makeFunc (.func 131) #[] #[.pointer (some ⟨w.heap.size, 0, none⟩), .pointer (some ⟨w2.heap.size, 0, none⟩)]).run Tryz.prog w' = .ok (.func (.func 131) #[] #[.pointer (some ⟨w.heap.size, 0, none⟩), .pointer (some ⟨w2.heap.size, 0, none⟩)]) w') := fun _ => rfl
  clear b02 hbw2 hb2 b0 hb0
  go_wp2_with (first
    | (refine wpList_alloc_zero rfl 160 rfl (zeros .u32 16) zero_16 ?_)
    | (refine wpList_store_mid rfl 160 _ _ rfl _ _ (us s).toArray rfl rfl (Bl.there_ (Bl.new w2 (zeros .u32 16) 160) (by simp [zeros, us_len, HSL.out])) (by rw [size_16, List.size_toArray, us_len, HSL.out]) (all_oneCell_toArray (us_one _)) ?_))
  go_ret
  exact ⟨w.heap.size, w2.heap.size, rfl, Nat.le_refl _, hlt, b03, by rw [← HS.out]; exact bs, hbw3⟩

theorem blocks_none (n m f : Nat) (A0 A1 : Option Addr) (c0 c1 : Nat) (w : World) (hq : (n == 32 && m == 12) = false) :
    Calls Tryz.prog 98 #[.slice A0 n c0, .slice A1 m c1, .int .u32 f] w fun e w' => e = .returned (.func (.func 130) #[] #[]) ∧ Below w.heap.size w w' := by
  have hf := fit_any n m c0 c1 A0 A1 (w.alloc (.cells #[Value.int .u32 (f : Int)] 81))
  rw [hq] at hf
  have HF := Lib.hid hf
  clear hf hq
  go_enter Tryz.func98, Tryz.ntmps98
  go_wp2_with fail
  refine HF.out.mono ?_
  rintro e w' ⟨rfl, rfl⟩
  go_wp2
  go_ret
  exact ⟨rfl, (Below.refl _ w).alloc (Nat.le_refl _) _⟩

theorem xl_take_len (l b : List UInt8) (t : Nat) (hl : t ≤ l.length) (hb : t ≤ b.length) : (xl (l.take t) (b.take t)).length = t := by simp [xl]; omega
theorem xl_take_at (l b : List UInt8) (t k : Nat) (hl : t ≤ l.length) (hb : t ≤ b.length) (hk : k < t) : (xl (l.take t) (b.take t))[k]? = some (l[k]'(by omega) ^^^ b[k]'(by omega)) := by
  simp [xl, List.getElem?_zipWith, List.getElem?_take, hk, show k < l.length by omega, show k < b.length by omega]
theorem cb_take_succ (z : List UInt8) (k : Nat) (b : UInt8) (h : z[k]? = some b) : cb (z.take (k + 1)) = cb (z.take k) ++ [bc b] := by
  obtain ⟨hk, e⟩ := List.getElem?_eq_some_iff.1 h
  rw [List.take_succ_eq_append_getElem hk, cb_append, e]
  rfl

set_option maxHeartbeats 600000 in
theorem mixb_any (gm off n c : Nat) (cs : List Value) (T : TypeId) (l blk : List UInt8) (A : Option Addr) (m c' B t : Nat) (w : World) (hg : Bl w gm cs T) (hfit : off + n ≤ cs.length) (h : Sl w B A m (cb l)) (hB : B ≤ w.heap.size) (ho : Off gm m A) (hb : blk.length = 64) (hmn : m ≤ n) (hm : m ≤ 1000000000000) (ht : t = min m 64) :
    Calls Tryz.prog 99 #[.slice (some ⟨gm, off, none⟩) n c, .slice A m c', .agg (cb blk).toArray] w fun e w' => e = .returned (.int .i64 (t : Nat)) ∧ Bl w' gm (splice cs off (cb (xl (l.take t) (blk.take t)))) T ∧ w.grownBy w' (some gm) := by
  have hml : m = l.length := by rw [← h.1, cb_len]
  have htm : t ≤ m ∧ t ≤ 64 := by omega
  obtain ⟨htm, ht64⟩ := htm
  obtain ⟨z, hz⟩ : ∃ z, z = xl (l.take t) (blk.take t) := ⟨_, rfl⟩
  have HZL : Hid (z.length = t) := by unfold Hid; rw [hz]; exact xl_take_len l blk t (by omega) (by omega)
  have HZA : Hid (∀ k, k < t → ∃ x y : UInt8, l[k]? = some x ∧ blk[k]? = some y ∧ z[k]? = some (x ^^^ y)) := fun k hk => ⟨_, _, List.getElem?_eq_getElem (by omega), List.getElem?_eq_getElem (by omega), by rw [hz]; exact xl_take_at l blk t k (by omega) (by omega) hk⟩
  rw [← hz]
  have HML := Lib.hid hml
  have HBL := Lib.hid hb
  have HFIT := Lib.hid hfit
  have hgl := hg.lt
  have bb := Bl.new w (cb blk) 124
  have hg0 := hg.alloc (.cells (cb blk).toArray 124)
  have hgr0 : w.grownBy (w.alloc (.cells (cb blk).toArray 124)) (some gm) := but_below ((Below.refl _ w).alloc (Nat.le_refl _) _)
  have hmin : (if (64 : Int) < (m : Int) then (64 : Int) else (m : Int)) = (t : Int) := by split <;> omega
  clear hml hb hfit hz ht
  go_enter Tryz.func99, Tryz.ntmps99
  go_wp2_with (refine wpList_box_agg rfl 124 _ rfl (cb blk) rfl ?_)
  go_loopw [13] (fun i wr => ∃ k : Nat, k ≤ t ∧ i = .int .i64 k ∧ Bl wr gm (splice cs off (cb (z.take k))) T ∧ Bl wr w.heap.size (cb blk) 124 ∧ w.grownBy wr (some gm)) (fun i _ => t - (intOf i).toNat)
  case atStart => exact ⟨0, by omega, rfl, by rw [List.take_zero, show cb [] = [] from rfl, splice_nil]; exact hg0, bb, hgr0⟩
  case round =>
    clear bb hg0 hgr0
    obtain ⟨k, hk, rfl, bm, bb, hgr⟩ := hrel
    by_cases hlt : k < t
    · obtain ⟨x, y, hx, hy, hzk⟩ := HZA.out k hlt
      obtain ⟨hkl, ex⟩ := List.getElem?_eq_some_iff.1 hx
      have hsl := sl_off h hgr hB ho
      obtain ⟨ad, hA, hbl, hc1⟩ := hsl.byte (j := k) hkl
      rw [ex] at hc1
      have hc2 := bb.cell k
      rw [cb, List.getElem?_map, hy] at hc2
      have hc2' : wr.cell? ⟨w.heap.size, k, none⟩ = some (.int .u8 (y.toNat : Int)) := hc2
      obtain ⟨C, hC⟩ : ∃ C, C = splice cs off (cb (z.take k)) := ⟨_, rfl⟩
      have hzt : (cb (z.take k)).length = k := by rw [cb_len, List.length_take, HZL.out]; omega
      have hcl : C.length = cs.length := by rw [hC, splice_len _ _ _ (by rw [hzt]; have := HFIT.out; omega)]
      have HS : Hid (C.set (off + k) (bc (x ^^^ y)) = splice cs off (cb (z.take (k + 1)))) := by
        unfold Hid
        have := splice_snoc cs (cb (z.take k)) off (bc (x ^^^ y)) (by rw [hzt]; have := HFIT.out; omega)
        rw [hzt, ← hC] at this
        rw [this, cb_take_succ z k _ hzk]
      rw [← hC] at bm
      obtain ⟨u, hcm⟩ : ∃ u, wr.cell? ⟨gm, off + k, none⟩ = some u := ⟨_, by rw [bm.cell, List.getElem?_eq_getElem (by rw [hcl]; have := HFIT.out; omega)]⟩
      have hf := bm.frozen (off + k)
      have hx1 := x.toNat_lt
      have hy1 := y.toNat_lt
      have HX := Lib.hid (byte_xor2 x y)
      have hi0 : (0 : Int) ≤ (k : Int) := by omega
      have hi1 : (k : Int) < 64 := by omega
      have hi2 : (k : Int) < (m : Int) := by omega
      have hi3 : (k : Int) < (n : Int) := by omega
      have d1 := Lib.hid (bm.set (off + k) (bc (x ^^^ y)))
      have hne : gm ≠ w.heap.size := by omega
      clear hc2 hx hy hzk ex hC hzt hcl hsl hbl hmin
      subst hA
      go_wp2
      go_still_tail 11, (by kernel_rfl)
      go_wp2
      go_roundw
      case rel =>
        rw [HX.out]
        exact ⟨k + 1, by omega, by go_num, by rw [← HS.out]; exact d1.out.drew, (bb.set_other _ _ (Ne.symm hne)).drew, but_drewN (but_setCell hgr _ _) 1⟩
      case measure => simp [intOf]; omega
    · have HK : Hid (k = t) := (by omega : k = t)
      rw [HK.out, List.take_of_length_le (by rw [HZL.out]; omega)] at bm
      go_wp2
      go_ret
      exact ⟨rfl, bm, hgr⟩

end Go.Proofs.YtlnoopmblmkgkaaGreatDoor
