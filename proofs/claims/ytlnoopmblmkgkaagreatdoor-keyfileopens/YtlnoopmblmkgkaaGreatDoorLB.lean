/- Mixing twice; what Mix tells where it is right (package cipher, pure). -/
import Derived.Test.YtlnoopmblmkgkaaGreatDoorLC
import Derived.Test.YtlnoopmblmkgkaaGreatDoorLO
import Derived.Test.YtlnoopmblmkgkaaGreatDoorLK
namespace Go.Proofs.YtlnoopmblmkgkaaGreatDoor
set_option maxRecDepth 100000
set_option linter.unusedVariables false
set_option linter.unusedSimpArgs false

theorem mixL_twice (key nonce : List UInt8) (f : Nat) (b : List UInt8) : mixL key nonce f (mixL key nonce f b) = b := by
  apply List.ext_getElem?
  intro i
  by_cases hi : i < b.length
  · have h1 : (mixL key nonce f (mixL key nonce f b))[i]? = some ((mixL key nonce f (mixL key nonce f b)).getD i 0) := by
      have : i < (mixL key nonce f (mixL key nonce f b)).length := by rw [mixL_len, mixL_len]; exact hi
      simp [this]
    rw [h1, mixL_at _ _ _ _ _ (by rw [mixL_len]; exact hi), mixL_at _ _ _ _ _ hi, UInt8.xor_assoc, UInt8.xor_self, UInt8.xor_zero]
    simp [hi]
  · rw [List.getElem?_eq_none (by rw [mixL_len, mixL_len]; omega), List.getElem?_eq_none (by omega)]

theorem mix_ok (key nonce : List UInt8) (f : Nat) (b : List UInt8) (h : mixE key nonce f b = 0) : mixR key nonce f b = mixL key nonce f b ∧ fitK key nonce = true ∧ blksN b.length ≤ 4294967296 - f := by
  unfold mixE at h
  unfold mixR
  by_cases h1 : fitK key nonce = true
  · rw [if_pos h1] at h ⊢
    by_cases h2 : blksN b.length ≤ 4294967296 - f
    · rw [if_pos h2]; exact ⟨rfl, h1, h2⟩
    · rw [if_neg h2] at h; exact absurd h (by decide)
  · rw [if_neg h1] at h; exact absurd h (by decide)
theorem mix_bad (key nonce : List UInt8) (f : Nat) (b : List UInt8) (h : ¬ mixE key nonce f b = 0) : mixR key nonce f b = [] := by
  unfold mixE at h
  unfold mixR
  by_cases h1 : fitK key nonce = true
  · rw [if_pos h1] at h ⊢
    by_cases h2 : blksN b.length ≤ 4294967296 - f
    · rw [if_pos h2] at h; exact absurd rfl h
    · rw [if_neg h2]
  · rw [if_neg h1]
theorem mix_fits (key nonce : List UInt8) (f : Nat) (b : List UInt8) (h1 : fitK key nonce = true) (h2 : blksN b.length ≤ 4294967296 - f) : mixR key nonce f b = mixL key nonce f b ∧ mixE key nonce f b = 0 := by
  unfold mixR mixE
  rw [if_pos h1, if_pos h2, if_pos h1, if_pos h2]
  exact ⟨rfl, rfl⟩
theorem mix_twice (key nonce : List UInt8) (f : Nat) (b : List UInt8) (h : mixE key nonce f b = 0) : (mixR key nonce f b).length = b.length ∧ mixR key nonce f (mixR key nonce f b) = b ∧ mixE key nonce f (mixR key nonce f b) = 0 := by
  obtain ⟨e1, e2, e3⟩ := mix_ok key nonce f b h
  have hl : (mixR key nonce f b).length = b.length := by rw [e1, mixL_len]
  obtain ⟨g1, g2⟩ := mix_fits key nonce f (mixR key nonce f b) e2 (by rw [hl]; exact e3)
  exact ⟨hl, by rw [g1, e1, mixL_twice], g2⟩

end Go.Proofs.YtlnoopmblmkgkaaGreatDoor

namespace Go.Proofs.YtlnoopmblmkgkaaGreatDoor
set_option maxRecDepth 100000
open Go.RowKit
set_option linter.unusedVariables false
set_option linter.unusedSimpArgs false

/-- The key of the one tag. -/
def once (key nonce : List UInt8) : List UInt8 := (cblk key nonce 0).take 32
theorem once_len (key nonce : List UInt8) : (once key nonce).length = 32 := by unfold once; rw [List.length_take, cblk_len]; rfl
/-- What is tagged. -/
def aadL (o c : List UInt8) : List UInt8 := fillL o 16 ++ (fillL c 16 ++ (le o.length 8 ++ le c.length 8))
def btag (key nonce o c : List UInt8) : List UInt8 := tagL (once key nonce) (aadL o c)
theorem btag_len (key nonce o c : List UInt8) : (btag key nonce o c).length = 16 := tagL_len _ _
/-- The box. -/
def boxL (key nonce o t : List UInt8) : List UInt8 := mixL key nonce 1 t ++ btag key nonce o (mixL key nonce 1 t)
theorem boxL_len (key nonce o t : List UInt8) : (boxL key nonce o t).length = t.length + 16 := by unfold boxL; rw [List.length_append, mixL_len, btag_len]
def sealE (key nonce : List UInt8) : Int := if fitK key nonce then 0 else 1
def sealR (key nonce o t : List UInt8) : List UInt8 := if fitK key nonce then boxL key nonce o t else []
/-- A box's two parts. -/
def bodyL (b : List UInt8) : List UInt8 := b.take (b.length - 16)
def tailL (b : List UInt8) : List UInt8 := b.drop (b.length - 16)
theorem body_tail (b : List UInt8) : bodyL b ++ tailL b = b := List.take_append_drop _ _
theorem body_len (b : List UInt8) : (bodyL b).length = b.length - 16 := by unfold bodyL; rw [List.length_take]; omega
theorem tail_len (b : List UInt8) (h : 16 ≤ b.length) : (tailL b).length = 16 := by unfold tailL; rw [List.length_drop]; omega
def holdsB (key nonce o b : List UInt8) : Bool := sameB (btag key nonce o (bodyL b)) (tailL b)
def openE (key nonce o b : List UInt8) : Int := if fitK key nonce then (if b.length < 16 then 3 else if holdsB key nonce o b then 0 else 7) else 1
def openR (key nonce o b : List UInt8) : List UInt8 := if fitK key nonce then (if b.length < 16 then [] else if holdsB key nonce o b then mixL key nonce 1 (bodyL b) else []) else []

theorem blks_few (n : Nat) (h : n ≤ 1000000) : blksN n ≤ 4294967296 - 1 := by unfold blksN; omega
theorem mix_in (key nonce b : List UInt8) (h1 : fitK key nonce = true) (h2 : b.length ≤ 1000000) : mixR key nonce 1 b = mixL key nonce 1 b ∧ mixE key nonce 1 b = 0 := mix_fits key nonce 1 b h1 (blks_few _ h2)
theorem mix_out (key nonce b : List UInt8) (h1 : ¬ fitK key nonce = true) : mixR key nonce 1 b = [] ∧ mixE key nonce 1 b = 1 := by
  unfold mixR mixE; rw [if_neg h1, if_neg h1]; exact ⟨rfl, rfl⟩

/-- A box that is sealed of what a box has is the box, just if its tag holds. -/
theorem again_same (key nonce o b : List UInt8) (h : 16 ≤ b.length) : sameB (boxL key nonce o (mixL key nonce 1 (bodyL b))) b = holdsB key nonce o b := by
  unfold holdsB sameB boxL
  rw [mixL_twice]
  apply decide_eq_decide.2
  constructor
  · intro e
    have e2 := e.trans (body_tail b).symm
    exact List.append_cancel_left e2
  · intro e; rw [e, body_tail]
theorem body_box (key nonce o t : List UInt8) : bodyL (boxL key nonce o t) = mixL key nonce 1 t := by
  unfold bodyL; rw [boxL_len]; unfold boxL
  rw [show t.length + 16 - 16 = (mixL key nonce 1 t).length by rw [mixL_len]; omega, List.take_left]
theorem tail_box (key nonce o t : List UInt8) : tailL (boxL key nonce o t) = btag key nonce o (mixL key nonce 1 t) := by
  unfold tailL; rw [boxL_len]; unfold boxL
  rw [show t.length + 16 - 16 = (mixL key nonce 1 t).length by rw [mixL_len]; omega, List.drop_left]
theorem holds_box (key nonce o t : List UInt8) : holdsB key nonce o (boxL key nonce o t) = true := by
  unfold holdsB sameB; rw [body_box, tail_box]; simp
theorem open_box (key nonce o t : List UInt8) (h : fitK key nonce = true) : openR key nonce o (boxL key nonce o t) = t ∧ openE key nonce o (boxL key nonce o t) = 0 := by
  have hl : ¬ (boxL key nonce o t).length < 16 := by have := boxL_len key nonce o t; omega
  have hh := holds_box key nonce o t
  unfold openR openE
  rw [if_pos h, if_pos h, if_neg hl, if_neg hl, if_pos hh, if_pos hh, body_box, mixL_twice]
  exact ⟨rfl, rfl⟩
theorem box_open (key nonce o b : List UInt8) (h : fitK key nonce = true) (h16 : 16 ≤ b.length) (hh : holdsB key nonce o b = true) : boxL key nonce o (mixL key nonce 1 (bodyL b)) = b := by
  have := again_same key nonce o b h16
  rw [hh] at this
  simpa [sameB] using this
theorem openE_zero {key nonce o b : List UInt8} (h : openE key nonce o b = 0) : fitK key nonce = true ∧ 16 ≤ b.length ∧ holdsB key nonce o b = true := by
  unfold openE at h
  by_cases h1 : fitK key nonce = true
  · rw [if_pos h1] at h
    by_cases h2 : b.length < 16
    · rw [if_pos h2] at h; exact absurd h (by decide)
    · rw [if_neg h2] at h
      by_cases h3 : holdsB key nonce o b = true
      · exact ⟨h1, by omega, h3⟩
      · rw [if_neg h3] at h; exact absurd h (by decide)
  · rw [if_neg h1] at h; exact absurd h (by decide)
theorem openR_zero {key nonce o b : List UInt8} (h : openE key nonce o b = 0) : openR key nonce o b = mixL key nonce 1 (bodyL b) := by
  obtain ⟨h1, h2, h3⟩ := openE_zero h
  have h2' : ¬ b.length < 16 := by omega
  unfold openR; rw [if_pos h1, if_neg h2', if_pos h3]
theorem openR_bad {key nonce o b : List UInt8} (h : ¬ openE key nonce o b = 0) : openR key nonce o b = [] := by
  unfold openE at h
  unfold openR
  by_cases h1 : fitK key nonce = true
  · rw [if_pos h1] at h ⊢
    by_cases h2 : b.length < 16
    · rw [if_pos h2]
    · rw [if_neg h2] at h ⊢
      by_cases h3 : holdsB key nonce o b = true
      · rw [if_pos h3] at h; exact absurd rfl h
      · rw [if_neg h3]
  · rw [if_neg h1]
theorem openE_i64 (key nonce o b : List UInt8) : openE key nonce o b = 0 ∨ openE key nonce o b = 1 ∨ openE key nonce o b = 3 ∨ openE key nonce o b = 7 := by
  unfold openE
  by_cases h1 : fitK key nonce = true
  · rw [if_pos h1]
    by_cases h2 : b.length < 16
    · rw [if_pos h2]; exact Or.inr (Or.inr (Or.inl rfl))
    · rw [if_neg h2]
      by_cases h3 : holdsB key nonce o b = true
      · rw [if_pos h3]; exact Or.inl rfl
      · rw [if_neg h3]; exact Or.inr (Or.inr (Or.inr rfl))
  · rw [if_neg h1]; exact Or.inr (Or.inl rfl)

theorem le_halves (n : Nat) : le (n % 4294967296) 4 ++ le (n / 4294967296) 4 = le n 8 := by
  apply List.ext_getElem?
  intro i
  by_cases hi : i < 8
  · rw [le_at n 8 i hi]
    by_cases h4 : i < 4
    · rw [List.getElem?_append_left (by rw [le_len]; exact h4), le_at _ _ _ h4]
      congr 2
      rcases (show i = 0 ∨ i = 1 ∨ i = 2 ∨ i = 3 by omega) with rfl | rfl | rfl | rfl <;> simp only [Nat.reducePow] <;> omega
    · rw [List.getElem?_append_right (by rw [le_len]; omega), le_len, le_at _ _ _ (by omega)]
      congr 2
      rcases (show i = 4 ∨ i = 5 ∨ i = 6 ∨ i = 7 by omega) with rfl | rfl | rfl | rfl <;> simp only [Nat.reducePow, Nat.reduceSub] <;> omega
  · rw [List.getElem?_eq_none (by rw [List.length_append, le_len, le_len]; omega), List.getElem?_eq_none (by rw [le_len]; omega)]

theorem fill16_le (l : List UInt8) : (fillL l 16).length ≤ l.length + 15 := by
  rw [show (16 : Int) = ((16 : Nat) : Int) from rfl, fill_size l 16 (by omega) (by omega), List.length_append, List.length_replicate]
  have := fillZ_lt l.length 16 (by omega)
  omega
theorem aadL_len (o c : List UInt8) : (aadL o c).length ≤ o.length + c.length + 46 := by
  unfold aadL
  rw [List.length_append, List.length_append, List.length_append, le_len, le_len]
  have := fill16_le o
  have := fill16_le c
  omega

end Go.Proofs.YtlnoopmblmkgkaaGreatDoor

namespace Go.Proofs.YtlnoopmblmkgkaaGreatDoor
set_option maxRecDepth 100000
open Go.RowKit
set_option linter.unusedVariables false
set_option linter.unusedSimpArgs false

theorem retFillB {E : TypeId} {w w' : World} {n : Nat} {l : List UInt8} {A : Option Addr} {c : Nat} (h : NewBytes E w n l A c w') : RetBytes E w l.length l (.returned (.slice A n c)) w' := by
  have hn : l.length = n := by rw [← cb_len l, h.sl.1]
  subst hn
  exact ⟨A, c, rfl, h⟩

theorem bfilled_any (l : List UInt8) (w : World) (B : Nat) (A : Option Addr) (n c : Nat) (h : Sl w B A n (cb l)) (hm : n ≤ 140737488351232) (hB : B ≤ w.heap.size) :
    Calls Tryz.prog 101 #[.slice A n c] w (RetBytes 5 w (fillL l 16).length (fillL l 16)) := by
  go_enter Tryz.func101, Tryz.ntmps101
  go_wp2_with fail
  refine (fill_any l 16 w B A n c h hm hB).mono ?_
  rintro e w1 ⟨A1, n1, c1, rfl, hn⟩
  have HN := Lib.hid hn
  clear hn
  go_wp2
  go_ret
  exact retFillB HN.out

theorem brfilled_any (l : List UInt8) (w : World) (B : Nat) (A : Option Addr) (n c : Nat) (h : Sl w B A n (cb l)) (hA : A = none → c = 0) (hm : n ≤ 140737488351232) (hB : B ≤ w.heap.size) :
    Calls Tryz.prog 71 #[.slice A n c] w (RetBytes 5 w (fillL l 16).length (fillL l 16)) := by
  go_enter Tryz.func71, Tryz.ntmps71
  go_wp2_with fail
  refine (rfill_any l 16 w B A n c h hA hm hB).mono ?_
  rintro e w1 ⟨A1, n1, c1, rfl, hn⟩
  have HN := Lib.hid hn
  clear hn
  go_wp2
  go_ret
  exact retFillB HN.out

theorem eight_any (n : Nat) (w : World) (hn : n < 9223372036854775808) :
    Calls Tryz.prog 72 #[.int .i64 n] w (RetBytes 5 w 8 (le n 8)) := by
  go_enter Tryz.func72, Tryz.ntmps72
  go_wp2_with fail
  refine (told_any n 8 w (by omega) (by omega)).mono ?_
  rintro e w1 ⟨A1, c1, rfl, h1⟩
  go_wp2_with fail
  refine (rback_any (le n 8).reverse w1 _ A1 8 c1 h1.sl (by omega) (Nat.le_refl _)).mono ?_
  rintro e w2 ⟨A2, c2, rfl, h2⟩
  rw [List.reverse_reverse] at h2
  have HN := Lib.hid (h2.down h1.below)
  clear h1 h2
  go_wp2
  go_ret
  exact ⟨A2, c2, rfl, HN.out⟩

theorem blen_any (n c : Nat) (A : Option Addr) (w : World) (hn : n < 9223372036854775808) :
    Calls Tryz.prog 102 #[.slice A n c] w (RetBytes 5 w 8 (le n 8)) := by
  obtain ⟨i0, hi, hz0, hz1, hz2⟩ := info_parts u8_info
  have HM1 : Hid ((n : Int) % 4294967296 = ((n % 4294967296 : Nat) : Int)) := by unfold Hid; omega
  have HM2 : Hid ((n : Int) / 4294967296 = ((n / 4294967296 : Nat) : Int)) := by unfold Hid; omega
  obtain ⟨x, hx⟩ : ∃ x, x = n % 4294967296 := ⟨_, rfl⟩
  obtain ⟨y, hy⟩ : ∃ y, y = n / 4294967296 := ⟨_, rfl⟩
  have HL : Hid (stored x true ++ stored y true = le n 8) := by unfold Hid; rw [← le_halves n, ← hx, ← hy]; rfl
  rw [← hx] at HM1
  rw [← hy] at HM2
  clear hx hy
  go_enter Tryz.func102, Tryz.ntmps102
  go_wp2_with fail
  rw [HM1.out]
  refine (store_any x true w).mono ?_
  rintro e w1 ⟨A1, c1, rfl, h1⟩
  go_wp2_with fail
  rw [HM2.out]
  refine (store_any y true w1).mono ?_
  rintro e w2 ⟨A2, c2, rfl, h2⟩
  have hown := own_below h1.own h2.below
  have hb2 := next h1.below h2.below
  clear h1
  go_wp2_with (at_builtin; refine wpList_append_sl _ rfl _ _ 22 rfl w.heap.size 5 i0 (.int .u8 0) 1 Tryz.underlying22 hi hz0 hz1 hz2 rfl _ 4 _ rfl hown _ A2 4 c2 (cb (stored y true)) rfl h2.sl h2.none_ (cb_one _) (by unfold maxLen; omega) (by omega) hb2.size ?_; intro v3 w3 hown3 hgrow3 hat3)
  have hb3 := below_app hb2 (Nat.le_refl _) hown hgrow3
  rw [← cb_append] at hown3
  have HO := Lib.hid hown3
  clear hgrow3 hat3 hown h2 hown3
  go_wp2
  go_ret
  exact retBytes rfl HL.out HO.out hb3

end Go.Proofs.YtlnoopmblmkgkaaGreatDoor

namespace Go.Proofs.YtlnoopmblmkgkaaGreatDoor
set_option maxRecDepth 100000
open Go.RowKit
set_option linter.unusedVariables false
set_option linter.unusedSimpArgs false

/-- What adderOf tells. -/
def AdderPost (w : World) (key nonce : List UInt8) (e : Ending) (w' : World) : Prop :=
  (fitK key nonce = true ∧ ∃ g, e = .returned (.tuple #[.pointer (some ⟨g, 0, none⟩), .int .i64 0]) ∧ w.heap.size ≤ g ∧ Ad w' g (once key nonce) [] ∧ Below w.heap.size w w') ∨
  (¬ fitK key nonce = true ∧ e = .returned (.tuple #[.pointer none, .int .i64 1]) ∧ Below w.heap.size w w')

set_option maxHeartbeats 600000 in
theorem adderOf_any (key nonce : List UInt8) (A0 A1 : Option Addr) (n0 n1 c0 c1 : Nat) (w : World) (h0 : Sl w w.heap.size A0 n0 (cb key)) (h1 : Sl w w.heap.size A1 n1 (cb nonce)) (k0 : n0 ≤ c0) (k1 : n1 ≤ c1) (z0 : A0 = none → c0 = 0) (z1 : A1 = none → c1 = 0) (hT : TabC w) :
    Calls Tryz.prog 62 #[.slice A0 n0 c0, .slice A1 n1 c1] w (AdderPost w key nonce) := by
  obtain ⟨B, hB⟩ : ∃ B, B = blkR key nonce 0 := ⟨_, rfl⟩
  have HBL : Hid (B.length = 64) := by unfold Hid; rw [hB]; unfold blkR; split <;> simp [cblk_len]
  have HB := Lib.hid hB
  clear hB
  go_enter Tryz.func62, Tryz.ntmps62
  go_wp2_with fail
  refine (block_any key nonce 0 A0 A1 n0 n1 c0 c1 w (by decide) h0 h1 k0 k1 z0 z1 hT).mono ?_
  rintro e w1 ⟨rfl, hb1⟩
  rw [← HB.out]
  obtain ⟨bB, hb2, hz2⟩ := put_new w1 (zeros .u8 64) (cb B) 124 (by rw [cb_len, HBL.out, zeros_len])
  obtain ⟨W2, hW2⟩ : ∃ W, W = (w1.alloc (.cells (zeros .u8 64).toArray 124)).setCells w1.heap.size 0 (cb B) := ⟨_, rfl⟩
  rw [← hW2] at bB hb2 hz2
  have HW2 := Lib.hid hW2
  have hbw2 := next hb1 hb2
  have h1z := hb1.size
  clear hW2 hz2 hb2 hb1 h0 h1 hT
  by_cases hfit : fitK key nonce = true
  · have HO : Hid (B.take 32 = once key nonce) := by unfold Hid; rw [HB.out, blkR, if_pos hfit]; rfl
    rw [show blkE key nonce = 0 by rw [blkE, if_pos hfit]]
    have HF := Lib.hid hfit
    have hsl : Sl W2 W2.heap.size (some ⟨w1.heap.size, 0, none⟩) 32 (cb (once key nonce)) := by
      have := (bB.sl (o := 0) (n := 32) (xs := cb (B.take 32)) (by rw [List.drop_zero, cb, List.map_take]; rfl) (by rw [cb_len, HBL.out]; omega)).up bB.lt
      rwa [HO.out] at this
    clear hfit bB
    go_wp2_with (first
      | (refine wpList_alloc_zero rfl 124 rfl (zeros .u8 64) zero_block ?_)
      | (refine wpList_store_mid rfl 124 _ _ rfl _ _ (cb B).toArray rfl rfl (Bl.there_ (Bl.new w1 (zeros .u8 64) 124) (by simp [zeros, cb_len, HBL.out])) (by rw [size_block, List.size_toArray, cb_len, HBL.out]) (all_oneCell_toArray (cb_one _)) ?_; change wpList _ _ _ _ _ (World.setCells (w1.alloc (.cells (zeros .u8 64).toArray 124)) w1.heap.size 0 (cb B)); rw [← HW2.out]))
    refine (onew_any (once key nonce) W2 _ 32 _ hsl (by omega) (by intro h; cases h) (by decide)).mono ?_
    rintro e w3 (⟨_, g, rfl, hg, hst, hb3⟩ | ⟨hk, _, _⟩)
    · have hbw3 := next hbw2 hb3
      have h2z := hbw2.size
      have HST := Lib.hid hst
      clear hst hb3 hsl
      go_wp2
      go_ret2
      exact Or.inl ⟨HF.out, g, rfl, by omega, HST.out, hbw3⟩
    · exact absurd (once_len key nonce) hk
  · rw [show blkE key nonce = 1 by rw [blkE, if_neg hfit]]
    have HF := Lib.hid hfit
    clear hfit bB
    go_wp2_with (first
      | (refine wpList_alloc_zero rfl 124 rfl (zeros .u8 64) zero_block ?_)
      | (refine wpList_store_mid rfl 124 _ _ rfl _ _ (cb B).toArray rfl rfl (Bl.there_ (Bl.new w1 (zeros .u8 64) 124) (by simp [zeros, cb_len, HBL.out])) (by rw [size_block, List.size_toArray, cb_len, HBL.out]) (all_oneCell_toArray (cb_one _)) ?_; change wpList _ _ _ _ _ (World.setCells (w1.alloc (.cells (zeros .u8 64).toArray 124)) w1.heap.size 0 (cb B)); rw [← HW2.out]))
    go_ret2
    exact Or.inr ⟨HF.out, rfl, hbw2⟩

/-- What tagOf tells. -/
structure TagPost (w : World) (g : Nat) (l : List UInt8) (A : Option Addr) (c : Nat) (w' : World) : Prop where
  sl : Sl w' w'.heap.size A 16 (cb l)
  cap : 16 ≤ c
  none_ : A = none → c = 0
  new : ∀ ad, A = some ad → w.heap.size ≤ ad.block
  but : w.grownBy w' (some g)

def RetTag (w : World) (g : Nat) (l : List UInt8) (e : Ending) (w' : World) : Prop := ∃ A c, e = .returned (.slice A 16 c) ∧ TagPost w g l A c w'

theorem off_new {w1 w' : World} {E : TypeId} {n g : Nat} {l : List UInt8} {A : Option Addr} {c : Nat} (h : NewBytes E w1 n l A c w') (hg : g < w1.heap.size) : Off g n A := fun _ ad e => by
  have := own_new (w' := w') h.own ad e
  omega

set_option maxHeartbeats 1000000 in
theorem tagOf_any (g : Nat) (key o c : List UInt8) (A2 A3 : Option Addr) (n2 n3 c2 c3 : Nat) (w : World) (hst : Ad w g key []) (hkey : key.length = 32) (h2 : Sl w w.heap.size A2 n2 (cb o)) (h3 : Sl w w.heap.size A3 n3 (cb c)) (o2 : Off g n2 A2) (o3 : Off g n3 A3) (m2 : n2 ≤ 1000000) (m3 : n3 ≤ 1000000) :
    Calls Tryz.prog 64 #[.pointer (some ⟨g, 0, none⟩), .slice A2 n2 c2, .slice A3 n3 c3] w (RetTag w g (tagL key (aadL o c))) := by
  have hn2 : n2 = o.length := by rw [← h2.1, cb_len]
  have hn3 : n3 = c.length := by rw [← h3.1, cb_len]
  have HK := Lib.hid hkey
  have HN2 := Lib.hid hn2
  have HN3 := Lib.hid hn3
  have HF2 : Hid ((fillL o 16).length ≤ 1000015) := by unfold Hid; have := fill16_le o; omega
  have HF3 : Hid ((fillL c 16).length ≤ 1000015) := by unfold Hid; have := fill16_le c; omega
  have hgl := hst.lt
  clear hkey hn2 hn3
  go_enter Tryz.func64, Tryz.ntmps64
  go_wp2_with fail
  refine (bfilled_any o w _ A2 n2 c2 h2 (by omega) (Nat.le_refl _)).mono ?_
  rintro e w1 ⟨X1, d1, rfl, x1⟩
  have st1 := hst.next x1.below
  have b1 : w.grownBy w1 (some g) := but_below x1.below
  have of1 := off_new x1 hgl
  clear hst
  go_wp2_with fail
  refine (oadd_any g key [] (fillL o 16) w1 _ X1 _ d1 st1 x1.sl (Nat.le_refl _) of1 (own_cap x1.own) x1.none_ (by unfold maxLen; have := HF2.out; omega)).mono ?_
  rintro e w2 ⟨rfl, st2, g2⟩
  replace b1 := but_trans b1 g2
  clear st1 x1 of1 g2
  have z2 := b1.size
  go_wp2_with fail
  refine (bfilled_any c w2 _ A3 n3 c3 (h3.nb b1 o3) (by omega) (Nat.le_refl _)).mono ?_
  rintro e w3 ⟨X3, d3, rfl, x3⟩
  have st3 := st2.next x3.below
  replace b1 := but_trans b1 (but_below x3.below)
  have of3 := off_new x3 (g := g) (by omega)
  clear st2 z2
  go_wp2_with fail
  refine (oadd_any g key _ (fillL c 16) w3 _ X3 _ d3 st3 x3.sl (Nat.le_refl _) of3 (own_cap x3.own) x3.none_ (by unfold maxLen; have := HF3.out; omega)).mono ?_
  rintro e w4 ⟨rfl, st4, g4⟩
  replace b1 := but_trans b1 g4
  clear st3 x3 of3 g4
  have z4 := b1.size
  go_wp2_with fail
  refine (blen_any n2 c2 A2 w4 (by omega)).mono ?_
  rintro e w5 ⟨X5, d5, rfl, x5⟩
  have st5 := st4.next x5.below
  replace b1 := but_trans b1 (but_below x5.below)
  have of5 := off_new x5 (g := g) (by omega)
  clear st4 z4
  go_wp2_with fail
  refine (oadd_any g key _ (le n2 8) w5 _ X5 _ d5 st5 x5.sl (Nat.le_refl _) of5 (own_cap x5.own) x5.none_ (by decide)).mono ?_
  rintro e w6 ⟨rfl, st6, g6⟩
  replace b1 := but_trans b1 g6
  clear st5 x5 of5 g6
  have z6 := b1.size
  go_wp2_with fail
  refine (blen_any n3 c3 A3 w6 (by omega)).mono ?_
  rintro e w7 ⟨X7, d7, rfl, x7⟩
  have st7 := st6.next x7.below
  replace b1 := but_trans b1 (but_below x7.below)
  have of7 := off_new x7 (g := g) (by omega)
  clear st6 z6
  go_wp2_with fail
  refine (oadd_any g key _ (le n3 8) w7 _ X7 _ d7 st7 x7.sl (Nat.le_refl _) of7 (own_cap x7.own) x7.none_ (by decide)).mono ?_
  rintro e w8 ⟨rfl, st8, g8⟩
  replace b1 := but_trans b1 g8
  clear st7 x7 of7 g8
  have HA : Hid ([] ++ fillL o 16 ++ fillL c 16 ++ le n2 8 ++ le n3 8 = aadL o c) := by unfold Hid aadL; rw [HN2.out, HN3.out]; simp only [List.nil_append, List.append_assoc]
  rw [HA.out] at st8
  have z8 := b1.size
  go_wp2_with fail
  refine (otag_any g key (aadL o c) w8 st8 HK.out).mono ?_
  rintro e w9 ⟨X9, d9, rfl, x9⟩
  have HX : Hid (TagPost w g (tagL key (aadL o c)) X9 d9 w9) := ⟨x9.sl, own_cap x9.own, x9.none_, fun ad e => Nat.le_trans z8 (own_new (w' := w9) x9.own ad e), but_trans b1 (but_below x9.below)⟩
  clear x9 st8 b1
  go_wp2
  go_ret
  exact ⟨X9, d9, rfl, HX.out⟩

end Go.Proofs.YtlnoopmblmkgkaaGreatDoor

namespace Go.Proofs.YtlnoopmblmkgkaaGreatDoor
set_option maxRecDepth 100000
open Go.RowKit
set_option linter.unusedVariables false
set_option linter.unusedSimpArgs false

theorem bsize_any (n : Int) (w : World) (h0 : -9223372036854775808 ≤ n) (h1 : n ≤ 9223372036854775791) :
    Calls Tryz.prog 33 #[.int .i64 n] w fun e w' => e = .returned (.int .i64 (max n 0 + 16)) ∧ w = w' := by
  go_enter Tryz.func33, Tryz.ntmps33
  go_wp2
  all_goals
    go_ret
    exact ⟨ret_int (by omega), rfl⟩

theorem bsizeN_any (n : Nat) (w : World) (h1 : n ≤ 9223372036854775791) :
    Calls Tryz.prog 33 #[.int .i64 n] w fun e w' => e = .returned (.int .i64 ((n + 16 : Nat) : Int)) ∧ w = w' := by
  refine (bsize_any n w (by omega) (by omega)).mono ?_
  rintro e w' ⟨rfl, rfl⟩
  exact ⟨ret_int (by omega), rfl⟩

theorem made_block1 {w w1 : World} {n : Nat} (hn : n ≤ maxLen) (hown : w1.ownsRow w.heap.size 5 1 (.slice (some ⟨w.heap.size, 0, none⟩) n n) n (madeCells (Value.int .u8 0).cells (n * 1)).toList) (hgrow : w.grownBy w1 none) :
    Bl w1 w.heap.size (cb (List.replicate n 0)) 5 ∧ Below w.heap.size w w1 := by
  rw [Nat.mul_one] at hown
  exact made_block hn hown hgrow

theorem splice_box (c t : List UInt8) (n : Nat) (hc : c.length = n) (ht : t.length = 16) : splice (splice (cb (List.replicate (n + 16) 0)) 0 (cb c)) n (cb t) = cb (c ++ t) := by
  have e1 : splice (cb (List.replicate (n + 16) 0)) 0 (cb c) = cb (c ++ List.replicate 16 0) := by
    rw [← cb_splice]
    congr 1
    unfold splice
    rw [List.take_zero, List.nil_append, Nat.zero_add, hc, List.drop_replicate, Nat.add_sub_cancel_left]
  rw [e1, ← cb_splice]
  congr 1
  unfold splice
  rw [List.take_left' hc, ht, List.drop_of_length_le (by rw [List.length_append, List.length_replicate]; omega), List.append_nil]

set_option maxHeartbeats 1000000 in
theorem seal_any (key nonce o t : List UInt8) (A0 A1 A2 A3 : Option Addr) (n0 n1 n2 n3 c0 c1 c2 c3 : Nat) (w : World) (h0 : Sl w w.heap.size A0 n0 (cb key)) (h1 : Sl w w.heap.size A1 n1 (cb nonce)) (h2 : Sl w w.heap.size A2 n2 (cb o)) (h3 : Sl w w.heap.size A3 n3 (cb t))
    (k0 : n0 ≤ c0) (k1 : n1 ≤ c1) (k3 : n3 ≤ c3) (z0 : A0 = none → c0 = 0) (z1 : A1 = none → c1 = 0) (z3 : A3 = none → c3 = 0) (m2 : n2 ≤ 100000) (m3 : n3 ≤ 100000) (hT : TabC w) :
    Calls Tryz.prog 36 #[.slice A0 n0 c0, .slice A1 n1 c1, .slice A2 n2 c2, .slice A3 n3 c3] w (RetSl w (sealR key nonce o t) (sealE key nonce)) := by
  obtain ⟨i0, hi, hy0, hy1, hy2⟩ := info_parts u8_info
  have hn3 : n3 = t.length := by rw [← h3.1, cb_len]
  have HN3 := Lib.hid hn3
  clear hn3
  have HT := Lib.hid hT
  clear hT
  go_enter Tryz.func36, Tryz.ntmps36
  go_wp2_with fail
  refine (adderOf_any key nonce A0 A1 n0 n1 c0 c1 w h0 h1 k0 k1 z0 z1 HT.out).mono ?_
  rintro e w1 (⟨hf, g, rfl, hg, hst, hb1⟩ | ⟨hf, rfl, hb1⟩)
  · have HF := Lib.hid hf
    have hgl := hst.lt
    clear hf
    obtain ⟨C, hC⟩ : ∃ C, C = mixL key nonce 1 t := ⟨_, rfl⟩
    have HCL : Hid (C.length = n3) := by unfold Hid; rw [hC, mixL_len, HN3.out]
    have HC := Lib.hid hC
    clear hC
    have HMX := Lib.hid (mix_in key nonce t HF.out (by rw [← HN3.out]; omega))
    go_wp2_with fail
    refine (mix_any key nonce t 1 A0 A1 A3 n0 n1 n3 c0 c1 c3 w1 (by decide) (h0.nx hb1) (h1.nx hb1) (h3.nx hb1) k0 k1 k3 z0 z1 z3 (by omega) (HT.out.next hb1)).mono ?_
    rintro e w2 ⟨X2, e2, d2, rfl, x2⟩
    rw [HMX.out.2]
    rw [HMX.out.1, ← HC.out] at x2
    obtain rfl : e2 = n3 := x2.len.trans HCL.out
    have hb2 := next hb1 x2.below
    have st2 := hst.next x2.below
    have hz2 := x2.below.size
    have y2 := h2.nx hb2
    have o2 : Off g n2 A2 := h2.off hg
    have o3 : Off g e2 X2 := fun _ ad e => by have := x2.new ad e; omega
    have s2 := x2.sl
    clear hst hb1 x2 h0 h1 h2 h3
    go_wp2_with fail
    refine (bsizeN_any _ _ (by omega)).mono ?_
    rintro e w' ⟨rfl, rfl⟩
    go_wp2_with (at_make; refine wpList_make_full _ rfl _ _ 22 rfl w2.heap.size 5 i0 (.int .u8 0) 1 Tryz.underlying22 hi hy0 hy1 .i64 .i64 _ _ (e2 + 16) rfl rfl (by omega) (by omega) (by rw [hy2]; omega) (by unfold maxLen; omega) (Nat.le_refl _) ?_; intro w3 hown hgrow; obtain ⟨b3, hb3⟩ := made_block1 (n := e2 + 16) (by unfold maxLen; omega) hown hgrow; clear hown hgrow)
    obtain ⟨gb, hgb⟩ : ∃ gb, gb = w2.heap.size := ⟨_, rfl⟩
    rw [← hgb] at b3 ⊢
    have hgw : w.heap.size ≤ gb := by rw [hgb]; exact hb2.size
    have hgg : g < gb := by omega
    have st3 := st2.next hb3
    have hbw3 := next hb2 hb3
    have y3 := y2.nx hb3
    have s3 := s2.nx hb3
    have ob2 : Off gb n2 A2 := y2.off (by omega)
    have ob3 : Off gb e2 X2 := s2.off (by omega)
    clear st2 y2 s2 hb2 hb3 hgb hz2
    obtain ⟨w4, hcp, b4, hg4⟩ := run_copy_but (P := Tryz.prog) w3 22 22 3 5 Tryz.underlying22 u8_size gb 0 (e2 + 16) (e2 + 16) _ X2 e2 d2 (cb C) s3 _ _ b3 (by rw [cb_len]; simp) (cb_one _)
    rw [List.take_of_length_le (by rw [cb_len, HCL.out]; omega)] at b4
    rw [show Nat.min e2 (e2 + 16) = e2 from Nat.min_eq_left (by omega)] at hcp
    have st4 := st3.but hg4 (by omega)
    have hbw4 := below_but hbw3 hg4 hbw3.size hgw
    have y4 := y3.nb hg4 ob2
    have s4 := s3.nb hg4 ob3
    have HCP := Lib.hid hcp
    clear hcp st3 y3 s3 b3 hg4 hbw3
    rw [HCP.out]
    go_wp2_with fail
    have HA5 : Hid (some (⟨gb, e2, none⟩ : Addr) = if e2 + 16 = e2 then some ⟨gb, 0, none⟩ else (some (⟨gb, 0, none⟩ : Addr)).map (·.add e2)) := by unfold Hid; rw [if_neg (by omega)]; simp [Addr.add]
    have HTL := Lib.hid (btag_len key nonce o C)
    refine wp_region_any (by kernel_rfl) ?_
    change wpAny _ _ _ _ _ _ _ (World.drew _)
    refine wpAny_take (i := 0) (v := (.slice (some ⟨gb, 0, none⟩) (e2 + 16) (e2 + 16))) rfl (by kernel_rfl) (by kernel_rfl) (by kernel_rfl) (fun _ _ _ h => h) (Or.inl ⟨by rfl, fun _ => by go_simp⟩) ?_
    simp only [List.getElem_toArray, List.getElem_cons_succ, List.getElem_cons_zero, Act.put, List.setIfInBounds_toArray, List.set_cons_zero, List.set_cons_succ]
    refine wpAny_take (i := 1) (v := (.int .i64 (e2 : Int))) rfl (by kernel_rfl) (by kernel_rfl) (by kernel_rfl) (fun _ _ _ h => h) (Or.inl ⟨by rfl, fun _ => by go_simp⟩) ?_
    simp only [List.getElem_toArray, List.getElem_cons_succ, List.getElem_cons_zero, Act.put, List.setIfInBounds_toArray, List.set_cons_zero, List.set_cons_succ]
    refine wpAny_take (i := 2) (v := .slice (some ⟨gb, e2, none⟩) (e2 + 16 - e2) (e2 + 16 - e2)) rfl (by kernel_rfl) (by kernel_rfl) (by kernel_rfl) (fun _ _ _ h => h) (Or.inl ⟨by rfl, fun w9 => exec_slice_from w9 22 5 _ _ rfl Tryz.underlying22 u8_size (some ⟨gb, 0, none⟩) (e2 + 16) (e2 + 16) e2 .i64 (e2 : Int) rfl rfl rfl (by omega) (Nat.le_refl _) (by intro h; cases h) (some ⟨gb, e2, none⟩) HA5.out⟩) ?_
    simp only [List.getElem_toArray, List.getElem_cons_succ, List.getElem_cons_zero, Act.put, List.setIfInBounds_toArray, List.set_cons_zero, List.set_cons_succ]
    refine wpAny_take (i := 3) (v := (.pointer (some ⟨g, 0, none⟩))) rfl (by kernel_rfl) (by kernel_rfl) (by kernel_rfl) (fun _ _ _ h => h) (Or.inl ⟨by rfl, fun _ => by go_simp⟩) ?_
    simp only [List.getElem_toArray, List.getElem_cons_succ, List.getElem_cons_zero, Act.put, List.setIfInBounds_toArray, List.set_cons_zero, List.set_cons_succ]
    refine wpAny_take (i := 4) (v := (.slice A2 n2 c2)) rfl (by kernel_rfl) (by kernel_rfl) (by kernel_rfl) (fun _ _ _ h => h) (Or.inl ⟨by rfl, fun _ => by go_simp⟩) ?_
    simp only [List.getElem_toArray, List.getElem_cons_succ, List.getElem_cons_zero, Act.put, List.setIfInBounds_toArray, List.set_cons_zero, List.set_cons_succ]
    refine wpAny_take (i := 5) (v := (.slice X2 e2 d2)) rfl (by kernel_rfl) (by kernel_rfl) (by kernel_rfl) (fun _ _ _ h => h) (Or.inl ⟨by rfl, fun _ => by go_simp⟩) ?_
    simp only [List.getElem_toArray, List.getElem_cons_succ, List.getElem_cons_zero, Act.put, List.setIfInBounds_toArray, List.set_cons_zero, List.set_cons_succ]
    obtain ⟨W5, hW5⟩ : ∃ W, W = w4.drew := ⟨_, rfl⟩
    have hb5 : Below w4.heap.size w4 W5 := by rw [hW5]; exact (Below.refl _ w4).drew
    rw [← hW5]
    have st5 := st4.next hb5
    have y5 := y4.nx hb5
    have s5 := s4.nx hb5
    have b5 := b4.next hb5
    have hbw5 := next hbw4 hb5
    clear hW5 st4 y4 s4 b4 hbw4 hb5
    refine wpAny_one (i := 6) (by kernel_rfl) rfl (by rfl) (fun K hK => ?_)
    simp only [List.getElem_toArray, List.getElem_cons_succ, List.getElem_cons_zero, Act.put, List.setIfInBounds_toArray, List.set_cons_zero, List.set_cons_succ]
    go_simp
    refine (tagOf_any g (once key nonce) o C A2 X2 n2 e2 c2 d2 W5 st5 (once_len _ _) y5 s5 o2 o3 (by omega) (by omega)).mono ?_
    rintro e w6 ⟨X6, d6, rfl, x6⟩
    refine hK.out _ _ ?_
    clear hK K
    have b6 := b5.grown x6.but (by simp; omega)
    have hbw6 := below_but hbw5 x6.but hbw5.size hg
    have hgt : tagL (once key nonce) (aadL o C) = btag key nonce o C := rfl
    obtain ⟨w7, hcp, b7, hg7⟩ := run_copy_but (P := Tryz.prog) w6 22 22 3 5 Tryz.underlying22 u8_size gb e2 16 16 _ X6 16 d6 _ x6.sl _ _ b6 (by unfold splice; simp [cb_len, HCL.out]) (cb_one _)
    rw [hgt, List.take_of_length_le (by rw [cb_len, HTL.out]; omega), splice_box C _ e2 HCL.out HTL.out] at b7
    have hbw7 := below_but hbw6 hg7 hbw6.size hgw
    have HCP2 := Lib.hid hcp
    clear hcp st5 y5 s5 b5 b6 x6 hg7 hbw5 hbw6 hgt
    refine wpAny_one (i := 7) (by kernel_rfl) rfl (by rfl) (fun K hK => ?_)
    simp only [List.getElem_toArray, List.getElem_cons_succ, List.getElem_cons_zero, Act.put, List.setIfInBounds_toArray, List.set_cons_zero, List.set_cons_succ]
    go_simp
    rw [HCP2.out]
    go_simp
    refine hK.out _ _ ?_
    clear hK K
    refine wpAny_done (by kernel_rfl) ?_ _
    have HB7 : Hid (NewSl w (e2 + 16) (boxL key nonce o t) (some ⟨gb, 0, none⟩) (e2 + 16) w7) := by
      unfold Hid boxL
      rw [← HC.out]
      have hl : (C ++ btag key nonce o C).length = e2 + 16 := by rw [List.length_append, HCL.out, HTL.out]
      exact ⟨(b7.sl (o := 0) (n := e2 + 16) (by rw [List.drop_zero, List.take_of_length_le (by rw [cb_len, hl]; omega)]) (by rw [cb_len, hl]; omega)).up b7.lt, hl.symm, Nat.le_refl _, (by intro h; cases h), (by intro ad h; injection h with h; subst h; exact hgw), hbw7⟩
    clear b7 hbw7
    go_wp2
    go_ret2
    exact retSl (by unfold sealR; rw [if_pos HF.out]) (by unfold sealE; rw [if_pos HF.out]) HB7.out
  · have HF := Lib.hid hf
    clear hf h0 h1 h2 h3
    go_wp2
    go_ret2
    exact retSl (by unfold sealR; rw [if_neg HF.out]) (by unfold sealE; rw [if_neg HF.out]) ⟨Sl.nil_, rfl, Nat.le_refl _, fun _ => rfl, (fun _ h => by cases h), hb1⟩

end Go.Proofs.YtlnoopmblmkgkaaGreatDoor

namespace Go.Proofs.YtlnoopmblmkgkaaGreatDoor
set_option maxRecDepth 100000
open Go.RowKit
set_option linter.unusedVariables false
set_option linter.unusedSimpArgs false

set_option maxHeartbeats 1000000 in
theorem openO_any (key nonce o b : List UInt8) (A0 A1 A2 A3 : Option Addr) (n0 n1 n2 n3 c0 c1 c2 c3 : Nat) (w : World) (h0 : Sl w w.heap.size A0 n0 (cb key)) (h1 : Sl w w.heap.size A1 n1 (cb nonce)) (h2 : Sl w w.heap.size A2 n2 (cb o)) (h3 : Sl w w.heap.size A3 n3 (cb b))
    (k0 : n0 ≤ c0) (k1 : n1 ≤ c1) (k3 : n3 ≤ c3) (z0 : A0 = none → c0 = 0) (z1 : A1 = none → c1 = 0) (z3 : A3 = none → c3 = 0) (m2 : n2 ≤ 100000) (m3 : n3 ≤ 100000) (hT : TabC w) :
    Calls Tryz.prog 48 #[.slice A0 n0 c0, .slice A1 n1 c1, .slice A2 n2 c2, .slice A3 n3 c3] w (RetFill 5 w (openR key nonce o b) (openE key nonce o b)) := by
  have hn3 : n3 = b.length := by rw [← h3.1, cb_len]
  have HN3 := Lib.hid hn3
  clear hn3
  have HT := Lib.hid hT
  clear hT
  go_enter Tryz.func48, Tryz.ntmps48
  go_wp2_with fail
  refine (adderOf_any key nonce A0 A1 n0 n1 c0 c1 w h0 h1 k0 k1 z0 z1 HT.out).mono ?_
  rintro e w1 (⟨hf, g, rfl, hg, hst, hb1⟩ | ⟨hf, rfl, hb1⟩)
  · have HF := Lib.hid hf
    have hgl := hst.lt
    clear hf
    by_cases h16 : n3 < 16
    · have hd : decide ((n3 : Int) < 16) = true := by simp; omega
      have HL : Hid (b.length < 16) := by unfold Hid; rw [← HN3.out]; exact h16
      clear h0 h1 h2 h3 hst h16
      go_wp2
      go_ret2
      exact retFill (by unfold openR; rw [if_pos HF.out, if_pos HL.out]) (by unfold openE; rw [if_pos HF.out, if_pos HL.out]) (World.ownsRow_nil _ _ _ _) hb1
    · obtain ⟨N, rfl⟩ : ∃ N, n3 = N + 16 := ⟨n3 - 16, by omega⟩
      have HL : Hid (¬ b.length < 16) := by unfold Hid; rw [← HN3.out]; exact h16
      have HBN : Hid (b.length - 16 = N) := by unfold Hid; rw [← HN3.out]; omega
      have hd : decide (((N + 16 : Nat) : Int) < 16) = false := by simp; omega
      clear h16
      have t3 := sl_take (h := N) h3 (by omega)
      have t4 := sl_cut (k := N) h3 (by omega) k3
      obtain ⟨A4, hA4⟩ : ∃ A4, A4 = if c3 = N then A3 else A3.map (·.add N) := ⟨_, rfl⟩
      rw [← hA4] at t4
      have HA4 := Lib.hid hA4
      rw [show (cb b).take N = cb (bodyL b) by unfold bodyL; rw [HBN.out, cb, cb, List.map_take]] at t3
      rw [show (cb b).drop N = cb (tailL b) by unfold tailL; rw [HBN.out, cb, cb, List.map_drop], show N + 16 - N = 16 by omega] at t4
      have o2 : Off g n2 A2 := h2.off hg
      have o3 : Off g N A3 := t3.off hg
      have o4 : Off g 16 A4 := t4.off hg
      have HBL : Hid ((bodyL b).length = N) := by unfold Hid; rw [body_len, HBN.out]
      clear hA4 h3
      go_wp2_with (refine wpList_slice_hm rfl 22 _ _ _ rfl 5 Tryz.underlying22 u8_size A3 (N + 16) c3 N N .i64 .i64 _ _ rfl rfl rfl (by omega) (by omega) (Nat.le_refl _) (by omega) ?_)
      obtain ⟨D, hD⟩ : ∃ D, D = holdsB key nonce o b := ⟨_, rfl⟩
      have HD : Hid (sameB (tagL (once key nonce) (aadL o (bodyL b))) (tailL b) = D) := hD.symm
      have HDD := Lib.hid hD
      clear hD
      obtain ⟨W2, hW2⟩ : ∃ W, W = w1.drew := ⟨_, rfl⟩
      have hb2 : Below w1.heap.size w1 W2 := by rw [hW2]; exact (Below.refl _ w1).drew
      refine wp_region_any (by kernel_rfl) ?_
      change wpAny _ _ _ _ _ _ _ (World.drew _)
      rw [← hW2]
      have hbw2 := next hb1 hb2
      have st2 := hst.next hb2
      clear hW2 hst
      refine wpAny_take (i := 0) (v := (.pointer (some ⟨g, 0, none⟩))) rfl (by kernel_rfl) (by kernel_rfl) (by kernel_rfl) (fun _ _ _ h => h) (Or.inl ⟨by rfl, fun _ => by go_simp⟩) ?_
      simp only [List.getElem_toArray, List.getElem_cons_succ, List.getElem_cons_zero, Act.put, List.setIfInBounds_toArray, List.set_cons_zero, List.set_cons_succ]
      refine wpAny_take (i := 1) (v := (.slice A2 n2 c2)) rfl (by kernel_rfl) (by kernel_rfl) (by kernel_rfl) (fun _ _ _ h => h) (Or.inl ⟨by rfl, fun _ => by go_simp⟩) ?_
      simp only [List.getElem_toArray, List.getElem_cons_succ, List.getElem_cons_zero, Act.put, List.setIfInBounds_toArray, List.set_cons_zero, List.set_cons_succ]
      refine wpAny_take (i := 2) (v := (.slice A3 N N)) rfl (by kernel_rfl) (by kernel_rfl) (by kernel_rfl) (fun _ _ _ h => h) (Or.inl ⟨by rfl, fun _ => by go_simp⟩) ?_
      simp only [List.getElem_toArray, List.getElem_cons_succ, List.getElem_cons_zero, Act.put, List.setIfInBounds_toArray, List.set_cons_zero, List.set_cons_succ]
      refine wpAny_take (i := 4) (v := (.slice A3 (N + 16) c3)) rfl (by kernel_rfl) (by kernel_rfl) (by kernel_rfl) (fun _ _ _ h => h) (Or.inl ⟨by rfl, fun _ => by go_simp⟩) ?_
      simp only [List.getElem_toArray, List.getElem_cons_succ, List.getElem_cons_zero, Act.put, List.setIfInBounds_toArray, List.set_cons_zero, List.set_cons_succ]
      refine wpAny_take (i := 5) (v := (.int .i64 (N : Int))) rfl (by kernel_rfl) (by kernel_rfl) (by kernel_rfl) (fun _ _ _ h => h) (Or.inl ⟨by rfl, fun _ => by go_simp⟩) ?_
      simp only [List.getElem_toArray, List.getElem_cons_succ, List.getElem_cons_zero, Act.put, List.setIfInBounds_toArray, List.set_cons_zero, List.set_cons_succ]
      refine wpAny_take (i := 6) (v := .slice A4 (N + 16 - N) (c3 - N)) rfl (by kernel_rfl) (by kernel_rfl) (by kernel_rfl) (fun _ _ _ h => h) (Or.inl ⟨by rfl, fun w9 => exec_slice_from w9 22 5 _ _ rfl Tryz.underlying22 u8_size A3 (N + 16) c3 N .i64 (N : Int) rfl rfl rfl (by omega) k3 z3 A4 HA4.out⟩) ?_
      simp only [List.getElem_toArray, List.getElem_cons_succ, List.getElem_cons_zero, Act.put, List.setIfInBounds_toArray, List.set_cons_zero, List.set_cons_succ]
      refine wpAny_one (i := 3) (by kernel_rfl) rfl (by rfl) (fun K hK => ?_)
      simp only [List.getElem_toArray, List.getElem_cons_succ, List.getElem_cons_zero, Act.put, List.setIfInBounds_toArray, List.set_cons_zero, List.set_cons_succ]
      go_simp
      refine (tagOf_any g (once key nonce) o (bodyL b) A2 A3 n2 N c2 N W2 st2 (once_len _ _) (h2.nx hbw2) (t3.nx hbw2) o2 o3 (by omega) (by omega)).mono ?_
      rintro e w3 ⟨X3, d3, rfl, x3⟩
      refine hK.out _ _ ?_
      clear hK K
      have hbw3 := below_but hbw2 x3.but hbw2.size hg
      clear st2
      refine wpAny_one (i := 7) (by kernel_rfl) rfl (by rfl) (fun K hK => ?_)
      simp only [List.getElem_toArray, List.getElem_cons_succ, List.getElem_cons_zero, Act.put, List.setIfInBounds_toArray, List.set_cons_zero, List.set_cons_succ]
      go_simp
      refine (same_any _ _ w3 _ _ X3 A4 16 16 d3 (c3 - N) x3.sl (t4.nx hbw3) (by decide) (by decide)).mono ?_
      rintro e w4 ⟨rfl, hdr⟩
      refine hK.out _ _ ?_
      clear hK K
      rw [HD.out]
      have hbw4 := next hbw3 (hdr.below _)
      clear hdr x3 hbw3 hbw2
      refine wpAny_take (i := 8) (v := (.bool (!D))) rfl (by kernel_rfl) (by kernel_rfl) (by kernel_rfl) (fun _ _ _ h => h) (Or.inl ⟨by rfl, fun _ => by go_simp⟩) ?_
      simp only [List.getElem_toArray, List.getElem_cons_succ, List.getElem_cons_zero, Act.put, List.setIfInBounds_toArray, List.set_cons_zero, List.set_cons_succ]
      refine wpAny_done (by kernel_rfl) ?_ _
      cases D
      · go_wp2
        go_ret2
        exact retFill (by unfold openR; rw [if_pos HF.out, if_neg HL.out, if_neg (by rw [← HDD.out]; decide)]) (by unfold openE; rw [if_pos HF.out, if_neg HL.out, if_neg (by rw [← HDD.out]; decide)]) (World.ownsRow_nil _ _ _ _) hbw4
      · have HMX := Lib.hid (mix_in key nonce (bodyL b) HF.out (by rw [HBL.out]; omega))
        have zN : A3 = none → N = 0 := fun h => by have := z3 h; omega
        go_wp2_with fail
        refine (mixO_any key nonce (bodyL b) 1 A0 A1 A3 n0 n1 N c0 c1 N w4 (by decide) (h0.nx hbw4) (h1.nx hbw4) (t3.nx hbw4) k0 k1 (Nat.le_refl _) z0 z1 zN (by omega) (HT.out.next hbw4)).mono ?_
        rintro e w5 ⟨X5, e5, d5, rfl, x5⟩
        rw [HMX.out.2]
        rw [HMX.out.1] at x5
        have hbw5 := next hbw4 x5.below
        have HX := Lib.hid (own_down x5.own hbw4.size)
        clear x5 hbw4
        go_wp2
        go_ret2
        exact retFill (by unfold openR; rw [if_pos HF.out, if_neg HL.out, if_pos HDD.out.symm]) (by unfold openE; rw [if_pos HF.out, if_neg HL.out, if_pos HDD.out.symm]) HX.out hbw5
  · have HF := Lib.hid hf
    clear hf h0 h1 h2 h3
    go_wp2
    go_ret2
    exact retFill (by unfold openR; rw [if_neg HF.out]) (by unfold openE; rw [if_neg HF.out]) (World.ownsRow_nil _ _ _ _) hb1

theorem open_any (key nonce o b : List UInt8) (A0 A1 A2 A3 : Option Addr) (n0 n1 n2 n3 c0 c1 c2 c3 : Nat) (w : World) (h0 : Sl w w.heap.size A0 n0 (cb key)) (h1 : Sl w w.heap.size A1 n1 (cb nonce)) (h2 : Sl w w.heap.size A2 n2 (cb o)) (h3 : Sl w w.heap.size A3 n3 (cb b))
    (k0 : n0 ≤ c0) (k1 : n1 ≤ c1) (k3 : n3 ≤ c3) (z0 : A0 = none → c0 = 0) (z1 : A1 = none → c1 = 0) (z3 : A3 = none → c3 = 0) (m2 : n2 ≤ 100000) (m3 : n3 ≤ 100000) (hT : TabC w) :
    Calls Tryz.prog 48 #[.slice A0 n0 c0, .slice A1 n1 c1, .slice A2 n2 c2, .slice A3 n3 c3] w (RetSl w (openR key nonce o b) (openE key nonce o b)) := by
  refine (openO_any key nonce o b A0 A1 A2 A3 n0 n1 n2 n3 c0 c1 c2 c3 w h0 h1 h2 h3 k0 k1 k3 z0 z1 z3 m2 m3 hT).mono ?_
  rintro e w' ⟨A, n, c, rfl, h⟩
  exact ⟨A, n, c, rfl, h.sl, by rw [← cb_len, h.sl.1], own_cap h.own, h.none_, own_new (w' := w') h.own, h.below⟩

end Go.Proofs.YtlnoopmblmkgkaaGreatDoor
