/- PBKDF2 with HMAC-SHA-256, on lists of bytes. No program is named here. -/
import Derived.Test.YtlnoopmblmkgkaaGreatDoorLM
import Derived.Test.YtlnoopmblmkgkaaGreatDoorLV
import Derived.Test.YtlnoopmblmkgkaaGreatDoorLN
namespace Go.Proofs.YtlnoopmblmkgkaaGreatDoor
set_option maxRecDepth 100000
open Go.RowKit

/-- The tags one after the other, the first one being that of s. -/
def um (key s : List UInt8) : Nat → List UInt8
  | 0 => hmac key s
  | k + 1 => hmac key (um key s k)
/-- All of them up to the k-th, exclusive-ored. -/
def tm (key s : List UInt8) : Nat → List UInt8
  | 0 => hmac key s
  | k + 1 => xl (tm key s k) (um key s (k + 1))
theorem um_zero (key s : List UInt8) : um key s 0 = hmac key s := rfl
theorem tm_zero (key s : List UInt8) : tm key s 0 = hmac key s := rfl
theorem um_succ (key s : List UInt8) (k : Nat) : um key s (k + 1) = hmac key (um key s k) := rfl
theorem tm_succ (key s : List UInt8) (k : Nat) : tm key s (k + 1) = xl (tm key s k) (um key s (k + 1)) := rfl
theorem um_len (key s : List UInt8) (k : Nat) : (um key s k).length = 32 := by cases k <;> exact hmac_len _ _
theorem tm_len (key s : List UInt8) (k : Nat) : (tm key s k).length = 32 := by
  induction k with
  | zero => exact hmac_len _ _
  | succ k ih => rw [tm_succ, xl_len _ _ (by rw [ih, um_len]), ih]
/-- A block's text: the salt, and the block's number (the first one being 0 here). -/
def sblk (salt : List UInt8) (i : Nat) : List UInt8 := salt ++ stored (i + 1) false
theorem sblk_told (salt : List UInt8) (i : Nat) : sblk salt i = salt ++ (le (i + 1) 4).reverse := rfl
/-- The first k blocks. -/
def pbs (key salt : List UInt8) (r : Nat) : Nat → List UInt8
  | 0 => []
  | k + 1 => pbs key salt r k ++ tm key (sblk salt k) (r - 1)
theorem pbs_len (key salt : List UInt8) (r k : Nat) : (pbs key salt r k).length = 32 * k := by
  induction k with
  | zero => rfl
  | succ k ih => rw [pbs, List.length_append, ih, tm_len]; omega
theorem pbs_take (key salt : List UInt8) (r k j : Nat) : (pbs key salt r (k + j)).take (32 * k) = pbs key salt r k := by
  induction j with
  | zero => rw [Nat.add_zero, List.take_of_length_le (by rw [pbs_len]; omega)]
  | succ j ih => rw [← Nat.add_assoc, pbs, List.take_append_of_le_length (by rw [pbs_len]; omega), ih]
/-- The key. -/
def pbk (key salt : List UInt8) (r n : Nat) : List UInt8 := (pbs key salt r ((n + 31) / 32)).take n
theorem pbk_len (key salt : List UInt8) (r n : Nat) : (pbk key salt r n).length = n := by
  unfold pbk
  rw [List.length_take, pbs_len]
  omega
theorem pbk_take (key salt : List UInt8) (r n k : Nat) (h : k ≤ n) : (pbk key salt r n).take k = pbk key salt r k := by
  unfold pbk
  obtain ⟨j, hj⟩ : ∃ j, (n + 31) / 32 = (k + 31) / 32 + j := ⟨(n + 31) / 32 - (k + 31) / 32, by omega⟩
  rw [List.take_take, Nat.min_eq_left h, hj, ← pbs_take key salt r ((k + 31) / 32) j, List.take_take, Nat.min_eq_left (by omega)]
theorem pbk_block (key salt : List UInt8) (r : Nat) : pbk key salt r 32 = tm key (sblk salt 0) (r - 1) := by
  unfold pbk
  rw [List.take_of_length_le (by rw [pbs_len]; omega)]
  rfl

def passB : List UInt8 := [112, 97, 115, 115, 119, 111, 114, 100]
def saltB : List UInt8 := [115, 97, 108, 116]
/-- The chapter's example, by the kernel. -/
theorem pbk_example : (pbk passB saltB 1 20)[0]? = some 18 ∧ (pbk passB saltB 1 20)[1]? = some 15 ∧ (pbk passB saltB 1 20)[19]? = some 201 := by decide +kernel

end Go.Proofs.YtlnoopmblmkgkaaGreatDoor

namespace Go.Proofs.YtlnoopmblmkgkaaGreatDoor
set_option maxRecDepth 100000
open Go.RowKit
set_option linter.unusedVariables false
set_option linter.unusedSimpArgs false

set_option maxRecDepth 100000 in
set_option maxHeartbeats 1000000 in
theorem sblock_any (gk : Nat) (key salt : List UInt8) (r x : Nat) (w : World) (B : Nat) (A : Option Addr) (n c : Nat) (hk : Ky w gk key) (h : Sl w B A n (cb salt)) (hc : n ≤ c) (hA : A = none → c = 0) (hB : B ≤ w.heap.size) (hT : Tabs w) (hn : n ≤ 1000000) (hr : r ≤ 4095) :
    Calls Tryz.prog 91 #[.pointer (some ⟨gk, 0, none⟩), .slice A n c, .int .i64 (r + 1 : Nat), .int .u32 x] w fun e w' => e = .returned (.agg (cb (tm key (salt ++ stored x false) r)).toArray) ∧ Below w.heap.size w w' := by
  have hnl : n = salt.length := by rw [← h.1, cb_len]
  have HT := Lib.hid hT
  clear hT
  obtain ⟨s, hs⟩ : ∃ s, s = salt ++ stored x false := ⟨_, rfl⟩
  have HS : Hid ([salt, stored x false].flatten = s) := by unfold Hid; rw [hs]; simp
  have HSL : Hid (s.length = n + 4) := by unfold Hid; rw [hs, List.length_append, stored_len, hnl]
  have HST := Lib.hid (stored_len x false)
  rw [← hs]
  have HNL := Lib.hid hnl
  clear hs hnl
  obtain ⟨b0, hb0⟩ : Bl (w.alloc (.cells (zeros .u8 32).toArray 91)) w.heap.size (zeros .u8 32) 91 ∧ Below w.heap.size w (w.alloc (.cells (zeros .u8 32).toArray 91)) := ⟨Bl.new _ _ _, (Below.refl _ w).alloc (Nat.le_refl _) _⟩
  obtain ⟨W0, hW0⟩ : ∃ W, W = w.alloc (.cells (zeros .u8 32).toArray 91) := ⟨_, rfl⟩
  rw [← hW0] at b0 hb0
  have HW0 := Lib.hid hW0
  clear hW0
  go_enter Tryz.func91, Tryz.ntmps91
  go_wp2_with (refine wpList_alloc_zero rfl 91 rfl (zeros .u8 32) zero_32 ?_; rw [← HW0.out])
  refine (store_any x false _).mono ?_
  rintro e w1 ⟨A1, c1, rfl, h1⟩
  have hb1 := next hb0 h1.below
  have b01 := b0.next h1.below
  have x1 := h1.sl
  have f1 := h1.none_
  have g1 := own_cap h1.own
  have y1 := (h.up hB).below hb1
  clear h1 b0 hb0
  go_wp2_with fail
  obtain ⟨hp, hbp⟩ := list_two_n 22 HNL.out HST.out.symm (y1.up hb1.size) hc hA x1 g1 f1
  have hb2 := next hb1 hbp
  have b02 := b01.next hbp
  clear hbp b01 x1 f1 g1 y1 hb1
  refine (ktag_any gk key _ _ _ _ _ _ (hk.next hb2) hp (Nat.le_refl _) (by omega) (HT.out.next hb2) (by rw [HS.out, HSL.out]; omega)).mono ?_
  rintro e w3 ⟨rfl, hb⟩
  rw [HS.out, ← um_zero]
  have hb3 := next hb2 hb
  have b03 := b02.next hb
  clear hb b02 hb2 hp
  have HU0 := Lib.hid (um_len key s 0)
  have hut : um key s 0 = tm key s 0 := rfl
  obtain ⟨U0, hU0⟩ : ∃ U, U = um key s 0 := ⟨_, rfl⟩
  rw [← hU0] at HU0 hut ⊢
  have HUT := Lib.hid hut
  have HUU := Lib.hid hU0
  clear hut hU0
  obtain ⟨bu, hb4, hz4⟩ := put_new w3 (zeros .u8 32) (cb U0) 143 (by rw [cb_len, HU0.out, zeros_len])
  obtain ⟨W4, hW4⟩ : ∃ W, W = (w3.alloc (.cells (zeros .u8 32).toArray 143)).setCells w3.heap.size 0 (cb U0) := ⟨_, rfl⟩
  rw [← hW4] at bu hb4 hz4
  obtain ⟨bt, hb5, hz5⟩ := put_new W4 (zeros .u8 32) (cb U0) 143 (by rw [cb_len, HU0.out, zeros_len])
  obtain ⟨W5, hW5⟩ : ∃ W, W = (W4.alloc (.cells (zeros .u8 32).toArray 143)).setCells W4.heap.size 0 (cb U0) := ⟨_, rfl⟩
  rw [← hW5] at bt hb5 hz5
  have HW4 := Lib.hid hW4
  have HW5 := Lib.hid hW5
  have HB4 := Lib.hid bu
  have bu5 := bu.next hb5
  have b05 := (b03.next hb4).next hb5
  have hb6 := next (next hb3 hb4) hb5
  have hwz := b03.lt
  have HZ4 := Lib.hid hz4
  have HZ5 := Lib.hid hz5
  clear hz4 hz5 hW4 hW5 b03 hb3 hb4 hb5 bu
  go_wp2_with (first
    | (refine wpList_alloc_zero rfl 143 rfl (zeros .u8 32) zero_sum ?_)
    | (refine wpList_store_mid rfl 143 _ _ rfl _ _ (cb U0).toArray rfl rfl (Bl.there_ (Bl.new w3 (zeros .u8 32) 143) (by simp [zeros, cb_len, HU0.out])) (by rw [size_sum, List.size_toArray, cb_len, HU0.out]) (all_oneCell_toArray (cb_one _)) ?_; change wpList _ _ _ _ _ (World.setCells (w3.alloc (.cells (zeros .u8 32).toArray 143)) w3.heap.size 0 (cb U0)); rw [← HW4.out])
    | (refine wpList_load_mid rfl 143 _ rfl _ _ rfl (cb U0) _ HB4.out.whole Tryz.underlying143 rfl (by rw [size_sum, cb_len, HU0.out]) ?_)
    | (refine wpList_store_mid rfl 143 _ _ rfl _ _ (cb U0).toArray rfl rfl (Bl.there_ (Bl.new W4 (zeros .u8 32) 143) (by simp [zeros, cb_len, HU0.out])) (by rw [size_sum, List.size_toArray, cb_len, HU0.out]) (all_oneCell_toArray (cb_one _)) ?_; change wpList _ _ _ _ _ (World.setCells (W4.alloc (.cells (zeros .u8 32).toArray 143)) W4.heap.size 0 (cb U0)); rw [← HW5.out]))
  obtain ⟨gu, hgu⟩ : ∃ g, g = w3.heap.size := ⟨_, rfl⟩
  obtain ⟨gt, hgt⟩ : ∃ g, g = W4.heap.size := ⟨_, rfl⟩
  have hne : gu < gt := by rw [hgu, hgt, HZ4.out]; omega
  have hwu : w.heap.size < gu := by rw [hgu]; exact hwz
  rw [← hgu, ← hgt]
  rw [← hgu] at bu5
  rw [← hgt] at bt
  clear hgu hgt hwz HZ4 HZ5
  go_loopw [21] (fun i wr => ∃ k : Nat, k ≤ r ∧ i = .int .i64 k ∧ Bl wr gu (cb (um key s k)) 143 ∧ Bl wr gt (cb (tm key s k)) 143 ∧ Bl wr w.heap.size (zeros .u8 32) 91 ∧ Below w.heap.size w wr) (fun i _ => r - (intOf i).toNat)
  case atStart => exact ⟨0, by omega, rfl, by rw [← HUU.out]; exact bu5, by rw [← HUT.out]; exact bt, b05, hb6⟩
  case round =>
    clear bu5 bt b05 hb6
    obtain ⟨k, hk2, rfl, bu, bt, b0, hb⟩ := hrel
    obtain ⟨T, hT⟩ : ∃ T, T = tm key s k := ⟨_, rfl⟩
    have HTL : Hid (T.length = 32) := by unfold Hid; rw [hT, tm_len]
    rw [← hT] at bt
    by_cases hlt : k < r
    · obtain ⟨U, hU⟩ : ∃ U, U = um key s k := ⟨_, rfl⟩
      obtain ⟨V, hV⟩ : ∃ V, V = um key s (k + 1) := ⟨_, rfl⟩
      have HUL : Hid (U.length = 32) := by unfold Hid; rw [hU, um_len]
      have HVL : Hid (V.length = 32) := by unfold Hid; rw [hV, um_len]
      have HUV : Hid (hmac key U = V) := by unfold Hid; rw [hV, hU, um_succ]
      have HX : Hid (xl T V = tm key s (k + 1)) := by unfold Hid; rw [hT, hV, tm_succ]
      have HVV := Lib.hid hV
      rw [← hU] at bu
      clear hU hV hT
      have hsl : Sl wr (gu + 1) (some ⟨gu, 0, none⟩) 32 (cb U) := bu.sl (o := 0) (n := 32) (by rw [List.drop_zero, List.take_of_length_le (by rw [cb_len, HUL.out]; omega)]) (by rw [cb_len, HUL.out]; omega)
      have hlg := bu.lt
      have hbz := hb.size
      go_wp2_with fail
      obtain ⟨hp, hbp⟩ := list_one_m 22 HUL.out.symm (hsl.up (by omega)) (Nat.le_refl 32) (by intro h; cases h)
      have hbq := hb.trans (hbp.mono hb.size)
      refine (ktag_any gk key [U] _ _ _ _ _ (hk.next hbq) hp (Nat.le_refl _) (by omega) (HT.out.next hbq) (by simp [HUL.out])).mono ?_
      rintro e w5 ⟨rfl, hb5⟩
      rw [show [U].flatten = U by simp, HUV.out]
      have bu5 := (bu.next hbp).next hb5
      have bt5 := (bt.next hbp).next hb5
      have b05 := (b0.next hbp).next hb5
      have hbw5 := next hbq hb5
      have bu6 := bu5.over (vs := cb V) (by rw [cb_len, cb_len, HUL.out, HVL.out])
      have bt6 := bt5.sets_other (g := gu) (by omega) 0 (cb V)
      have b06 := b05.sets_other (g := gu) (by omega) 0 (cb V)
      have hbw6 := below_setCells hbw5 (show w.heap.size ≤ gu by omega) 0 (cb V)
      obtain ⟨W6, hW6⟩ : ∃ W, W = w5.setCells gu 0 (cb V) := ⟨_, rfl⟩
      rw [← hW6] at bu6 bt6 b06 hbw6
      have HW6 := Lib.hid hW6
      have HB5 := Lib.hid bu5
      clear hW6 hsl hp hbp hbq hb5 bt5 b05 hbw5 bu5 bu bt b0 hb
      go_wp2_with (refine wpList_store_mid rfl 143 _ _ rfl _ _ (cb V).toArray rfl rfl (HB5.out.there_ (by simp [cb_len, HUL.out, HVL.out])) (by rw [size_sum, List.size_toArray, cb_len, HVL.out]) (all_oneCell_toArray (cb_one _)) ?_; change wpList _ _ _ _ _ (World.setCells w5 gu 0 (cb V)); rw [← HW6.out])
      clear HB5 HW6
      go_loopw [27] (fun i wr => ∃ j : Nat, j ≤ 32 ∧ i = .int .i64 j ∧ Bl wr gu (cb V) 143 ∧ Bl wr gt (cb (xh T V j)) 143 ∧ Bl wr w.heap.size (zeros .u8 32) 91 ∧ Below w.heap.size w wr) (fun i _ => 32 - (intOf i).toNat)
      case atStart => exact ⟨0, by omega, rfl, bu6, by rw [xh_zero]; exact bt6, b06, hbw6⟩
      case round =>
        clear bu6 bt6 b06 hbw6
        obtain ⟨j, hj, rfl, bu, bt, b0, hb⟩ := hrel
        by_cases hjl : j < 32
        · have hc1 := bt.cell j
          rw [cb, List.getElem?_map, xh_at (by rw [HTL.out, HVL.out]) j (by rw [HTL.out]; exact hjl)] at hc1
          have hc1' : wr.cell? ⟨gt, j, none⟩ = some (.int .u8 (((T[j]'(by rw [HTL.out]; exact hjl)).toNat : Nat) : Int)) := hc1
          have hc2 := bu.cell j
          rw [cb_at (by rw [HVL.out]; exact hjl)] at hc2
          have hf := bt.frozen j
          have hx1 := (T[j]'(by rw [HTL.out]; exact hjl)).toNat_lt
          have hx2 := (V[j]'(by rw [HVL.out]; exact hjl)).toNat_lt
          have hi0 : (0 : Int) ≤ (j : Int) := by omega
          have hi1 : (j : Int) < 32 := by omega
          clear hc1
          go_wp2
          go_still_tail 8, (by kernel_rfl)
          go_wp2
          go_roundw
          case rel => exact ⟨j + 1, by omega, by go_num, (bu.set_other _ _ (by simp; omega)).drew, (xh_cells bt (by rw [HTL.out, HVL.out]) (by rw [HTL.out]; exact hjl)).drew, (b0.set_other _ _ (by simp; omega)).drew, (hb.setCell (by simp; omega) _).drew⟩
          case measure => simp [intOf]; omega
        · have HJ : Hid (j = T.length) := (by have := HTL.out; omega : j = T.length)
          rw [HJ.out, xh_all (by rw [HTL.out, HVL.out]), HX.out] at bt
          rw [HVV.out] at bu
          go_wp2
          go_roundw
          case rel => exact ⟨k + 1, by omega, by go_num, bu, bt, b0, hb⟩
          case measure => simp [intOf]; omega
    · have HK : Hid (k = r) := (by omega : k = r)
      rw [HK.out] at hT
      have HTT := Lib.hid hT
      clear hT
      have HB := Lib.hid bt
      go_wp2_with (first
        | (refine wpList_load_mid rfl 143 _ rfl _ _ rfl (cb T) _ HB.out.whole Tryz.underlying143 rfl (by rw [size_sum, cb_len, HTL.out]) ?_)
        | (refine wpList_store_mid rfl 91 _ _ rfl _ _ (cb T).toArray rfl rfl (b0.there_ (by simp [zeros, cb_len, HTL.out])) (by rw [size_32, List.size_toArray, cb_len, HTL.out]) (all_oneCell_toArray (cb_one _)) ?_))
      have hfin := b0.over (vs := cb T) (by rw [cb_len, HTL.out, zeros_len])
      exact ret_row Tryz.results91 rfl hfin Tryz.underlying91 rfl (by rw [size_32, cb_len, HTL.out]) rfl ⟨by rw [HTT.out], below_setCells hb (Nat.le_refl _) _ _⟩

end Go.Proofs.YtlnoopmblmkgkaaGreatDoor

namespace Go.Proofs.YtlnoopmblmkgkaaGreatDoor
set_option maxRecDepth 100000
open Go.RowKit
set_option linter.unusedVariables false
set_option linter.unusedSimpArgs false

/-- May these be, and why not. -/
def keyE (r n : Int) : Int := if 1 ≤ r ∧ r ≤ 4096 then (if 0 ≤ n ∧ n ≤ 256 then 0 else 2) else 6
def keyL (pass salt : List UInt8) (r n : Int) : List UInt8 := if keyE r n = 0 then pbk pass salt r.toNat n.toNat else []
theorem keyE_r {r n : Int} (h : ¬ (1 ≤ r ∧ r ≤ 4096)) : keyE r n = 6 := by unfold keyE; rw [if_neg h]
theorem keyE_n {r n : Int} (h : 1 ≤ r ∧ r ≤ 4096) (h' : ¬ (0 ≤ n ∧ n ≤ 256)) : keyE r n = 2 := by unfold keyE; rw [if_pos h, if_neg h']
theorem keyE_ok {r n : Int} (h : 1 ≤ r ∧ r ≤ 4096) (h' : 0 ≤ n ∧ n ≤ 256) : keyE r n = 0 := by unfold keyE; rw [if_pos h, if_pos h']
theorem keyL_ok {pass salt : List UInt8} {r n : Nat} (h : keyE r n = 0) : keyL pass salt r n = pbk pass salt r n := by unfold keyL; rw [if_pos h, Int.toNat_natCast, Int.toNat_natCast]
theorem keyL_no {pass salt : List UInt8} {r n : Int} (h : keyE r n ≠ 0) : keyL pass salt r n = [] := by unfold keyL; rw [if_neg h]
theorem sblock_of (gk : Nat) (key salt : List UInt8) (r k : Nat) (w : World) (B : Nat) (A : Option Addr) (n c : Nat) (hk : Ky w gk key) (h : Sl w B A n (cb salt)) (hc : n ≤ c) (hA : A = none → c = 0) (hB : B ≤ w.heap.size) (hT : Tabs w) (hn : n ≤ 1000000) (hr : 1 ≤ r) (hr' : r ≤ 4096) (z : Int) (hz : z = ((k + 1 : Nat) : Int)) :
    Calls Tryz.prog 91 #[.pointer (some ⟨gk, 0, none⟩), .slice A n c, .int .i64 (r : Int), .int .u32 z] w fun e w' => e = .returned (.agg (cb (tm key (sblk salt k) (r - 1))).toArray) ∧ Below w.heap.size w w' := by
  subst hz
  obtain ⟨r, rfl⟩ : ∃ m, r = m + 1 := ⟨r - 1, by omega⟩
  exact sblock_any gk key salt r (k + 1) w B A n c hk h hc hA hB hT hn (by omega)

theorem key_bad (pass salt : List UInt8) (r n : Int) (w : World) (A A' : Option Addr) (m c m' c' : Nat) (h : keyE r n ≠ 0) :
    Calls Tryz.prog 60 #[.slice A m c, .slice A' m' c', .int .i64 r, .int .i64 n] w (RetSl w (keyL pass salt r n) (keyE r n)) := by
  have HL := Lib.hid (keyL_no (pass := pass) (salt := salt) h)
  by_cases hr : 1 ≤ r ∧ r ≤ 4096
  · have hn : ¬ (0 ≤ n ∧ n ≤ 256) := fun h' => h (keyE_ok hr h')
    have HE := Lib.hid (keyE_n hr hn)
    have hq1 : decide (r < 1) = false := by simp; omega
    have hq2 : decide (4096 < r) = false := by simp; omega
    rcases (show n < 0 ∨ (¬ n < 0 ∧ 256 < n) by omega) with h1 | ⟨h1, h2⟩
    · have hq3 : decide (n < 0) = true := by simp; omega
      clear h hr hn
      go_enter Tryz.func60, Tryz.ntmps60
      go_wp2
      go_ret2
      exact retSl HL.out.symm HE.out.symm (newSl_nil w)
    · have hq3 : decide (n < 0) = false := by simp; omega
      have hq4 : decide (256 < n) = true := by simp; omega
      clear h hr hn
      go_enter Tryz.func60, Tryz.ntmps60
      go_wp2
      go_ret2
      exact retSl HL.out.symm HE.out.symm (newSl_nil w)
  · have HE := Lib.hid (keyE_r (n := n) hr)
    rcases (show r < 1 ∨ (¬ r < 1 ∧ 4096 < r) by omega) with h1 | ⟨h1, h2⟩
    · have hq3 : decide (r < 1) = true := by simp; omega
      clear h hr
      go_enter Tryz.func60, Tryz.ntmps60
      go_wp2
      go_ret2
      exact retSl HL.out.symm HE.out.symm (newSl_nil w)
    · have hq3 : decide (r < 1) = false := by simp; omega
      have hq4 : decide (4096 < r) = true := by simp; omega
      clear h hr
      go_enter Tryz.func60, Tryz.ntmps60
      go_wp2
      go_ret2
      exact retSl HL.out.symm HE.out.symm (newSl_nil w)

set_option maxRecDepth 100000 in
set_option maxHeartbeats 1000000 in
theorem key_ok (pass salt : List UInt8) (r n : Nat) (w : World) (B : Nat) (A A' : Option Addr) (m c m' c' : Nat) (h : Sl w B A m (cb pass)) (hc : m ≤ c) (hA : A = none → c = 0) (hm : m ≤ 100000000) (h' : Sl w B A' m' (cb salt)) (hc' : m' ≤ c') (hA' : A' = none → c' = 0) (hm' : m' ≤ 1000000) (hB : B ≤ w.heap.size) (hT : Tabs w)
    (hr : 1 ≤ r) (hr' : r ≤ 4096) (hn : n ≤ 256) :
    Calls Tryz.prog 60 #[.slice A m c, .slice A' m' c', .int .i64 (r : Int), .int .i64 (n : Int)] w (RetSl w (pbk pass salt r n) 0) := by
  obtain ⟨i0, hi, hz0, hz1, hz2⟩ := info_parts u8_info
  have HT := Lib.hid hT
  clear hT
  have HPL := Lib.hid (pbk_len pass salt r n)
  obtain ⟨M, hM⟩ : ∃ M, M = (n + 31) / 32 := ⟨_, rfl⟩
  have hMn : n ≤ 32 * M := by omega
  have hM8 : M ≤ 8 := by omega
  have HPK : Hid (pbk pass salt r n = (pbs pass salt r M).take n) := by unfold Hid; rw [hM]; rfl
  have hq1 : decide ((r : Int) < 1) = false := by simp; omega
  have hq2 : decide ((4096 : Int) < (r : Int)) = false := by simp; omega
  have hq3 : decide ((n : Int) < 0) = false := by simp
  have hq4 : decide ((256 : Int) < (n : Int)) = false := by simp; omega
  have hqM : ((n : Int) + 32 - 1) / 32 = (M : Int) := by omega
  have hqT : ((n : Int) + 32 - 1).tdiv 32 = (M : Int) := by rw [Int.tdiv_eq_ediv_of_nonneg (by omega)]; exact hqM
  have HM := Lib.hid hM
  clear hM
  go_enter Tryz.func60, Tryz.ntmps60
  go_wp2_with fail
  refine (mnew_any pass _ _ _ _ _ h hc hA hB (HT.out) hm).mono ?_
  rintro e w1 ⟨gk, rfl, hgk, hky, hb1⟩
  have y1 := (h'.up hB).below hb1
  clear h
  go_wp2_with (at_make; refine wpList_make_part _ rfl _ _ 22 rfl w1.heap.size 5 i0 .u8 Tryz.underlying22 hi hz0 hz1 .i64 .i64 _ _ 0 (32 * M) rfl rfl (by omega) (by omega) (by omega) (by rw [hz2]; omega) (by unfold maxLen; omega) (Nat.le_refl _) ?_; intro w2 hown hgrow)
  have hb2 : Below w1.heap.size w1 w2 := (Below.refl _ w1).grown hgrow (Nat.le_refl _) (by simp)
  have hwz := hb1.size
  clear hgrow
  go_loopw [12, 37] (fun v i wr => ∃ k : Nat, k ≤ M ∧ i = .int .i64 k ∧ wr.ownsRow w1.heap.size 5 1 v (32 * k) (cb (pbs pass salt r k)) ∧ Below w1.heap.size w1 wr) (fun _ i _ => M - (intOf i).toNat)
  case atStart => exact ⟨0, by omega, rfl, hown, hb2⟩
  case round =>
    clear hown hb2
    obtain ⟨k, hk, rfl, hown, hb⟩ := hrel
    obtain ⟨Av, cv, rfl⟩ := own_form hown
    by_cases hlt : k < M
    · have hbw := hb1.trans (hb.mono hwz)
      have hbz := hb.size
      obtain ⟨T, hT⟩ : ∃ T, T = tm pass (sblk salt k) (r - 1) := ⟨_, rfl⟩
      have HTL : Hid (T.length = 32) := by unfold Hid; rw [hT, tm_len]
      have HN : Hid (pbs pass salt r (k + 1) = pbs pass salt r k ++ T) := by unfold Hid; rw [hT]; rfl
      have HTT := Lib.hid hT
      clear hT
      go_wp2_with fail
      refine (sblock_of gk pass salt r k _ _ _ _ _ (hky.next hb) (y1.below (hb.mono hwz)) hc' hA' (by omega) (HT.out.next hbw) hm' hr hr' _ (by first | rfl | omega)).mono ?_
      rintro e w3 ⟨rfl, hb3⟩
      rw [← HTT.out]
      have hown3 := own_below hown hb3
      have hbw3 := hb.trans (hb3.mono hbz)
      obtain ⟨bt, hb4, hz4⟩ := put_new w3 (zeros .u8 32) (cb T) 91 (by rw [cb_len, HTL.out, zeros_len])
      obtain ⟨W4, hW4⟩ : ∃ W, W = (w3.alloc (.cells (zeros .u8 32).toArray 91)).setCells w3.heap.size 0 (cb T) := ⟨_, rfl⟩
      rw [← hW4] at bt hb4 hz4
      have hown4 := own_below hown3 hb4
      have hbw4 := hbw3.trans (hb4.mono hbw3.size)
      have hbs4 := hbw4.size
      have hsl : Sl W4 (w3.heap.size + 1) (some ⟨w3.heap.size, 0, none⟩) 32 (cb T) := bt.sl (o := 0) (n := 32) (by rw [List.drop_zero, List.take_of_length_le (by rw [cb_len, HTL.out]; omega)]) (by rw [cb_len, HTL.out]; omega)
      have HW4 := Lib.hid hW4
      have HO4 := Lib.hid hown4
      have HSL := Lib.hid hsl
      clear hW4 hown hb hbw hb3 hown3 hbw3 bt hb4 hz4 hown4 hsl
      go_wp2_with (first
        | (refine wpList_alloc_zero rfl 91 rfl (zeros .u8 32) zero_32 ?_)
        | (refine wpList_store_mid rfl 91 _ _ rfl _ _ (cb T).toArray rfl rfl (Bl.there_ (Bl.new _ (zeros .u8 32) 91) (by simp [zeros, cb_len, HTL.out])) (by rw [size_32, List.size_toArray, cb_len, HTL.out]) (all_oneCell_toArray (cb_one _)) ?_; change wpList _ _ _ _ _ (World.setCells (w3.alloc (.cells (zeros .u8 32).toArray 91)) w3.heap.size 0 (cb T)); rw [← HW4.out])
        | (at_builtin; refine wpList_append_sl _ rfl _ _ 22 rfl w1.heap.size 5 i0 (.int .u8 0) 1 Tryz.underlying22 hi hz0 hz1 hz2 rfl _ (32 * k) _ rfl HO4.out (w3.heap.size + 1) (some ⟨w3.heap.size, 0, none⟩) 32 32 (cb T) rfl HSL.out (by intro h; cases h) (cb_one _) (by unfold maxLen; omega) (by omega) hbs4 ?_; intro v' w5 hown5 hgrow5 hat5))
      have hb5 : Below w1.heap.size w1 w5 := hbw4.grown hgrow5 hbs4 (fun j e => own_blk HO4.out e)
      have HO5 := Lib.hid hown5
      clear hgrow5 hat5 hown5
      go_wp2
      go_roundw
      case rel => exact ⟨k + 1, by omega, by go_num, by rw [HN.out, cb_append]; exact HO5.out, hb5⟩
      case measure => simp [intOf]; omega
    · have HK : Hid (k = M) := (by omega : k = M)
      rw [HK.out] at hown
      have hcap := own_cap hown
      have hkM : k = M := HK.out
      have hs1 := sl_take (Sl.own hown) hMn
      have hnw := own_new (w' := wr) hown
      have hA2 := own_none hown
      rw [show (cb (pbs pass salt r M)).take n = cb ((pbs pass salt r M).take n) by simp [cb], ← HPK.out] at hs1
      clear hown
      go_wp2_with (refine wpList_slice_hm rfl 22 _ _ _ rfl 5 Tryz.underlying22 u8_size Av _ cv n n .i64 .i64 _ _ rfl rfl rfl rfl rfl (Nat.le_refl _) (by omega) ?_)
      go_ret2
      refine retSl rfl rfl ⟨hs1, HPL.out.symm, Nat.le_refl _, ?_, fun ad e => Nat.le_trans hwz (hnw ad e), hb1.trans (hb.mono hwz)⟩
      intro hno
      have := hA2 hno
      omega

theorem key_any (pass salt : List UInt8) (r n : Int) (w : World) (B : Nat) (A A' : Option Addr) (m c m' c' : Nat) (h : Sl w B A m (cb pass)) (hc : m ≤ c) (hA : A = none → c = 0) (hm : m ≤ 100000000) (h' : Sl w B A' m' (cb salt)) (hc' : m' ≤ c') (hA' : A' = none → c' = 0) (hm' : m' ≤ 1000000) (hB : B ≤ w.heap.size) (hT : Tabs w) :
    Calls Tryz.prog 60 #[.slice A m c, .slice A' m' c', .int .i64 r, .int .i64 n] w (RetSl w (keyL pass salt r n) (keyE r n)) := by
  by_cases he : keyE r n = 0
  · have hr : 1 ≤ r ∧ r ≤ 4096 := by
      by_cases hr : 1 ≤ r ∧ r ≤ 4096
      · exact hr
      · rw [keyE_r hr] at he; cases he
    have hn : 0 ≤ n ∧ n ≤ 256 := by
      by_cases hn : 0 ≤ n ∧ n ≤ 256
      · exact hn
      · rw [keyE_n hr hn] at he; cases he
    obtain ⟨r, rfl⟩ := Int.eq_ofNat_of_zero_le (show 0 ≤ r by omega)
    obtain ⟨n, rfl⟩ := Int.eq_ofNat_of_zero_le hn.1
    rw [he, keyL_ok he]
    exact key_ok pass salt r n w B A A' m c m' c' h hc hA hm h' hc' hA' hm' hB hT (by omega) (by omega) (by omega)
  · exact key_bad pass salt r n w A A' m c m' c' he

end Go.Proofs.YtlnoopmblmkgkaaGreatDoor

namespace Go.Proofs.YtlnoopmblmkgkaaGreatDoor
set_option maxRecDepth 100000
open Go.RowKit
set_option linter.unusedVariables false
set_option linter.unusedSimpArgs false

theorem rkey_bad (pass salt : List UInt8) (r n : Int) (w : World) (A A' : Option Addr) (m c m' c' : Nat) (h : keyE r n ≠ 0) :
    Calls Tryz.prog 39 #[.slice A m c, .slice A' m' c', .int .i64 r, .int .i64 n] w (RetSl w (keyL pass salt r n) (keyE r n)) := by
  have HL := Lib.hid (keyL_no (pass := pass) (salt := salt) h)
  by_cases hr : 1 ≤ r ∧ r ≤ 4096
  · have hn : ¬ (0 ≤ n ∧ n ≤ 256) := fun h' => h (keyE_ok hr h')
    have HE := Lib.hid (keyE_n hr hn)
    have hq1 : decide (r < 1) = false := by simp; omega
    have hq2 : decide (4096 < r) = false := by simp; omega
    rcases (show n < 0 ∨ (¬ n < 0 ∧ 256 < n) by omega) with h1 | ⟨h1, h2⟩
    · have hq3 : decide (n < 0) = true := by simp; omega
      clear h hr hn
      go_enter Tryz.func39, Tryz.ntmps39
      go_wp2
      go_ret2
      exact retSl HL.out.symm HE.out.symm (newSl_nil w)
    · have hq3 : decide (n < 0) = false := by simp; omega
      have hq4 : decide (256 < n) = true := by simp; omega
      clear h hr hn
      go_enter Tryz.func39, Tryz.ntmps39
      go_wp2
      go_ret2
      exact retSl HL.out.symm HE.out.symm (newSl_nil w)
  · have HE := Lib.hid (keyE_r (n := n) hr)
    rcases (show r < 1 ∨ (¬ r < 1 ∧ 4096 < r) by omega) with h1 | ⟨h1, h2⟩
    · have hq3 : decide (r < 1) = true := by simp; omega
      clear h hr
      go_enter Tryz.func39, Tryz.ntmps39
      go_wp2
      go_ret2
      exact retSl HL.out.symm HE.out.symm (newSl_nil w)
    · have hq3 : decide (r < 1) = false := by simp; omega
      have hq4 : decide (4096 < r) = true := by simp; omega
      clear h hr
      go_enter Tryz.func39, Tryz.ntmps39
      go_wp2
      go_ret2
      exact retSl HL.out.symm HE.out.symm (newSl_nil w)

set_option maxRecDepth 100000 in
set_option maxHeartbeats 1600000 in
theorem rkey_ok (pass salt : List UInt8) (r n : Nat) (w : World) (B : Nat) (A A' : Option Addr) (m c m' c' : Nat) (h : Sl w B A m (cb pass)) (hA : A = none → c = 0) (hm : m ≤ 100000000) (h' : Sl w B A' m' (cb salt)) (hA' : A' = none → c' = 0) (hm' : m' ≤ 1000000) (hB : B ≤ w.heap.size)
    (hr : 1 ≤ r) (hr' : r ≤ 4096) (hn : n ≤ 256) :
    Calls Tryz.prog 39 #[.slice A m c, .slice A' m' c', .int .i64 (r : Int), .int .i64 (n : Int)] w (RetSl w (pbk pass salt r n) 0) := by
  obtain ⟨i0, hi, hz0, hz1, hz2⟩ := info_parts u8_info
  have HPL := Lib.hid (pbk_len pass salt r n)
  have HPK : Hid (pbk pass salt r n = (pbs pass salt r ((n + 31) / 32)).take n) := (rfl : _ = _)
  have hq1 : decide ((r : Int) < 1) = false := by simp; omega
  have hq2 : decide ((4096 : Int) < (r : Int)) = false := by simp; omega
  have hq3 : decide ((n : Int) < 0) = false := by simp
  have hq4 : decide ((256 : Int) < (n : Int)) = false := by simp; omega
  replace h := h.up hB
  replace h' := h'.up hB
  go_enter Tryz.func39, Tryz.ntmps39
  go_wp2_with fail
  go_loopw [10, 11] (fun v i wr => ∃ k : Nat, k ≤ (n + 31) / 32 ∧ i = .int .i64 (k + 1 : Nat) ∧ wr.ownsRow w.heap.size 5 1 v (32 * k) (cb (pbs pass salt r k)) ∧ Below w.heap.size w wr) (fun _ i _ => (n + 31) / 32 + 1 - (intOf i).toNat)
  case atStart => exact ⟨0, by omega, rfl, World.ownsRow_nil _ _ _ _, Below.refl _ _⟩
  case round =>
    obtain ⟨k, hk, rfl, hown, hb⟩ := hrel
    obtain ⟨Av, cv, rfl⟩ := own_form hown
    by_cases hlt : 32 * k < n
    · obtain ⟨w0, hw0⟩ : ∃ x, x = wr := ⟨wr, rfl⟩
      subst hw0
      have hd : decide (((32 * k : Nat) : Int) < (n : Int)) = true := by simp; omega
      have y0 := h.nx hb
      have y1 := h'.nx hb
      have hbz := hb.size
      obtain ⟨s, hs⟩ : ∃ s, s = sblk salt k := ⟨_, rfl⟩
      have HS : Hid (salt ++ (le (k + 1) 4).reverse = s) := by unfold Hid; rw [hs]; rfl
      have HNX : Hid (pbs pass salt r (k + 1) = pbs pass salt r k ++ tm pass s (r - 1)) := by unfold Hid; rw [hs]; rfl
      clear hs
      go_wp2_with fail
      refine (told_any (k + 1) 4 _ (by omega) (by omega)).mono ?_
      rintro e w1 ⟨A1, c1, rfl, h1⟩
      have hb1 := h1.below
      have x1 := h1.sl
      have f1 := h1.none_
      clear h1
      go_wp2_with fail
      refine (join_any salt _ _ _ _ _ _ _ _ _ (y1.nx hb1) x1 hA' f1 (by omega) (by omega) (Nat.le_refl _)).mono ?_
      rintro e w2 ⟨A2, c2, rfl, h2⟩
      rw [HS.out] at h2
      have hb2 := next hb1 h2.below
      have x2 := h2.sl
      have f2 := h2.none_
      clear h2 x1 hb1
      go_wp2_with fail
      refine (rtag_any pass s _ _ _ _ _ _ _ _ (y0.nx hb2) hA (by omega) x2 f2 (by omega) (Nat.le_refl _)).mono ?_
      rintro e w3 ⟨A3, c3, rfl, h3⟩
      have hb3 := next hb2 h3.below
      have x3 := h3.sl
      have f3 := h3.none_
      clear h3 x2 hb2
      have HU0 := Lib.hid (um_zero pass s)
      have HT0 := Lib.hid (tm_zero pass s)
      obtain ⟨U0, hU0⟩ : ∃ U, U = hmac pass s := ⟨_, rfl⟩
      rw [← hU0] at HU0 HT0 x3
      clear hU0
      have hb3z := hb3.size
      have h0 := World.ownsRow_lit (base := w3.heap.size) (e := 5) (size := 1) w3 #[] 0 (Nat.le_refl _) (by decide) rfl
      have HH0 := Lib.hid h0
      have HX3 := Lib.hid (x3.alloc (Nat.le_refl _) (.cells #[] 5))
      clear h0
      go_wp2_with (at_builtin; refine wpList_append_sl _ rfl _ _ 22 rfl w3.heap.size 5 i0 (.int .u8 0) 1 Tryz.underlying22 hi hz0 hz1 hz2 rfl _ 0 [] rfl HH0.out w3.heap.size A3 32 c3 (cb U0) rfl HX3.out f3 (cb_one _) (by unfold maxLen; omega) (by omega) (by simp) ?_; intro vt w4 hown4 hgrow4 hat4)
      simp only [Nat.zero_add, List.nil_append] at hown4
      have hb4 : Below w3.heap.size w3 w4 := below_app ((Below.refl _ w3).alloc (Nat.le_refl _) _) (Nat.le_refl _) HH0.out hgrow4
      obtain ⟨gt, ct, rfl, hgt, hgl⟩ := hown4.form (by omega)
      have hof4 := x3.off (g := gt) hgt
      have x4 := x3.nx hb4
      have hbw4 := next hb3 hb4
      clear hgrow4 hat4 HH0 HX3 x3 hb3 hb4
      go_wp2
      go_loopw [12, 14] (fun v i wr => ∃ (j : Nat) (Au : Option Addr) (cu : Nat), j ≤ r - 1 ∧ i = .int .i64 (j + 2 : Nat) ∧ v = .slice Au 32 cu ∧ Sl wr wr.heap.size Au 32 (cb (um pass s j)) ∧ (Au = none → cu = 0) ∧ Off gt 32 Au ∧ wr.ownsRow w3.heap.size 5 1 (.slice (some ⟨gt, 0, none⟩) 32 ct) 32 (cb (tm pass s j)) ∧ Below w0.heap.size w0 wr) (fun _ i _ => r + 1 - (intOf i).toNat)
      case atStart => exact ⟨0, A3, c3, by omega, rfl, rfl, by rw [HU0.out]; exact x4, f3, hof4, by rw [HT0.out]; exact hown4, hbw4⟩
      case round =>
        clear x4 f3 hof4 hown4 hbw4
        obtain ⟨j, Au, cu, hj, rfl, rfl, xu, fu, hof, hownt, hbw⟩ := hrel
        by_cases hjr : j + 2 ≤ r
        · have hd2 : decide (((j + 2 : Nat) : Int) ≤ (r : Int)) = true := by simp; omega
          obtain ⟨T, hT⟩ : ∃ T, T = tm pass s j := ⟨_, rfl⟩
          obtain ⟨U, hU⟩ : ∃ U, U = um pass s j := ⟨_, rfl⟩
          obtain ⟨V, hV⟩ : ∃ V, V = um pass s (j + 1) := ⟨_, rfl⟩
          have HTL : Hid (T.length = 32) := by unfold Hid; rw [hT, tm_len]
          have HVL : Hid (V.length = 32) := by unfold Hid; rw [hV, um_len]
          have HUV : Hid (hmac pass U = V) := by unfold Hid; rw [hV, hU, um_succ]
          have HX : Hid (xl T V = tm pass s (j + 1)) := by unfold Hid; rw [hT, hV, tm_succ]
          have HVV := Lib.hid hV
          rw [← hU] at xu
          rw [← hT] at hownt
          clear hT hU hV
          go_wp2_with fail
          refine (rtag_any pass U _ _ _ _ _ _ _ _ (y0.nx hbw) hA (by omega) xu fu (by omega) (Nat.le_refl _)).mono ?_
          rintro e w5 ⟨A5, c5, rfl, h5⟩
          rw [HUV.out] at h5
          have hbw5 := next hbw h5.below
          have x5 := h5.sl
          have f5 := h5.none_
          have hof5 := own_off h5.own (own_lt hownt rfl)
          have hownt5 := own_below hownt h5.below
          clear h5 hownt hbw xu fu hof
          go_wp2
          go_loopw [15] (fun i wr => ∃ j : Nat, j ≤ 32 ∧ i = .int .i64 j ∧ Sl wr wr.heap.size A5 32 (cb V) ∧ wr.ownsRow w3.heap.size 5 1 (.slice (some ⟨gt, 0, none⟩) 32 ct) 32 (cb (xh T V j)) ∧ Below w0.heap.size w0 wr) (fun i _ => 32 - (intOf i).toNat)
          case atStart => exact ⟨0, by omega, rfl, x5, by rw [xh_zero]; exact hownt5, hbw5⟩
          case round =>
            clear x5 hownt5 hbw5
            obtain ⟨i, hi2, rfl, xv, hownt, hbw⟩ := hrel
            by_cases hil : i < 32
            · have hc1 := hownt.cellAt i (by omega)
              rw [cb, List.getElem?_map, xh_at (by rw [HTL.out, HVL.out]) i (by rw [HTL.out]; exact hil)] at hc1
              have hc1' : wr.cell? ⟨gt, i, none⟩ = some (.int .u8 (((T[i]'(by rw [HTL.out]; exact hil)).toNat : Nat) : Int)) := hc1
              obtain ⟨ad, ead, hadb, hc2⟩ := xv.byte (j := i) (by rw [HVL.out]; exact hil)
              subst ead
              have hf := hownt.frozenAt i
              have hx1 := (T[i]'(by rw [HTL.out]; exact hil)).toNat_lt
              have hx2 := (V[i]'(by rw [HVL.out]; exact hil)).toNat_lt
              have hi0 : (0 : Int) ≤ (i : Int) := by omega
              have hi1 : (i : Int) < 32 := by omega
              have HS := Lib.hid (hownt.stored i (bc (T[i]'(by rw [HTL.out]; exact hil) ^^^ V[i]'(by rw [HVL.out]; exact hil)))).1
              have HXV := Lib.hid xv
              clear hc1 hownt xv
              go_wp2
              go_still_tail 12, (by kernel_rfl)
              go_wp2
              go_roundw
              case rel =>
                refine ⟨i + 1, by omega, by go_num, ?_, ?_, (hbw.setCell (by simp; omega) _).drew⟩
                · exact ((sl_off HXV.out (but_setCell (but_refl _ gt) i _) (Nat.le_refl _) hof5).up (by simp [World.setCell])).drewN 1
                · have hq := HS.out
                  rw [← cb_set, xh_next (by rw [HTL.out, HVL.out]) i (by rw [HTL.out]; exact hil)] at hq
                  rw [byte_xor2]
                  exact hq
              case measure => simp [intOf]; omega
            · have HJ : Hid (i = T.length) := (by have := HTL.out; omega : i = T.length)
              rw [HJ.out, xh_all (by rw [HTL.out, HVL.out]), HX.out] at hownt
              rw [HVV.out] at xv
              go_wp2
              go_roundw
              case rel => exact ⟨j + 1, A5, c5, by omega, by go_num, rfl, xv, f5, hof5, hownt, hbw⟩
              case measure => simp [intOf]; omega
        · have hd2 : decide (((j + 2 : Nat) : Int) ≤ (r : Int)) = false := by simp; omega
          have HJ : Hid (j = r - 1) := (by omega : j = r - 1)
          rw [HJ.out] at hownt
          have hown6 := own_below hown hbw
          have xt := Sl.own hownt
          have hbw6 := next hb hbw
          have hbs6 := hbw6.size
          have HO6 := Lib.hid hown6
          have HXT := Lib.hid xt
          clear hownt hown6 xt xu fu hof
          go_wp2_with (at_builtin; refine wpList_append_sl _ rfl _ _ 22 rfl w.heap.size 5 i0 (.int .u8 0) 1 Tryz.underlying22 hi hz0 hz1 hz2 rfl _ (32 * k) _ rfl HO6.out wr.heap.size (some ⟨gt, 0, none⟩) 32 ct _ rfl HXT.out (by intro h; cases h) (cb_one _) (by unfold maxLen; omega) (by omega) hbs6 ?_; intro v7 w7 hown7 hgrow7 hat7)
          have hb7 := below_app hbw6 (Nat.le_refl _) HO6.out hgrow7
          have HO7 := Lib.hid hown7
          clear hgrow7 hat7 hown7
          go_wp2
          go_roundw
          case rel => exact ⟨k + 1, by omega, by go_num, by rw [HNX.out, cb_append]; exact HO7.out, hb7⟩
          case measure => simp [intOf]; omega
    · have hd : decide (((32 * k : Nat) : Int) < (n : Int)) = false := by simp; omega
      have HK : Hid (k = (n + 31) / 32) := (by omega : k = (n + 31) / 32)
      have hcap := own_cap hown
      have hs1 := sl_take (h := n) (Sl.own hown) (by omega)
      have hnw := own_new (w' := wr) hown
      have hA2 := own_none hown
      rw [show (cb (pbs pass salt r k)).take n = cb ((pbs pass salt r k).take n) by simp [cb], HK.out, ← HPK.out] at hs1
      clear hown
      go_wp2_with (refine wpList_slice_h rfl 22 _ _ rfl 5 Tryz.underlying22 u8_size Av _ cv n .i64 _ rfl rfl rfl (by omega) ?_)
      go_ret2
      exact retSl rfl rfl ⟨hs1, HPL.out.symm, by omega, hA2, hnw, hb⟩

theorem rkey_any (pass salt : List UInt8) (r n : Int) (w : World) (B : Nat) (A A' : Option Addr) (m c m' c' : Nat) (h : Sl w B A m (cb pass)) (hA : A = none → c = 0) (hm : m ≤ 100000000) (h' : Sl w B A' m' (cb salt)) (hA' : A' = none → c' = 0) (hm' : m' ≤ 1000000) (hB : B ≤ w.heap.size) :
    Calls Tryz.prog 39 #[.slice A m c, .slice A' m' c', .int .i64 r, .int .i64 n] w (RetSl w (keyL pass salt r n) (keyE r n)) := by
  by_cases he : keyE r n = 0
  · have hr : 1 ≤ r ∧ r ≤ 4096 := by
      by_cases hr : 1 ≤ r ∧ r ≤ 4096
      · exact hr
      · rw [keyE_r hr] at he; cases he
    have hn : 0 ≤ n ∧ n ≤ 256 := by
      by_cases hn : 0 ≤ n ∧ n ≤ 256
      · exact hn
      · rw [keyE_n hr hn] at he; cases he
    obtain ⟨r, rfl⟩ := Int.eq_ofNat_of_zero_le (show 0 ≤ r by omega)
    obtain ⟨n, rfl⟩ := Int.eq_ofNat_of_zero_le hn.1
    rw [he, keyL_ok he]
    exact rkey_ok pass salt r n w B A A' m c m' c' h hA hm h' hA' hm' hB (by omega) (by omega) (by omega)
  · exact rkey_bad pass salt r n w A A' m c m' c' he

end Go.Proofs.YtlnoopmblmkgkaaGreatDoor

namespace Go.Proofs.YtlnoopmblmkgkaaGreatDoor
set_option maxRecDepth 100000
open Go.RowKit
set_option linter.unusedVariables false
set_option linter.unusedSimpArgs false

end Go.Proofs.YtlnoopmblmkgkaaGreatDoor
