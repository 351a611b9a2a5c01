/- Mix of package cipher. -/
import Derived.Test.YtnhpamfmbledmaaDoorChaH
namespace Go.Proofs.YtnhpamfmbledmaaDoor
open Go.RowKit
set_option linter.unusedVariables false
set_option linter.unusedSimpArgs false
attribute [local go_sem] Oper.semAt_some

theorem mix_none (key nonce b : List UInt8) (f : Nat) (A0 A1 A3 : Option Addr) (n0 n1 n3 c0 c1 c3 : Nat) (w : World) (h0 : Sl w w.heap.size A0 n0 (cb key)) (h1 : Sl w w.heap.size A1 n1 (cb nonce)) (hfit : ¬ fitK key nonce = true) :
    Calls Tryd.prog 15 #[.slice A0 n0 c0, .slice A1 n1 c1, .int .u32 f, .slice A3 n3 c3] w (RetSl w (mixR key nonce f b) (mixE key nonce f b)) := by
  have hn0 : n0 = key.length := by rw [← h0.1, cb_len]
  have hn1 : n1 = nonce.length := by rw [← h1.1, cb_len]
  have hq : (n0 == 32 && n1 == 12) = false := by rw [hn0, hn1]; simpa [fitK] using hfit
  have HR : Hid (mixR key nonce f b = []) := by unfold Hid mixR; rw [if_neg hfit]
  have HE : Hid (mixE key nonce f b = 1) := by unfold Hid mixE; rw [if_neg hfit]
  have hf := fit_any n0 n1 c0 c1 A0 A1 (w.alloc (.cells #[.slice A3 n3 c3] 22))
  rw [hq] at hf
  have HF := Lib.hid hf
  clear hf hq hn0 hn1 hfit
  go_enter Tryd.func15, Tryd.ntmps15
  go_wp2_with fail
  refine HF.out.mono ?_
  rintro e w' ⟨rfl, rfl⟩
  go_wp2
  go_ret2
  rw [HR.out, HE.out]
  exact ⟨none, 0, 0, rfl, Sl.nil_, rfl, Nat.le_refl _, fun _ => rfl, (fun _ h => by cases h), (Below.refl _ w).alloc (Nat.le_refl _) _⟩

theorem mix_cap (key nonce b : List UInt8) (f : Nat) (A0 A1 A3 : Option Addr) (n0 n1 n3 c0 c1 c3 : Nat) (w : World) (hf : f < 4294967296) (h0 : Sl w w.heap.size A0 n0 (cb key)) (h1 : Sl w w.heap.size A1 n1 (cb nonce)) (h3 : Sl w w.heap.size A3 n3 (cb b)) (hm : n3 ≤ 1000000000) (hfit : fitK key nonce = true) (hcap : ¬ blksN b.length ≤ 4294967296 - f) :
    Calls Tryd.prog 15 #[.slice A0 n0 c0, .slice A1 n1 c1, .int .u32 f, .slice A3 n3 c3] w (RetSl w (mixR key nonce f b) (mixE key nonce f b)) := by
  have hn0 : n0 = key.length := by rw [← h0.1, cb_len]
  have hn1 : n1 = nonce.length := by rw [← h1.1, cb_len]
  have hn3 : n3 = b.length := by rw [← h3.1, cb_len]
  have hq : (n0 == 32 && n1 == 12) = true := by rw [hn0, hn1]; simpa [fitK] using hfit
  have HR : Hid (mixR key nonce f b = []) := by unfold Hid mixR; rw [if_pos hfit, if_neg hcap]
  have HE : Hid (mixE key nonce f b = 10) := by unfold Hid mixE; rw [if_pos hfit, if_neg hcap]
  have hff := fit_any n0 n1 c0 c1 A0 A1 (w.alloc (.cells #[.slice A3 n3 c3] 22))
  rw [hq] at hff
  have HF := Lib.hid hff
  rw [← hn3] at hcap
  obtain ⟨k, hk⟩ : ∃ k, k = blksN n3 := ⟨_, rfl⟩
  have hb := bfor_any n3 (w.alloc (.cells #[.slice A3 n3 c3] 22)) (by omega)
  have hkb : k ≤ 100000000 := by rw [hk]; unfold blksN; omega
  rw [← hk] at hcap hb
  have HB := Lib.hid hb
  have hgt : (4294967295 : Int) - (f : Int) + 1 < (k : Int) := by omega
  clear hff hq hn0 hn1 hn3 hfit hcap hb hk
  go_enter Tryd.func15, Tryd.ntmps15
  go_wp2_with fail
  refine HF.out.mono ?_
  rintro e w' ⟨rfl, rfl⟩
  go_wp2_with fail
  refine HB.out.mono ?_
  rintro e w' ⟨rfl, rfl⟩
  go_wp2
  go_ret2
  rw [HR.out, HE.out]
  exact ⟨none, 0, 0, rfl, Sl.nil_, rfl, Nat.le_refl _, fun _ => rfl, (fun _ h => by cases h), (Below.refl _ w).alloc (Nat.le_refl _) _⟩

/-- The bytes while they are mixed: the rounds so far. -/
def mixP (key nonce : List UInt8) (f : Nat) (b : List UInt8) (pre : List Nat) : List UInt8 := (List.range b.length).map fun i => if i < 64 * pre.length then b.getD i 0 ^^^ (cblk key nonce (f + pre.getD (i / 64) 0)).getD (i % 64) 0 else 0
theorem mixP_len (key nonce : List UInt8) (f : Nat) (b : List UInt8) (pre : List Nat) : (mixP key nonce f b pre).length = b.length := by simp [mixP]
theorem mixP_nil (key nonce : List UInt8) (f : Nat) (b : List UInt8) : cb (mixP key nonce f b []) = zeros .u8 b.length := by
  rw [zeros_cb]
  congr 1
  apply List.ext_getElem?
  intro i
  simp only [mixP, List.length_nil, Nat.mul_zero, Nat.not_lt_zero, if_false, List.getElem?_map, List.getElem?_replicate]
  by_cases hi : i < b.length
  · simp [hi]
  · simp [hi]
theorem mixP_all (key nonce : List UInt8) (f : Nat) (b : List UInt8) (k : Nat) (h : b.length ≤ 64 * k) : mixP key nonce f b (List.range k) = mixL key nonce f b := by
  unfold mixP mixL
  apply List.map_congr_left
  intro i hi
  have hi' := List.mem_range.1 hi
  have hd : i / 64 < k := by omega
  rw [if_pos (by simp; omega)]
  simp [List.getElem?_range, hd]
theorem mixP_at (key nonce : List UInt8) (f : Nat) (b : List UInt8) (pre : List Nat) (i : Nat) (hi : i < b.length) : (mixP key nonce f b pre)[i]? = some (if i < 64 * pre.length then b.getD i 0 ^^^ (cblk key nonce (f + pre.getD (i / 64) 0)).getD (i % 64) 0 else 0) := by
  simp [mixP, hi]
theorem mixP_next (key nonce : List UInt8) (f : Nat) (b : List UInt8) (pre : List Nat) (x t : Nat) (h : 64 * pre.length ≤ b.length) (ht : t = min (b.length - 64 * pre.length) 64) :
    splice (cb (mixP key nonce f b pre)) (64 * pre.length) (cb (xl ((b.drop (64 * pre.length)).take t) ((cblk key nonce (f + x)).take t))) = cb (mixP key nonce f b (pre ++ [x])) := by
  rw [← cb_splice]
  congr 1
  have hz : (xl ((b.drop (64 * pre.length)).take t) ((cblk key nonce (f + x)).take t)).length = t := by rw [xl_take_len _ _ _ (by simp; omega) (by rw [cblk_len]; omega)]
  apply List.ext_getElem?
  intro i
  have hl1 : (splice (mixP key nonce f b pre) (64 * pre.length) (xl ((b.drop (64 * pre.length)).take t) ((cblk key nonce (f + x)).take t))).length = b.length := by
    rw [splice_len _ _ _ (by rw [hz, mixP_len]; omega), mixP_len]
  by_cases hi : i < b.length
  · rw [mixP_at _ _ _ _ _ _ hi]
    unfold splice
    rw [hz]
    have htk : ((mixP key nonce f b pre).take (64 * pre.length)).length = 64 * pre.length := by rw [List.length_take, mixP_len]; omega
    by_cases h1 : i < 64 * pre.length
    · rw [List.getElem?_append_left (by rw [htk]; exact h1), List.getElem?_take_of_lt h1, mixP_at _ _ _ _ _ _ hi, if_pos h1, if_pos (by simp; omega)]
      have hd : i / 64 < pre.length := by omega
      simp [List.getD_eq_getElem?_getD, List.getElem?_append_left hd]
    · rw [List.getElem?_append_right (by rw [htk]; omega), htk]
      by_cases h2 : i < 64 * pre.length + t
      · rw [List.getElem?_append_left (by rw [hz]; omega), xl_take_at _ _ _ _ (by simp; omega) (by rw [cblk_len]; omega) (by omega), if_pos (by simp; omega)]
        have hd : i / 64 = pre.length := by omega
        have hr : i % 64 = i - 64 * pre.length := by omega
        rw [hd, hr]
        have e1 : (pre ++ [x]).getD pre.length 0 = x := by simp
        rw [e1, List.getElem_drop]
        have e2 : b.getD i 0 = b[i] := by simp [hi]
        have e3 : (cblk key nonce (f + x)).getD (i - 64 * pre.length) 0 = (cblk key nonce (f + x))[i - 64 * pre.length]'(by rw [cblk_len]; omega) := by
          have : i - 64 * pre.length < (cblk key nonce (f + x)).length := by rw [cblk_len]; omega
          simp [this]
        rw [e2, e3]
        simp only [show 64 * pre.length + (i - 64 * pre.length) = i by omega]
      · rw [List.getElem?_append_right (by rw [hz]; omega), hz, List.getElem?_drop, show 64 * pre.length + t + (i - 64 * pre.length - t) = i by omega, mixP_at _ _ _ _ _ _ hi, if_neg h1, if_neg (by simp; omega)]
  · rw [List.getElem?_eq_none (by rw [hl1]; omega), List.getElem?_eq_none (by rw [mixP_len]; omega)]

end Go.Proofs.YtnhpamfmbledmaaDoor
