/- Mix of the reference of package cipher. -/
import Derived.Test.YtnhpamfmbledmaaDoorChaT
import Derived.Test.YtnhpamfmbledmaaDoorChaG
namespace Go.Proofs.YtnhpamfmbledmaaDoor
open Go.RowKit
set_option linter.unusedVariables false
set_option linter.unusedSimpArgs false

theorem rmix_none (key nonce b : List UInt8) (f : Nat) (A0 A1 A3 : Option Addr) (n0 n1 n3 c0 c1 c3 : Nat) (w : World) (h0 : Sl w w.heap.size A0 n0 (cb key)) (h1 : Sl w w.heap.size A1 n1 (cb nonce)) (hfit : ¬ fitK key nonce = true) :
    Calls Tryd.prog 16 #[.slice A0 n0 c0, .slice A1 n1 c1, .int .u32 f, .slice A3 n3 c3] w (RetSl w (mixR key nonce f b) (mixE key nonce f b)) := by
  have hn0 : n0 = key.length := by rw [← h0.1, cb_len]
  have hn1 : n1 = nonce.length := by rw [← h1.1, cb_len]
  have hq : (n0 == 32 && n1 == 12) = false := by rw [hn0, hn1]; simpa [fitK] using hfit
  have HR : Hid (mixR key nonce f b = []) := by unfold Hid mixR; rw [if_neg hfit]
  have HE : Hid (mixE key nonce f b = 1) := by unfold Hid mixE; rw [if_neg hfit]
  have hf := right_any n0 n1 c0 c1 A0 A1 w
  rw [hq] at hf
  have HF := Lib.hid hf
  clear hf hq hn0 hn1 hfit
  go_enter Tryd.func16, Tryd.ntmps16
  go_wp2_with fail
  refine HF.out.mono ?_
  rintro e w' ⟨rfl, rfl⟩
  go_wp2
  go_ret2
  rw [HR.out, HE.out]
  exact ⟨none, 0, 0, rfl, newSl_nil _⟩

theorem blks_case (n k : Nat) (hk : k = blksN n) : ((n : Int) % 64 = 0 ∧ (n : Int) / 64 = (k : Int)) ∨ (0 < (n : Int) % 64 ∧ (n : Int) / 64 + 1 = (k : Int)) := by
  subst hk; unfold blksN; omega

theorem rmix_cap (key nonce b : List UInt8) (f : Nat) (A0 A1 A3 : Option Addr) (n0 n1 n3 c0 c1 c3 : Nat) (w : World) (hf : f < 4294967296) (h0 : Sl w w.heap.size A0 n0 (cb key)) (h1 : Sl w w.heap.size A1 n1 (cb nonce)) (h3 : Sl w w.heap.size A3 n3 (cb b)) (hm : n3 ≤ 1000000000) (hfit : fitK key nonce = true) (hcap : ¬ blksN b.length ≤ 4294967296 - f) :
    Calls Tryd.prog 16 #[.slice A0 n0 c0, .slice A1 n1 c1, .int .u32 f, .slice A3 n3 c3] w (RetSl w (mixR key nonce f b) (mixE key nonce f b)) := by
  have hn0 : n0 = key.length := by rw [← h0.1, cb_len]
  have hn1 : n1 = nonce.length := by rw [← h1.1, cb_len]
  have hn3 : n3 = b.length := by rw [← h3.1, cb_len]
  have hq : (n0 == 32 && n1 == 12) = true := by rw [hn0, hn1]; simpa [fitK] using hfit
  have HR : Hid (mixR key nonce f b = []) := by unfold Hid mixR; rw [if_pos hfit, if_neg hcap]
  have HE : Hid (mixE key nonce f b = 10) := by unfold Hid mixE; rw [if_pos hfit, if_neg hcap]
  have hff := right_any n0 n1 c0 c1 A0 A1 w
  rw [hq] at hff
  have HF := Lib.hid hff
  rw [← hn3] at hcap
  obtain ⟨k, hk⟩ : ∃ k, k = blksN n3 := ⟨_, rfl⟩
  have hkb : k ≤ 100000000 := by rw [hk]; unfold blksN; omega
  rw [← hk] at hcap
  have hcs := blks_case n3 k hk
  have hgt : (4294967296 : Int) - (f : Int) < (k : Int) := by omega
  clear hff hq hn0 hn1 hn3 hfit hcap hk
  rcases hcs with ⟨hr, hd⟩ | ⟨hr, hd⟩
  all_goals
    go_enter Tryd.func16, Tryd.ntmps16
    go_wp2_with fail
    refine HF.out.mono ?_
    rintro e w' ⟨rfl, rfl⟩
    go_wp2
    go_ret2
    rw [HR.out, HE.out]
    exact ⟨none, 0, 0, rfl, newSl_nil _⟩

theorem mixL_take (key nonce : List UInt8) (f : Nat) (b : List UInt8) (j : Nat) (hj : j < b.length) (x y : UInt8) (hx : b[j]? = some x) (hy : (cblk key nonce (f + j / 64))[j % 64]? = some y) : cb ((mixL key nonce f b).take (j + 1)) = cb ((mixL key nonce f b).take j) ++ [.int .u8 ((x ^^^ y).toNat : Int)] := by
  have h : (mixL key nonce f b)[j]? = some (x ^^^ y) := by
    simp [mixL, hj, List.getD_eq_getElem?_getD, hx, hy]
    simpa [List.getElem?_eq_getElem hj] using hx
  exact cb_take_succ _ _ _ h

end Go.Proofs.YtnhpamfmbledmaaDoor
