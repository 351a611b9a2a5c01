/- words and Block of the reference of package cipher. -/
import Derived.Test.YtnhpamfmbledmaaDoorChaR
namespace Go.Proofs.YtnhpamfmbledmaaDoor
open Go.RowKit
set_option linter.unusedVariables false
set_option linter.unusedSimpArgs false

theorem us_one_snoc (l : List UInt8) (k y : Nat) (hy : y = wdL l k) : us (wdsL l (k + 1)) = us (wdsL l k) ++ [.int .u32 (y : Int)] := by
  rw [wdsL_succ, us_append, hy]; rfl

set_option maxHeartbeats 400000 in
theorem rwords_any (l : List UInt8) (m : Nat) (w : World) (B : Nat) (A : Option Addr) (n c : Nat) (h : Sl w B A n (cb l)) (h4 : n = 4 * m) (hm : n ≤ 1000) (hc : n ≤ c) (hA : A = none → c = 0) (hB : B ≤ w.heap.size) :
    Calls Tryd.prog 20 #[.slice A n c] w (RetRow 23 w m (us (wdsL l m))) := by
  obtain ⟨i0, hi, hz0, hz1, hz2⟩ := info_parts u32_info
  have H4 := Lib.hid h4
  have hmb : m ≤ 250 := by omega
  clear h4
  go_enter Tryd.func20, Tryd.ntmps20
  go_wp2
  go_loopw [3, 4] (fun v i wr => ∃ k K4 : Nat, k ≤ m ∧ Hid (K4 = 4 * k) ∧ i = .int .i64 (K4 : Int) ∧ wr.ownsRow w.heap.size 23 1 v k (us (wdsL l k)) ∧ Below w.heap.size w wr) (fun _ i _ => 4 * m - (intOf i).toNat)
  case atStart => exact ⟨0, 0, Nat.zero_le _, (rfl : _ = _), rfl, World.ownsRow_nil _ _ _ _, Below.refl _ _⟩
  case round =>
    obtain ⟨k, K4, hk, HK4, rfl, hown, hbel⟩ := hrel
    have hK4 := HK4.out
    have hK4b : K4 ≤ 1000 := by have := H4.out; omega
    by_cases hlt : k < m
    · have hle : K4 + 4 ≤ n := by have := H4.out; omega
      have hsl := h.below (hbel.mono hB)
      have hs2 := sl_mid (l := K4) (h := K4 + 4) hsl (by omega) (by omega) hc
      rw [show K4 + 4 - K4 = 4 by omega, ← cb_slice] at hs2
      obtain ⟨y, hy⟩ : ∃ y, y = wdL l k := ⟨_, rfl⟩
      have HY : Hid (loadV ((l.drop K4).take 4) true = y) := by unfold Hid; rw [hy, hK4]; rfl
      have HS := Lib.hid (us_one_snoc l k y hy)
      have hbz := hbel.size
      have HS2 := Lib.hid hs2
      clear hy hK4 hs2 hsl
      go_wp2_with (refine wpList_slice_lh rfl 22 _ _ _ rfl 5 Tryd.underlying22 u8_size A n c K4 (K4 + 4) .i64 .i64 _ _ rfl rfl rfl rfl (by omega) (by omega) (by omega) hA ?_; intro A2 HA2)
      have hs3 := HS2.out
      rw [← HA2.out] at hs3
      refine (rload_any ((l.drop K4).take 4) true _ _ _ _ _ hs3 (by decide) (Nat.le_trans hB hbz)).mono ?_
      rintro e w1 ⟨rfl, hb1⟩
      rw [HY.out]
      have hown1 := own_below hown hb1
      have hbw1 := next hbel hb1
      have hbz1 := hbw1.size
      clear hown hbel hb1 hs3 HS2
      go_wp2_with (at_builtin; refine wpList_append_own_at _ rfl _ _ 49 rfl w.heap.size 23 i0 (.int .u32 0) 1 4 Tryd.underlying49 hi hz0 hz1 hz2 rfl (by decide) _ _ _ rfl (hown1.alloc _) ⟨w1.heap.size, 0, none⟩ 1 1 _ rfl rfl (cell_one_new _ _ _) (by simp [Value.oneCell']) (by unfold maxLen; omega) (by omega) (by simp; omega) ?_; intro v' w2 hown' hgrow hnil hat)
      have hb2 := below_app1 hbw1 (Nat.le_refl _) hown1 hgrow
      have HO := Lib.hid hown'
      clear hown' hgrow hnil hat hown1
      go_wp2
      go_roundw
      case rel => exact ⟨k + 1, K4 + 4, by omega, (by have := HK4.out; omega : K4 + 4 = 4 * (k + 1)), by go_num, by rw [HS.out]; exact HO.out, hb2⟩
      case measure => simp [intOf]; have := HK4.out; omega
    · have HK : Hid (k = m) := (by omega : k = m)
      clear hK4
      have hgt : ¬ (K4 : Int) + 4 ≤ (n : Int) := by have := HK4.out; have := H4.out; omega
      go_wp2
      go_ret
      exact retRow HK.out (by rw [HK.out]) hown hbel

end Go.Proofs.YtnhpamfmbledmaaDoor
