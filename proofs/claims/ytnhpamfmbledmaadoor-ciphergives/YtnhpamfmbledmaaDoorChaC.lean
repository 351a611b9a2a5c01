/- loadWords, initialState, blockOf, fit and Block of package cipher. -/
import Derived.Test.YtnhpamfmbledmaaDoorChaB
namespace Go.Proofs.YtnhpamfmbledmaaDoor
open Go.RowKit
set_option linter.unusedVariables false
set_option linter.unusedSimpArgs false

theorem splice_snoc (cs r : List Value) (o : Nat) (v : Value) (h : o + r.length < cs.length) : (splice cs o r).set (o + r.length) v = splice cs o (r ++ [v]) := by
  unfold splice
  have hl : (cs.take o).length = o := by rw [List.length_take]; omega
  rw [List.set_append_right _ _ (by omega), hl, Nat.add_sub_cancel_left, List.set_append_right _ _ (Nat.le_refl _), Nat.sub_self, List.length_append, List.length_singleton, ← Nat.add_assoc,
    List.drop_eq_getElem_cons h, List.set_cons_zero, List.append_assoc]
  rfl
theorem splice_nil (cs : List Value) (o : Nat) : splice cs o [] = cs := by simp [splice]
theorem splice_at (cs r : List Value) (o : Nat) (h : o + r.length ≤ cs.length) (j : Nat) (hj : j < cs.length) : ∃ u, (splice cs o r)[j]? = some u :=
  ⟨_, List.getElem?_eq_getElem (by rw [splice_len cs o r h]; exact hj)⟩

set_option maxHeartbeats 400000 in
theorem loadw_any (g off n c : Nat) (cs : List Value) (T : TypeId) (l : List UInt8) (A : Option Addr) (m c' B : Nat) (w : World) (hg : Bl w g cs T) (hfit : off + n ≤ cs.length) (h : Sl w B A m (cb l)) (hB : B ≤ g) (hc : m ≤ c') (hA : A = none → c' = 0) (h4 : 4 * n = m) (hm : n ≤ 1000) :
    Calls Tryd.prog 29 #[.slice (some ⟨g, off, none⟩) n c, .slice A m c'] w fun e w' => e = .returned (.tuple #[]) ∧ Bl w' g (splice cs off (us (wdsL l n))) T ∧ w.grownBy w' (some g) := by
  have hml : m = l.length := by rw [← h.1, cb_len]
  have HML := Lib.hid hml
  have H4 := Lib.hid h4
  have hgl := hg.lt
  have HFIT := Lib.hid hfit
  clear hml hfit
  go_enter Tryd.func29, Tryd.ntmps29
  go_wp2
  go_loopw [7] (fun i wr => ∃ k : Nat, k ≤ n ∧ i = .int .i64 k ∧ Bl wr g (splice cs off (us (wdsL l k))) T ∧ w.grownBy wr (some g)) (fun i _ => n - (intOf i).toNat)
  case atStart => exact ⟨0, by omega, rfl, by rw [show us (wdsL l 0) = [] from rfl, splice_nil]; exact hg, but_refl w g⟩
  case round =>
    obtain ⟨k, hk, rfl, hb, hgr⟩ := hrel
    by_cases hlt : k < n
    · have hsl := sl_but h hgr (by omega) hB
      have hx4 : 4 * k + 4 ≤ m := by omega
      have i1 : IntKind.i64.wrap (4 * (k : Int)) = 4 * (k : Int) := IntWalk.i64_in _ (by omega)
      have i2 : IntKind.i64.wrap (4 * ((k : Int) + 1)) = 4 * ((k : Int) + 1) := IntWalk.i64_in _ (by omega)
      go_wp2_with (refine wpList_slice_lh rfl 22 _ _ _ rfl 5 Tryd.underlying22 u8_size A m c' (4 * k) (4 * k + 4) .i64 .i64 _ _ rfl rfl rfl (by omega) (by omega) (by omega) (by omega) hA ?_; intro A2 HA2)
      have hs2 := sl_mid (l := 4 * k) (h := 4 * k + 4) hsl (by omega) (by omega) hc
      rw [← HA2.out, show 4 * k + 4 - 4 * k = 4 by omega, ← cb_slice] at hs2
      refine (load_any ((l.drop (4 * k)).take 4) true _ _ _ _ _ hs2 (by decide)).mono ?_
      rintro e w1 ⟨rfl, hD⟩
      obtain ⟨y, hy⟩ : ∃ y, y = wdL l k := ⟨_, rfl⟩
      have HY : Hid (loadV ((l.drop (4 * k)).take 4) true = y) := hy.symm
      rw [HY.out]
      have hb1 := hb.keep (w' := w1) (by obtain ⟨j, rfl⟩ := hD; rfl)
      have hg1 : w.grownBy w1 (some g) := by obtain ⟨j, rfl⟩ := hD; exact but_drewN hgr j
      obtain ⟨C, hC⟩ : ∃ C, C = splice cs off (us (wdsL l k)) := ⟨_, rfl⟩
      have hcl : C.length = cs.length := by rw [hC, splice_len _ _ _ (by rw [us_len, wdsL_len]; have := HFIT.out; omega)]
      rw [← hC] at hb1
      have hcell : ∃ u, w1.cell? ⟨g, off + k, none⟩ = some u := ⟨_, by rw [hb1.cell, List.getElem?_eq_getElem (by rw [hcl]; have := HFIT.out; omega)]⟩
      obtain ⟨u, hcell⟩ := hcell
      have hfr := hb1.frozen (off + k)
      have HS : Hid (C.set (off + k) (.int .u32 (y : Int)) = splice cs off (us (wdsL l (k + 1)))) := by
        unfold Hid
        have := splice_snoc cs (us (wdsL l k)) off (.int .u32 (y : Int)) (by rw [us_len, wdsL_len]; have := HFIT.out; omega)
        rw [us_len, wdsL_len, ← hC] at this
        rw [this, wdsL_succ, us_append, hy]
        rfl
      have d1 := Lib.hid (hb1.set (off + k) (.int .u32 (y : Int)))
      clear hD hs2 hb hgr hb1 hy hC hcl i1 i2
      go_wp2
      go_roundw
      case rel => exact ⟨k + 1, by omega, by go_num, by rw [← HS.out]; exact d1.out, but_setCell hg1 _ _⟩
      case measure => simp [intOf]; omega
    · have HK : Hid (k = n) := (by omega : k = n)
      go_wp2
      go_end0
      rw [HK.out] at hb
      exact ⟨rfl, hb, hgr⟩

end Go.Proofs.YtnhpamfmbledmaaDoor
