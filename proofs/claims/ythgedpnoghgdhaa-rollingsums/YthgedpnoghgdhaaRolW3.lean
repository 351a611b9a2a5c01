/- The walk of the law RollingSums. -/
import Derived.Test.YthgedpnoghgdhaaRolV
import Derived.Test.YthgedpnoghgdhaaOpn
import Derived.StillTailTactics
namespace Go.Proofs.Ythgedpnoghgdhaa
set_option maxRecDepth 100000
open Go Go.RowKit
set_option linter.unusedVariables false
set_option linter.unusedSimpArgs false

theorem zero_a16 : (Try.prog.info? 40).map (·.zero) = some (some (.agg (zeros .u8 16).toArray)) := by kernel_rfl
theorem rolV_xl (m : Nat) (hm : m < 18446744073709551616) (a b : List UInt8) (ha : a.length = 16) (hb : b.length = 16) : rolV m (xl a b) = rolV m a ^^^ rolV m b := by
  unfold rolV
  split
  · rename_i h
    obtain ⟨d, hd, _, _, h3, _⟩ := rolOk_deg h hm
    rw [show nb2 m - 1 = d by omega]
    exact fpr_xl hd a b ha hb
  · rfl

set_option maxRecDepth 100000 in
set_option maxHeartbeats 2000000 in
theorem rollingSums_walk (a0 : Int) (x y : List UInt8) (w : World) (w0 : (Lit.int .u64 a0).wf = true) (hx : x.length = 16) (hy : y.length = 16) :
    Calls Try.prog 7 #[.int .u64 a0, .agg (cb x).toArray, .agg (cb y).toArray] w fun e w' => e = .returned (.bool true) ∧ Below w.heap.size w w' := by
  obtain ⟨b0, b1⟩ := bounds_u64 w0
  obtain ⟨m, rfl⟩ := Int.eq_ofNat_of_zero_le b0
  have hm : m < 18446744073709551616 := by omega
  clear w0 b0 b1
  have HX := Lib.hid hx
  have HY := Lib.hid hy
  have hxl : (xl x y).length = 16 := by rw [xl_len x y (by omega)]; exact hx
  have HXL := Lib.hid hxl
  have HV3 : Hid (rolV m (xl x y) = rolV m x ^^^ rolV m y) := rolV_xl m hm x y hx hy
  clear hx hy hxl
  obtain ⟨W0, hW0⟩ : ∃ W, W = w.alloc (.cells (cb x).toArray 40) := ⟨_, rfl⟩
  obtain ⟨W1, hW1⟩ : ∃ W, W = W0.alloc (.cells (cb y).toArray 40) := ⟨_, rfl⟩
  obtain ⟨W2, hW2⟩ : ∃ W, W = W1.alloc (.cells (zeros .u8 16).toArray 40) := ⟨_, rfl⟩
  obtain ⟨g, hg⟩ : ∃ g, g = w.heap.size := ⟨_, rfl⟩
  have e0 : W0.heap.size = g + 1 := by rw [hW0, hg]; simp
  have e1 : W1.heap.size = g + 2 := by rw [hW1]; simp [e0]
  have e2 : W2.heap.size = g + 3 := by rw [hW2]; simp [e1]
  have ba : Bl W2 g (cb x) 40 := by
    have h0 : Bl W0 g (cb x) 40 := by rw [hW0, hg]; exact Bl.new _ _ _
    rw [hW2, hW1]; exact (h0.alloc _).alloc _
  have bb : Bl W2 (g + 1) (cb y) 40 := by
    have h0 : Bl W1 (g + 1) (cb y) 40 := by rw [hW1, ← e0]; exact Bl.new _ _ _
    rw [hW2]; exact h0.alloc _
  have bc0 : Bl W2 (g + 2) (cb (upTo (xl x y) 0)) 40 := by
    rw [upTo_zero, HXL.out, ← zeros_cb, hW2, ← e1]; exact Bl.new _ _ _
  have hb : Below g w W2 := by
    rw [hW2, hW1, hW0]
    exact ((((Below.refl _ w).alloc (by rw [hg]; exact Nat.le_refl _) _).alloc (by rw [← hW0, e0]; omega) _).alloc (by rw [← hW0, ← hW1, e1]; omega) _)
  have HW0 := Lib.hid hW0
  have HW1 := Lib.hid hW1
  have HW2 := Lib.hid hW2
  have HG := Lib.hid hg
  have HE0 := Lib.hid e0
  have HE1 := Lib.hid e1
  clear hW0 hW1 hW2 e0 e1 e2
  have AW := Lib.hid awake13_any
  rw [← hg]
  clear hg
  go_enter Try.func7, Try.ntmps7
  go_wp2_with (first
    | (refine wpList_box_agg rfl 40 _ rfl (cb x) rfl ?_; rw [← HW0.out, ← HG.out])
    | (refine wpList_box_agg rfl 40 _ rfl (cb y) rfl ?_; rw [← HW1.out, HE0.out])
    | (refine wpList_alloc_zero rfl 40 rfl (zeros .u8 16) zero_a16 ?_; rw [← HW2.out, HE1.out])
    | fail)
  go_loopw [15] (fun i wr => ∃ k : Nat, k ≤ 16 ∧ i = .int .i64 (k : Int) ∧ Bl wr g (cb x) 40 ∧ Bl wr (g + 1) (cb y) 40 ∧ Bl wr (g + 2) (cb (upTo (xl x y) k)) 40 ∧ Below g w wr) (fun i _ => 16 - (intOf i).toNat)
  case atStart => exact ⟨0, by omega, rfl, ba, bb, bc0, hb⟩
  case round =>
    clear ba bb bc0 hb
    obtain ⟨k, hk, rfl, ba, bb, bt, hb⟩ := hrel
    by_cases hlt : k < 16
    · have hx1 : k < x.length := by have := HX.out; omega
      have hy1 : k < y.length := by have := HY.out; omega
      have hc1 := ba.cell k
      rw [cb_at hx1] at hc1
      have hc2 := bb.cell k
      rw [cb_at hy1] at hc2
      have hkc : k < (cb (upTo (xl x y) k)).length := by rw [cb_len, upTo_len _ _ (by rw [HXL.out]; omega), HXL.out]; exact hlt
      obtain ⟨u3, hc3⟩ : ∃ u, wr.cell? ⟨g + 2, k, none⟩ = some u := ⟨_, by rw [bt.cell k, List.getElem?_eq_getElem hkc]⟩
      clear hkc
      have hf := bt.frozen k
      have hbx := x[k].toNat_lt
      have hby := y[k].toNat_lt
      have hi0 : (0 : Int) ≤ (k : Int) := by omega
      have hi1 : (k : Int) < 16 := by omega
      have bt2 : Bl (wr.setCell ⟨g + 2, k, none⟩ (.int .u8 (bits BinOp.xor IntKind.u8 (x[k].toNat : Int) (y[k].toNat : Int)))) (g + 2) (cb (upTo (xl x y) (k + 1))) 40 := by
        have h1 := bt.set k (bc (x[k] ^^^ y[k]))
        rw [← cb_set, upTo_set (xl x y) k (x[k] ^^^ y[k]) (by unfold xl; rw [List.getElem?_zipWith, List.getElem?_eq_getElem hx1, List.getElem?_eq_getElem hy1])] at h1
        rw [byte_xor2]
        exact h1
      have BT2 := Lib.hid bt2
      clear bt2
      go_wp2
      go_still_tail 8, (by kernel_rfl)
      go_wp2
      go_roundw
      case rel => exact ⟨k + 1, by omega, by go_num, (ba.set_other _ _ (by simp)).drew, (bb.set_other _ _ (by simp)).drew, BT2.out.drew, (hb.setCell (by simp) _).drew⟩
      case measure => simp [intOf]; omega
    · have hk16 : k = 16 := by omega
      subst hk16
      have hup : upTo (xl x y) 16 = xl x y := by
        have h1 := upTo_all (xl x y)
        rwa [HXL.out] at h1
      rw [hup] at bt
      clear hup
      obtain ⟨V1, hV1⟩ : ∃ V, V = rolV m x := ⟨_, rfl⟩
      obtain ⟨V2, hV2⟩ : ∃ V, V = rolV m y := ⟨_, rfl⟩
      obtain ⟨E, hE⟩ : ∃ E, E = rolE m := ⟨_, rfl⟩
      have HXO : Hid (bits BinOp.xor IntKind.u64 (V1 : Int) (V2 : Int) = ((V1 ^^^ V2 : Nat) : Int)) := by
        unfold Hid
        rw [hV1, hV2]
        exact u64_xor_nat _ _ (rolV_lt hm x) (rolV_lt hm y)
      have HV3' : Hid (rolV m (xl x y) = V1 ^^^ V2) := by unfold Hid; rw [hV1, hV2]; exact HV3.out
      have HV1 := Lib.hid hV1
      have HV2 := Lib.hid hV2
      have HE := Lib.hid hE
      have HOK : Hid ((E == 0) = rolOk m) := by
        unfold Hid
        rw [hE]
        unfold rolE
        cases rolOk m <;> rfl
      clear hV1 hV2 hE
      have sa : Sl wr wr.heap.size (some ⟨g, 0, none⟩) 16 (cb x) := (ba.sl (o := 0) (n := 16) (by rw [List.drop_zero, List.take_of_length_le (by rw [cb_len, HX.out]; omega)]) (by rw [cb_len, HX.out]; omega)).up ba.lt
      have sb : Sl wr wr.heap.size (some ⟨g + 1, 0, none⟩) 16 (cb y) := (bb.sl (o := 0) (n := 16) (by rw [List.drop_zero, List.take_of_length_le (by rw [cb_len, HY.out]; omega)]) (by rw [cb_len, HY.out]; omega)).up bb.lt
      have sc : Sl wr wr.heap.size (some ⟨g + 2, 0, none⟩) 16 (cb (xl x y)) := (bt.sl (o := 0) (n := 16) (by rw [List.drop_zero, List.take_of_length_le (by rw [cb_len, HXL.out]; omega)]) (by rw [cb_len, HXL.out]; omega)).up bt.lt
      have hbw0 : Below w.heap.size w wr := by have h1 := HG.out; rw [← h1]; exact hb
      clear ba bb bt
      go_wp2_with fail
      refine (rolOf_any m x wr _ 16 16 sa (by omega) hm).mono ?_
      rintro e w3 ⟨rfl, hb3⟩
      rw [← HV1.out, ← HE.out]
      replace sb := sb.nx hb3
      replace sc := sc.nx hb3
      have hbw := next hbw0 hb3
      clear sa hb hbw0 hb3
      go_wp2_with fail
      refine (rolOf_any m y w3 _ 16 16 sb (by omega) hm).mono ?_
      rintro e w4 ⟨rfl, hb4⟩
      rw [← HV2.out, ← HE.out]
      replace sc := sc.nx hb4
      have hbw4 := next hbw hb4
      clear sb hbw hb4
      go_wp2_with fail
      refine (rolOf_any m (xl x y) w4 _ 16 16 sc (by omega) hm).mono ?_
      rintro e w5 ⟨rfl, hb5⟩
      rw [HV3'.out, ← HE.out]
      have hbw5 := next hbw4 hb5
      clear sc hbw4 hb5
      go_wp2_with fail
      refine (rright13_any m w5 hm).mono ?_
      rintro e w6 ⟨rfl, rfl⟩
      rw [← HOK.out]
      have HXO2 := HXO.out
      go_wp2_with (first
        | (go_at_call 9; refine (AW.out _).mono ?_; rintro e w6 ⟨rfl, hb6⟩)
        | fail)
      go_ret
      exact ⟨rfl, by have h1 := HG.out; rw [h1]; exact next hbw5 hb6⟩

end Go.Proofs.Ythgedpnoghgdhaa
