/- Seal of the reference of layer 7. -/
import Derived.Test.YtlnoopmblmkgkaaGreatDoorLB
import Derived.Test.YtlnoopmblmkgkaaGreatDoorLK
import Derived.Test.YtlnoopmblmkgkaaGreatDoorLP
namespace Go.Proofs.YtlnoopmblmkgkaaGreatDoor
set_option maxRecDepth 100000
open Go.RowKit
set_option linter.unusedVariables false
set_option linter.unusedSimpArgs false

theorem newSl_own {E : TypeId} {w w' : World} {n : Nat} {l : List UInt8} {A : Option Addr} {c : Nat} (h : w'.ownsRow w.heap.size E 1 (.slice A n c) n (cb l)) (hb : Below w.heap.size w w') : NewSl w n l A c w' :=
  ⟨Sl.own h, by rw [← cb_len l, (Sl.own h).1], own_cap h, own_none h, own_new (w' := w') h, hb⟩

set_option maxHeartbeats 1000000 in
theorem rseal_any (key nonce o t : List UInt8) (A0 A1 A2 A3 : Option Addr) (n0 n1 n2 n3 c0 c1 c2 c3 : Nat) (w : World) (h0 : Sl w w.heap.size A0 n0 (cb key)) (h1 : Sl w w.heap.size A1 n1 (cb nonce)) (h2 : Sl w w.heap.size A2 n2 (cb o)) (h3 : Sl w w.heap.size A3 n3 (cb t))
    (k0 : n0 ≤ c0) (k1 : n1 ≤ c1) (k3 : n3 ≤ c3) (z0 : A0 = none → c0 = 0) (z1 : A1 = none → c1 = 0) (z2 : A2 = none → c2 = 0) (z3 : A3 = none → c3 = 0) (m2 : n2 ≤ 100000) (m3 : n3 ≤ 100000) :
    Calls Tryz.prog 41 #[.slice A0 n0 c0, .slice A1 n1 c1, .slice A2 n2 c2, .slice A3 n3 c3] w (RetSl w (sealR key nonce o t) (sealE key nonce)) := by
  obtain ⟨i0, hi, hy0, hy1, hy2⟩ := info_parts u8_info
  have hn0 : n0 = key.length := by rw [← h0.1, cb_len]
  have hn1 : n1 = nonce.length := by rw [← h1.1, cb_len]
  have hn2 : n2 = o.length := by rw [← h2.1, cb_len]
  have hn3 : n3 = t.length := by rw [← h3.1, cb_len]
  have HN2 := Lib.hid hn2
  have HN3 := Lib.hid hn3
  have hff := cright_any n0 n1 c0 c1 A0 A1 w
  by_cases hfit : fitK key nonce = true
  · have HF := Lib.hid hfit
    obtain ⟨q0, q1⟩ : n0 = 32 ∧ n1 = 12 := by rw [hn0, hn1]; simpa [fitK] using hfit
    subst q0; subst q1
    have HRT : Hid (Calls Tryz.prog 69 #[.slice A0 32 c0, .slice A1 12 c1] w fun e w' => e = .returned (.bool true) ∧ w = w') := hff
    obtain ⟨C, hC⟩ : ∃ C, C = mixL key nonce 1 t := ⟨_, rfl⟩
    have HCL : Hid (C.length = n3) := by unfold Hid; rw [hC, mixL_len, HN3.out]
    have HC := Lib.hid hC
    have HMX := Lib.hid (mix_in key nonce t HF.out (by rw [← HN3.out]; omega))
    have HF2 : Hid ((fillL o 16).length ≤ 100015) := by unfold Hid; have := fill16_le o; omega
    have HF3 : Hid ((fillL C 16).length ≤ 100015) := by unfold Hid; have := fill16_le C; have := HCL.out; omega
    clear hC hff hn0 hn1 hn2 hn3 hfit
    go_enter Tryz.func41, Tryz.ntmps41
    go_wp2_with fail
    refine HRT.out.mono ?_
    rintro e w' ⟨rfl, rfl⟩
    go_wp2_with fail
    refine (rmixO_any key nonce t 1 A0 A1 A3 32 12 n3 c0 c1 c3 w (by decide) h0 h1 h3 k0 k1 z0 z1 (by omega)).mono ?_
    rintro e w1 ⟨X1, e1, d1, rfl, x1⟩
    rw [HMX.out.2]
    rw [HMX.out.1, ← HC.out] at x1
    obtain rfl : e1 = n3 := by rw [← HCL.out, ← cb_len C, x1.sl.1]
    have own1 := x1.own
    have hb1 := x1.below
    have s1 := x1.sl
    have f1 := x1.none_
    have g1 := own_cap x1.own
    have hbz1 := hb1.size
    replace h0 := h0.nx hb1
    replace h1 := h1.nx hb1
    replace h2 := h2.nx hb1
    clear x1 h3 HRT
    go_wp2_with fail
    refine (brfilled_any o w1 _ A2 n2 c2 h2 z2 (by omega) (Nat.le_refl _)).mono ?_
    rintro e w2 ⟨X2, d2, rfl, x2⟩
    have hb2 := x2.below
    go_wp2_with fail
    refine (brfilled_any C w2 _ X1 e1 d1 (s1.nx hb2) f1 (by omega) (Nat.le_refl _)).mono ?_
    rintro e w3 ⟨X3, d3, rfl, x3⟩
    have own3 := own_below x2.own x3.below
    have hb3 := next hb2 x3.below
    clear x2 hb2
    go_wp2_with (at_builtin; refine wpList_append_sl _ rfl _ _ 22 rfl w1.heap.size 5 i0 (.int .u8 0) 1 Tryz.underlying22 hi hy0 hy1 hy2 rfl _ (fillL o 16).length _ rfl own3 _ X3 (fillL C 16).length d3 (cb (fillL C 16)) rfl x3.sl x3.none_ (cb_one _) (by unfold maxLen; have := HF2.out; have := HF3.out; omega) (by have := HF2.out; have := HF3.out; omega) hb3.size ?_; intro v4 w4 own4 hg4 hat4)
    have hb4 := below_app hb3 (Nat.le_refl _) own3 hg4
    rw [← cb_append] at own4
    clear own3 x3 hg4 hat4 hb3
    obtain ⟨N4, hN4⟩ : ∃ N, N = (fillL o 16).length + (fillL C 16).length := ⟨_, rfl⟩
    rw [← hN4] at own4
    have hN4b : N4 ≤ 200030 := by rw [hN4]; have := HF2.out; have := HF3.out; omega
    clear hN4
    refine (eight_any n2 w4 (by omega)).mono ?_
    rintro e w5 ⟨X5, d5, rfl, x5⟩
    have own5 := own_below own4 x5.below
    have hb5 := next hb4 x5.below
    clear own4 hb4
    go_wp2_with (at_builtin; refine wpList_append_sl _ rfl _ _ 22 rfl w1.heap.size 5 i0 (.int .u8 0) 1 Tryz.underlying22 hi hy0 hy1 hy2 rfl _ N4 _ rfl own5 _ X5 8 d5 (cb (le n2 8)) rfl x5.sl x5.none_ (cb_one _) (by unfold maxLen; omega) (by omega) hb5.size ?_; intro v6 w6 own6 hg6 hat6)
    have hb6 := below_app hb5 (Nat.le_refl _) own5 hg6
    rw [← cb_append] at own6
    clear own5 x5 hg6 hat6 hb5
    refine (eight_any e1 w6 (by omega)).mono ?_
    rintro e w7 ⟨X7, d7, rfl, x7⟩
    have own7 := own_below own6 x7.below
    have hb7 := next hb6 x7.below
    clear own6 hb6
    go_wp2_with (at_builtin; refine wpList_append_sl _ rfl _ _ 22 rfl w1.heap.size 5 i0 (.int .u8 0) 1 Tryz.underlying22 hi hy0 hy1 hy2 rfl _ (N4 + 8) _ rfl own7 _ X7 8 d7 (cb (le e1 8)) rfl x7.sl x7.none_ (cb_one _) (by unfold maxLen; omega) (by omega) hb7.size ?_; intro v8 w8 own8 hg8 hat8)
    have hb8 := below_app hb7 (Nat.le_refl _) own7 hg8
    rw [← cb_append] at own8
    have HAA : Hid (fillL o 16 ++ fillL C 16 ++ le n2 8 ++ le e1 8 = aadL o C) := by unfold Hid aadL; rw [← HN2.out, HCL.out]; simp only [List.append_assoc]
    rw [HAA.out] at own8
    clear own7 x7 hg8 hat8 hb7
    obtain ⟨A8, d8, rfl⟩ := own_form own8
    refine (crblock_any key nonce 0 w8 A0 A1 c0 c1 (h0.nx hb8) (h1.nx hb8) k0 k1 z0 z1 (by decide) _ rfl).mono ?_
    rintro e w9 ⟨X9, d9, rfl, x9⟩
    have own9 := own_below own8 x9.below
    have hb9 := next hb8 x9.below
    have s9 : Sl w9 w9.heap.size X9 32 (cb (once key nonce)) := by
      have := sl_take (h := 32) x9.sl (by omega)
      rwa [show (cb (cblk key nonce 0)).take 32 = cb (once key nonce) by unfold once; simp [cb]] at this
    have g9 := own_cap x9.own
    have f9 := x9.none_
    clear own8 hb8 x9
    go_wp2_with (refine wpList_slice_h rfl 22 _ _ rfl 5 Tryz.underlying22 u8_size X9 64 d9 32 .i64 _ rfl rfl rfl (by omega) ?_)
    refine (rtag6_any (once key nonce) (aadL o C) w9 X9 A8 32 d9 (N4 + 8 + 8) d8 s9 (by omega) f9 (by decide) (Sl.own own9) (own_cap own9) (own_none own9) (by omega)).mono ?_
    rintro e w10 ⟨X10, e10, d10, rfl, x10⟩
    have HTT : Hid (tagR (once key nonce) (aadL o C) = btag key nonce o C) := by unfold Hid tagR; rw [if_pos (once_len _ _)]; rfl
    rw [HTT.out] at x10
    obtain rfl : e10 = 16 := x10.len.trans (btag_len _ _ _ _)
    have hb10 := next hb9 x10.below
    have own10 := own_below own1 hb10
    have hbw10 := next hb1 hb10
    clear own9 s9 hb9 own1 hb1 hb10
    go_wp2_with (at_builtin; refine wpList_append_sl _ rfl _ _ 22 rfl w.heap.size 5 i0 (.int .u8 0) 1 Tryz.underlying22 hi hy0 hy1 hy2 rfl _ e1 _ rfl own10 _ X10 16 d10 (cb (btag key nonce o C)) rfl x10.sl x10.none_ (cb_one _) (by unfold maxLen; omega) (by omega) hbw10.size ?_; intro v11 w11 own11 hg11 hat11)
    have hbw11 := below_app hbw10 (Nat.le_refl _) own10 hg11
    rw [← cb_append] at own11
    obtain ⟨A11, d11, rfl⟩ := own_form own11
    have HX : Hid (NewSl w (e1 + 16) (boxL key nonce o t) A11 d11 w11) := by unfold Hid boxL; rw [← HC.out]; exact newSl_own own11 hbw11
    clear own11 hbw11 own10 x10 hg11 hat11 hbw10
    go_wp2
    go_ret2
    exact retSl (by unfold sealR; rw [if_pos HF.out]) (by unfold sealE; rw [if_pos HF.out]) HX.out
  · have hq : (n0 == 32 && n1 == 12) = false := by rw [hn0, hn1]; simpa [fitK] using hfit
    rw [hq] at hff
    have HRT := Lib.hid hff
    have HF := Lib.hid hfit
    clear hff hq hn0 hn1 hn2 hn3 hfit
    go_enter Tryz.func41, Tryz.ntmps41
    go_wp2_with fail
    refine HRT.out.mono ?_
    rintro e w' ⟨rfl, rfl⟩
    go_wp2
    go_ret2
    exact retSl (by unfold sealR; rw [if_neg HF.out]) (by unfold sealE; rw [if_neg HF.out]) (newSl_nil w)

end Go.Proofs.YtlnoopmblmkgkaaGreatDoor

namespace Go.Proofs.YtlnoopmblmkgkaaGreatDoor
set_option maxRecDepth 100000
open Go.RowKit
set_option linter.unusedVariables false
set_option linter.unusedSimpArgs false

set_option maxHeartbeats 1000000 in
theorem ropen_any (key nonce o b : List UInt8) (A0 A1 A2 A3 : Option Addr) (n0 n1 n2 n3 c0 c1 c2 c3 : Nat) (w : World) (h0 : Sl w w.heap.size A0 n0 (cb key)) (h1 : Sl w w.heap.size A1 n1 (cb nonce)) (h2 : Sl w w.heap.size A2 n2 (cb o)) (h3 : Sl w w.heap.size A3 n3 (cb b))
    (k0 : n0 ≤ c0) (k1 : n1 ≤ c1) (k3 : n3 ≤ c3) (z0 : A0 = none → c0 = 0) (z1 : A1 = none → c1 = 0) (z2 : A2 = none → c2 = 0) (z3 : A3 = none → c3 = 0) (m2 : n2 ≤ 100000) (m3 : n3 ≤ 100000) :
    Calls Tryz.prog 50 #[.slice A0 n0 c0, .slice A1 n1 c1, .slice A2 n2 c2, .slice A3 n3 c3] w (RetSl w (openR key nonce o b) (openE key nonce o b)) := by
  have hn0 : n0 = key.length := by rw [← h0.1, cb_len]
  have hn1 : n1 = nonce.length := by rw [← h1.1, cb_len]
  have hn3 : n3 = b.length := by rw [← h3.1, cb_len]
  have HN3 := Lib.hid hn3
  have hff := cright_any n0 n1 c0 c1 A0 A1 w
  by_cases hfit : fitK key nonce = true
  · have HF := Lib.hid hfit
    obtain ⟨q0, q1⟩ : n0 = 32 ∧ n1 = 12 := by rw [hn0, hn1]; simpa [fitK] using hfit
    subst q0; subst q1
    have HRT : Hid (Calls Tryz.prog 69 #[.slice A0 32 c0, .slice A1 12 c1] w fun e w' => e = .returned (.bool true) ∧ w = w') := hff
    clear hff hn0 hn1 hn3 hfit
    by_cases h16 : n3 < 16
    · have hd : decide ((n3 : Int) < 16) = true := by simp; omega
      have HL : Hid (b.length < 16) := by unfold Hid; rw [← HN3.out]; exact h16
      clear h0 h1 h2 h3 h16
      go_enter Tryz.func50, Tryz.ntmps50
      go_wp2_with fail
      refine HRT.out.mono ?_
      rintro e w' ⟨rfl, rfl⟩
      go_wp2
      go_ret2
      exact retSl (by unfold openR; rw [if_pos HF.out, if_pos HL.out]) (by unfold openE; rw [if_pos HF.out, if_pos HL.out]) (newSl_nil w)
    · obtain ⟨N, rfl⟩ : ∃ N, n3 = N + 16 := ⟨n3 - 16, by omega⟩
      have HL : Hid (¬ b.length < 16) := by unfold Hid; rw [← HN3.out]; exact h16
      have HBN : Hid (b.length - 16 = N) := by unfold Hid; rw [← HN3.out]; omega
      have hd : decide (((N + 16 : Nat) : Int) < 16) = false := by simp; omega
      clear h16
      have t3 := sl_take (h := N) h3 (by omega)
      rw [show (cb b).take N = cb (bodyL b) by unfold bodyL; rw [HBN.out, cb, cb, List.map_take]] at t3
      have HBL : Hid ((bodyL b).length = N) := by unfold Hid; rw [body_len, HBN.out]
      have HMX := Lib.hid (mix_in key nonce (bodyL b) HF.out (by rw [HBL.out]; omega))
      go_enter Tryz.func50, Tryz.ntmps50
      go_wp2_with fail
      refine HRT.out.mono ?_
      rintro e w' ⟨rfl, rfl⟩
      go_wp2_with (refine wpList_slice_h rfl 22 _ _ rfl 5 Tryz.underlying22 u8_size A3 (N + 16) c3 N .i64 _ rfl rfl (by omega) (by omega) ?_)
      refine (rmix_any key nonce (bodyL b) 1 A0 A1 A3 32 12 N c0 c1 c3 w (by decide) h0 h1 t3 k0 k1 z0 z1 (by omega)).mono ?_
      rintro e w1 ⟨X1, e1, d1, rfl, x1⟩
      rw [HMX.out.2]
      rw [HMX.out.1] at x1
      obtain ⟨T, hT⟩ : ∃ T, T = mixL key nonce 1 (bodyL b) := ⟨_, rfl⟩
      have HTL : Hid (T.length = N) := by unfold Hid; rw [hT, mixL_len, HBL.out]
      rw [← hT] at x1
      have HTT := Lib.hid hT
      obtain rfl : e1 = N := x1.len.trans HTL.out
      have hb1 := x1.below
      have s1 := x1.sl
      have f1 := x1.none_
      have g1 := x1.cap
      have HX1 := Lib.hid x1
      have HSE : Hid (sealR key nonce o T = boxL key nonce o T ∧ sealE key nonce = 0) := by unfold Hid sealR sealE; rw [if_pos HF.out, if_pos HF.out]; exact ⟨rfl, rfl⟩
      clear x1 t3 HRT hT
      go_wp2_with fail
      refine (rseal_any key nonce o T A0 A1 A2 X1 32 12 n2 e1 c0 c1 c2 d1 w1 (h0.nx hb1) (h1.nx hb1) (h2.nx hb1) s1 k0 k1 g1 z0 z1 z2 f1 m2 (by omega)).mono ?_
      rintro e w2 ⟨X2, e2, d2, rfl, x2⟩
      rw [HSE.out.2]
      rw [HSE.out.1] at x2
      have hb2 := next hb1 x2.below
      have u2 := u8_str x2.sl d2
      have u3 := u8_str (h3.nx hb2) c3
      have HX : Hid (NewSl w e1 T X1 d1 w2) := ⟨HX1.out.sl.nx x2.below, HX1.out.len, HX1.out.cap, HX1.out.none_, HX1.out.new, hb2⟩
      have HAG : Hid (sameB (boxL key nonce o T) b = holdsB key nonce o b) := by unfold Hid; rw [HTT.out]; exact again_same key nonce o b (by have := HL.out; omega)
      clear x2 s1 h0 h1 h2 h3
      cases hD : holdsB key nonce o b
      · have hq : (boxL key nonce o T == b) = false := by rw [str_same, HAG.out, hD]
        have HD : Hid (¬ holdsB key nonce o b = true) := by unfold Hid; rw [hD]; decide
        clear hD
        go_wp2
        go_ret2
        exact retSl (by unfold openR; rw [if_pos HF.out, if_neg HL.out, if_neg HD.out]) (by unfold openE; rw [if_pos HF.out, if_neg HL.out, if_neg HD.out]) ⟨Sl.nil_, rfl, Nat.le_refl _, fun _ => rfl, (fun _ h => by cases h), hb2⟩
      · have hq : (boxL key nonce o T == b) = true := by rw [str_same, HAG.out, hD]
        have HD := Lib.hid hD
        clear hD
        go_wp2
        go_ret2
        exact retSl (by unfold openR; rw [if_pos HF.out, if_neg HL.out, if_pos HD.out]; exact HTT.out) (by unfold openE; rw [if_pos HF.out, if_neg HL.out, if_pos HD.out]) HX.out
  · have hq : (n0 == 32 && n1 == 12) = false := by rw [hn0, hn1]; simpa [fitK] using hfit
    rw [hq] at hff
    have HRT := Lib.hid hff
    have HF := Lib.hid hfit
    clear hff hq hn0 hn1 hn3 hfit
    go_enter Tryz.func50, Tryz.ntmps50
    go_wp2_with fail
    refine HRT.out.mono ?_
    rintro e w' ⟨rfl, rfl⟩
    go_wp2
    go_ret2
    exact retSl (by unfold openR; rw [if_neg HF.out]) (by unfold openE; rw [if_neg HF.out]) (newSl_nil w)

end Go.Proofs.YtlnoopmblmkgkaaGreatDoor
