/- The walk of the law StretchRounds. -/
import Derived.Test.YtfmbilnbbpbpeaaDoorStrV
namespace Go.Proofs.YtfmbilnbbpbpeaaDoor
open Go.RowKit
set_option linter.unusedVariables false
set_option linter.unusedSimpArgs false

theorem key_at3 (pass salt : List UInt8) (r : Nat) (R : Int) (eR : R = r) (w : World) (B : Nat) (A A' : Option Addr) (m c m' c' : Nat) (h : Sl w B A m (cb pass)) (hc : m ≤ c) (hA : A = none → c = 0) (hm : m ≤ 100000000) (h' : Sl w B A' m' (cb salt)) (hc' : m' ≤ c') (hA' : A' = none → c' = 0) (hm' : m' ≤ 1000000) (hB : B ≤ w.heap.size) (hT : Tabs w)
    (hr : 1 ≤ r) (hr' : r ≤ 4096) :
    Calls Tryd.prog 9 #[.slice A m c, .slice A' m' c', .int .i64 R, .int .i64 32] w (RetSl w (tm pass (sblk salt 0) (r - 1)) 0) := by
  subst eR
  rw [← pbk_block]
  exact key_ok pass salt r 32 w B A A' m c m' c' h hc hA hm h' hc' hA' hm' hB hT hr hr' (by omega)

set_option maxRecDepth 100000 in
set_option maxHeartbeats 1600000 in
theorem stretchRounds_walk (A0 : Option Addr) (n0 c0 : Nat) (l0 : List UInt8) (A1 : Option Addr) (n1 c1 : Nat) (l1 : List UInt8) (a2 : Int) (w : World) (hT : Tabs w)
    (s0 : InBytes w A0 n0 c0 l0) (s1 : InBytes w A1 n1 c1 l1) (w2 : (Lit.int .u8 a2).wf = true) :
    Calls Tryd.prog 5 #[.slice A0 n0 c0, .slice A1 n1 c1, .int .u8 a2] w fun e w' => e = .returned (.bool true) ∧ Below w.heap.size w w' := by
  have y0 := s0.sl
  have z0 := s0.none_
  have e0 := s0.len
  have y1 := s1.sl
  have z1 := s1.none_
  have e1 := s1.len
  have v2 := bounds_u8 w2
  clear s0 s1 w2
  subst e0; subst e1
  have HT := Lib.hid hT
  clear hT
  by_cases hbig : l0.length ≤ 400 ∧ l1.length ≤ 400
  · obtain ⟨b0, b1⟩ := hbig
    have q0 : decide (400 < (l0.length : Int)) = false := by simp; omega
    have q1 : decide (400 < (l1.length : Int)) = false := by simp; omega
    obtain ⟨a2, rfl⟩ := Int.eq_ofNat_of_zero_le v2.1
    have v2' : a2 ≤ 255 := by omega
    obtain ⟨R, hR⟩ : ∃ R : Nat, R = a2 % 16 + 1 := ⟨_, rfl⟩
    have eR : (a2 : Int) % 16 + 1 = (R : Int) := by omega
    have hR1 : 1 ≤ R ∧ R ≤ 16 := by omega
    obtain ⟨s, hs⟩ : ∃ s, s = sblk l1 0 := ⟨_, rfl⟩
    have HS : Hid (l1 ++ (le 1 4).reverse = s) := by unfold Hid; rw [hs]; rfl
    have HSS := Lib.hid hs
    clear hs hR v2
    go_enter Tryd.func5, Tryd.ntmps5
    go_wp2_with fail
    refine (told_any 1 4 _ (by omega) (by omega)).mono ?_
    rintro e w1 ⟨X1, d1, rfl, h1⟩
    have hb1 := h1.below
    have x1 := h1.sl
    have f1 := h1.none_
    clear h1
    go_wp2_with fail
    refine (join_any l1 _ _ _ _ _ _ _ _ _ (y1.nx hb1) x1 z1 f1 (by omega) (by omega) (Nat.le_refl _)).mono ?_
    rintro e w2 ⟨X2, d2, rfl, h2⟩
    rw [HS.out] at h2
    have hb2 := next hb1 h2.below
    have x2 := h2.sl
    have f2 := h2.none_
    clear h2 x1 hb1
    go_wp2_with fail
    refine (rtag_any l0 s _ _ _ _ _ _ _ _ (y0.nx hb2) z0 (by omega) x2 f2 (by omega) (Nat.le_refl _)).mono ?_
    rintro e w3 ⟨X3, d3, rfl, h3⟩
    have hb3 := next hb2 h3.below
    have x3 := h3.sl
    have f3 := h3.none_
    clear h3 x2 hb2
    have HU0 := Lib.hid (um_zero l0 s)
    have HT0 := Lib.hid (tm_zero l0 s)
    obtain ⟨U0, hU0⟩ : ∃ U, U = hmac l0 s := ⟨_, rfl⟩
    rw [← hU0] at HU0 HT0 x3
    clear hU0
    have hb3z := hb3.size
    go_wp2_with fail
    refine (own_any U0 _ _ _ _ _ x3 f3 (by omega) (Nat.le_refl _)).mono ?_
    rintro e w4 ⟨X4, d4, rfl, h4⟩
    have hb4 := next hb3 h4.below
    have hown4 := h4.own
    obtain ⟨gt, ct, ev, hgt, hgl⟩ := hown4.form (by omega)
    injection ev with ev _ ec
    subst ev; subst ec
    have hof4 := x3.off (g := gt) hgt
    have x4 := x3.nx h4.below
    clear h4 x3 hb3
    go_wp2
    go_loopw [8, 10] (fun v i wr => ∃ (j : Nat) (Au : Option Addr) (cu : Nat), j ≤ R ∧ i = .int .i64 (j + 1 : Nat) ∧ v = .slice Au 32 cu ∧ Sl wr wr.heap.size Au 32 (cb (um l0 s j)) ∧ (Au = none → cu = 0) ∧ Off gt 32 Au ∧ wr.ownsRow w3.heap.size 5 1 (.slice (some ⟨gt, 0, none⟩) 32 d4) 32 (cb (tm l0 s j)) ∧ Below w.heap.size w wr) (fun _ i _ => R + 1 - (intOf i).toNat)
    case atStart => exact ⟨0, X3, d3, by omega, rfl, rfl, by rw [HU0.out]; exact x4, f3, hof4, by rw [HT0.out]; exact hown4, hb4⟩
    case round =>
      clear x4 f3 hof4 hown4 hb4
      obtain ⟨j, Au, cu, hj, rfl, rfl, xu, fu, hof, hownt, hbw⟩ := hrel
      by_cases hjr : j < R
      · have hd2 : decide (((j + 1 : Nat) : Int) ≤ (R : Int)) = true := by simp; omega
        obtain ⟨T, hT⟩ : ∃ T, T = tm l0 s j := ⟨_, rfl⟩
        obtain ⟨U, hU⟩ : ∃ U, U = um l0 s j := ⟨_, rfl⟩
        obtain ⟨V, hV⟩ : ∃ V, V = um l0 s (j + 1) := ⟨_, rfl⟩
        have HTL : Hid (T.length = 32) := by unfold Hid; rw [hT, tm_len]
        have HVL : Hid (V.length = 32) := by unfold Hid; rw [hV, um_len]
        have HUV : Hid (hmac l0 U = V) := by unfold Hid; rw [hV, hU, um_succ]
        have HX : Hid (xl T V = tm l0 s (j + 1)) := by unfold Hid; rw [hT, hV, tm_succ]
        have HVV := Lib.hid hV
        have HTT : Hid (tm l0 (sblk l1 0) (j + 1 - 1) = T) := by unfold Hid; rw [hT, HSS.out]; rfl
        rw [← hU] at xu
        rw [← hT] at hownt
        clear hT hU hV
        go_wp2_with fail
        refine (own_any l0 _ _ _ _ _ (y0.nx hbw) z0 (by omega) (Nat.le_refl _)).mono ?_
        rintro e w5 ⟨X5, d5, rfl, h5⟩
        have hb5 := next hbw h5.below
        have x5 := h5.sl
        have f5 := h5.none_
        have g5 := own_cap h5.own
        replace xu := xu.nx h5.below
        replace hownt := own_below hownt h5.below
        clear h5 hbw
        go_wp2_with fail
        refine (own_any l1 _ _ _ _ _ (y1.nx hb5) z1 (by omega) (Nat.le_refl _)).mono ?_
        rintro e w6 ⟨X6, d6, rfl, h6⟩
        have hb6 := next hb5 h6.below
        replace x5 := x5.nx h6.below
        have x6 := h6.sl
        have f6 := h6.none_
        have g6 := own_cap h6.own
        replace xu := xu.nx h6.below
        replace hownt := own_below hownt h6.below
        clear h6 hb5
        go_wp2_with fail
        refine (key_at3 l0 l1 (j + 1) _ (by first | rfl | omega) _ _ _ _ _ _ _ _ x5 g5 f5 (by omega) x6 g6 f6 (by omega) (Nat.le_refl _) (HT.out.next hb6) (by omega) (by omega)).mono ?_
        rintro e w7 ⟨X7, n7, d7, rfl, h7⟩
        rw [HTT.out] at h7
        have hb7 := next hb6 h7.below
        replace xu := xu.nx h7.below
        replace hownt := own_below hownt h7.below
        have u0 := u8_str h7.sl d7
        have u1 := u8_str (Sl.own hownt) d4
        clear h7 x5 x6 f5 f6 g5 g6 hb6
        go_wp2_with fail
        refine (rtag_any l0 U _ _ _ _ _ _ _ _ (y0.nx hb7) z0 (by omega) xu fu (by omega) (Nat.le_refl _)).mono ?_
        rintro e w8 ⟨A5, c5, rfl, h5⟩
        rw [HUV.out] at h5
        have hbw5 := next hb7 h5.below
        have x5 := h5.sl
        have f5 := h5.none_
        have hof5 := own_off h5.own (own_lt hownt rfl)
        have hownt5 := own_below hownt h5.below
        clear h5 hownt hb7 xu fu hof u0 u1
        go_wp2
        go_loopw [62] (fun i wr => ∃ j : Nat, j ≤ 32 ∧ i = .int .i64 j ∧ Sl wr wr.heap.size A5 32 (cb V) ∧ wr.ownsRow w3.heap.size 5 1 (.slice (some ⟨gt, 0, none⟩) 32 d4) 32 (cb (xh T V j)) ∧ Below w.heap.size w wr) (fun i _ => 32 - (intOf i).toNat)
        case atStart => exact ⟨0, by omega, rfl, x5, by rw [xh_zero]; exact hownt5, hbw5⟩
        case round =>
          clear x5 hownt5 hbw5
          obtain ⟨i, hi2, rfl, xv, hownt, hbw⟩ := hrel
          by_cases hil : i < 32
          · have hc1 := hownt.cellAt i (by omega)
            rw [cb, List.getElem?_map, xh_at (by rw [HTL.out, HVL.out]) i (by rw [HTL.out]; exact hil)] at hc1
            have hc1' : wr.cell? ⟨gt, i, none⟩ = some (.int .u8 (((T[i]'(by rw [HTL.out]; exact hil)).toNat : Nat) : Int)) := hc1
            obtain ⟨ad, ead, hadb, hc2⟩ := xv.byte (j := i) (by rw [HVL.out]; exact hil)
            subst ead
            have hf := hownt.frozenAt i
            have hx1 := (T[i]'(by rw [HTL.out]; exact hil)).toNat_lt
            have hx2 := (V[i]'(by rw [HVL.out]; exact hil)).toNat_lt
            have hi0 : (0 : Int) ≤ (i : Int) := by omega
            have hi1 : (i : Int) < 32 := by omega
            have HSt := Lib.hid (hownt.stored i (bc (T[i]'(by rw [HTL.out]; exact hil) ^^^ V[i]'(by rw [HVL.out]; exact hil)))).1
            have HXV := Lib.hid xv
            clear hc1 hownt xv
            go_wp2
            go_still_tail 10, (by kernel_rfl)
            go_wp2
            go_roundw
            case rel =>
              refine ⟨i + 1, by omega, by go_num, ?_, ?_, (hbw.setCell (by simp; omega) _).drew⟩
              · exact ((sl_off HXV.out (but_setCell (but_refl _ gt) i _) (Nat.le_refl _) hof5).up (by simp [World.setCell])).drewN 1
              · have hq := HSt.out
                rw [← cb_set, xh_next (by rw [HTL.out, HVL.out]) i (by rw [HTL.out]; exact hil)] at hq
                rw [byte_xor2]
                exact hq
            case measure => simp [intOf]; omega
          · have HJ : Hid (i = T.length) := (by have := HTL.out; omega : i = T.length)
            rw [HJ.out, xh_all (by rw [HTL.out, HVL.out]), HX.out] at hownt
            rw [HVV.out] at xv
            go_wp2
            go_roundw
            case rel => exact ⟨j + 1, A5, c5, by omega, by go_num, rfl, xv, f5, hof5, hownt, hbw⟩
            case measure => simp [intOf]; omega
      · have hd2 : decide (((j + 1 : Nat) : Int) ≤ (R : Int)) = false := by simp; omega
        have hTw := HT.out.next hbw
        clear xu fu hof hownt
        go_wp2_with fail
        refine (awake4_any _ hTw).mono ?_
        rintro e w9 ⟨rfl, hb9⟩
        go_wp2
        go_ret
        exact ⟨rfl, next hbw hb9⟩
  · rcases (show 400 < l0.length ∨ (l0.length ≤ 400 ∧ 400 < l1.length) by omega) with q0 | ⟨q0, q1⟩
    · have k0 : decide (400 < (l0.length : Int)) = true := by simp; omega
      clear hbig
      go_enter Tryd.func5, Tryd.ntmps5
      go_wp2_with (go_at_call 7; refine (awake4_any _ HT.out).mono ?_; rintro e w' ⟨rfl, hb⟩)
      go_ret
      exact ⟨rfl, hb⟩
    · have k0 : decide (400 < (l0.length : Int)) = false := by simp; omega
      have k1 : decide (400 < (l1.length : Int)) = true := by simp; omega
      clear hbig
      go_enter Tryd.func5, Tryd.ntmps5
      go_wp2_with (go_at_call 7; refine (awake4_any _ HT.out).mono ?_; rintro e w' ⟨rfl, hb⟩)
      go_ret
      exact ⟨rfl, hb⟩

end Go.Proofs.YtfmbilnbbpbpeaaDoor

