/- Key of the reference. -/
import Derived.Test.YtfmbilnbbpbpeaaDoorStrB
import Derived.Test.YtfmbilnbbpbpeaaDoorMacR
namespace Go.Proofs.YtfmbilnbbpbpeaaDoor
open Go.RowKit
set_option linter.unusedVariables false
set_option linter.unusedSimpArgs false

theorem rkey_bad (pass salt : List UInt8) (r n : Int) (w : World) (A A' : Option Addr) (m c m' c' : Nat) (h : keyE r n ≠ 0) :
    Calls Tryd.prog 10 #[.slice A m c, .slice A' m' c', .int .i64 r, .int .i64 n] w (RetSl w (keyL pass salt r n) (keyE r n)) := by
  have HL := Lib.hid (keyL_no (pass := pass) (salt := salt) h)
  by_cases hr : 1 ≤ r ∧ r ≤ 4096
  · have hn : ¬ (0 ≤ n ∧ n ≤ 256) := fun h' => h (keyE_ok hr h')
    have HE := Lib.hid (keyE_n hr hn)
    have hq1 : decide (r < 1) = false := by simp; omega
    have hq2 : decide (4096 < r) = false := by simp; omega
    rcases (show n < 0 ∨ (¬ n < 0 ∧ 256 < n) by omega) with h1 | ⟨h1, h2⟩
    · have hq3 : decide (n < 0) = true := by simp; omega
      clear h hr hn
      go_enter Tryd.func10, Tryd.ntmps10
      go_wp2
      go_ret2
      exact retSl HL.out.symm HE.out.symm (newSl_nil w)
    · have hq3 : decide (n < 0) = false := by simp; omega
      have hq4 : decide (256 < n) = true := by simp; omega
      clear h hr hn
      go_enter Tryd.func10, Tryd.ntmps10
      go_wp2
      go_ret2
      exact retSl HL.out.symm HE.out.symm (newSl_nil w)
  · have HE := Lib.hid (keyE_r (n := n) hr)
    rcases (show r < 1 ∨ (¬ r < 1 ∧ 4096 < r) by omega) with h1 | ⟨h1, h2⟩
    · have hq3 : decide (r < 1) = true := by simp; omega
      clear h hr
      go_enter Tryd.func10, Tryd.ntmps10
      go_wp2
      go_ret2
      exact retSl HL.out.symm HE.out.symm (newSl_nil w)
    · have hq3 : decide (r < 1) = false := by simp; omega
      have hq4 : decide (4096 < r) = true := by simp; omega
      clear h hr
      go_enter Tryd.func10, Tryd.ntmps10
      go_wp2
      go_ret2
      exact retSl HL.out.symm HE.out.symm (newSl_nil w)

set_option maxRecDepth 100000 in
set_option maxHeartbeats 1600000 in
theorem rkey_ok (pass salt : List UInt8) (r n : Nat) (w : World) (B : Nat) (A A' : Option Addr) (m c m' c' : Nat) (h : Sl w B A m (cb pass)) (hA : A = none → c = 0) (hm : m ≤ 100000000) (h' : Sl w B A' m' (cb salt)) (hA' : A' = none → c' = 0) (hm' : m' ≤ 1000000) (hB : B ≤ w.heap.size)
    (hr : 1 ≤ r) (hr' : r ≤ 4096) (hn : n ≤ 256) :
    Calls Tryd.prog 10 #[.slice A m c, .slice A' m' c', .int .i64 (r : Int), .int .i64 (n : Int)] w (RetSl w (pbk pass salt r n) 0) := by
  obtain ⟨i0, hi, hz0, hz1, hz2⟩ := info_parts u8_info
  have HPL := Lib.hid (pbk_len pass salt r n)
  have HPK : Hid (pbk pass salt r n = (pbs pass salt r ((n + 31) / 32)).take n) := (rfl : _ = _)
  have hq1 : decide ((r : Int) < 1) = false := by simp; omega
  have hq2 : decide ((4096 : Int) < (r : Int)) = false := by simp; omega
  have hq3 : decide ((n : Int) < 0) = false := by simp
  have hq4 : decide ((256 : Int) < (n : Int)) = false := by simp; omega
  replace h := h.up hB
  replace h' := h'.up hB
  go_enter Tryd.func10, Tryd.ntmps10
  go_wp2_with fail
  go_loopw [10, 11] (fun v i wr => ∃ k : Nat, k ≤ (n + 31) / 32 ∧ i = .int .i64 (k + 1 : Nat) ∧ wr.ownsRow w.heap.size 5 1 v (32 * k) (cb (pbs pass salt r k)) ∧ Below w.heap.size w wr) (fun _ i _ => (n + 31) / 32 + 1 - (intOf i).toNat)
  case atStart => exact ⟨0, by omega, rfl, World.ownsRow_nil _ _ _ _, Below.refl _ _⟩
  case round =>
    obtain ⟨k, hk, rfl, hown, hb⟩ := hrel
    obtain ⟨Av, cv, rfl⟩ := own_form hown
    by_cases hlt : 32 * k < n
    · obtain ⟨w0, hw0⟩ : ∃ x, x = wr := ⟨wr, rfl⟩
      subst hw0
      have hd : decide (((32 * k : Nat) : Int) < (n : Int)) = true := by simp; omega
      have y0 := h.nx hb
      have y1 := h'.nx hb
      have hbz := hb.size
      obtain ⟨s, hs⟩ : ∃ s, s = sblk salt k := ⟨_, rfl⟩
      have HS : Hid (salt ++ (le (k + 1) 4).reverse = s) := by unfold Hid; rw [hs]; rfl
      have HNX : Hid (pbs pass salt r (k + 1) = pbs pass salt r k ++ tm pass s (r - 1)) := by unfold Hid; rw [hs]; rfl
      clear hs
      go_wp2_with fail
      refine (told_any (k + 1) 4 _ (by omega) (by omega)).mono ?_
      rintro e w1 ⟨A1, c1, rfl, h1⟩
      have hb1 := h1.below
      have x1 := h1.sl
      have f1 := h1.none_
      clear h1
      go_wp2_with fail
      refine (join_any salt _ _ _ _ _ _ _ _ _ (y1.nx hb1) x1 hA' f1 (by omega) (by omega) (Nat.le_refl _)).mono ?_
      rintro e w2 ⟨A2, c2, rfl, h2⟩
      rw [HS.out] at h2
      have hb2 := next hb1 h2.below
      have x2 := h2.sl
      have f2 := h2.none_
      clear h2 x1 hb1
      go_wp2_with fail
      refine (rtag_any pass s _ _ _ _ _ _ _ _ (y0.nx hb2) hA (by omega) x2 f2 (by omega) (Nat.le_refl _)).mono ?_
      rintro e w3 ⟨A3, c3, rfl, h3⟩
      have hb3 := next hb2 h3.below
      have x3 := h3.sl
      have f3 := h3.none_
      clear h3 x2 hb2
      have HU0 := Lib.hid (um_zero pass s)
      have HT0 := Lib.hid (tm_zero pass s)
      obtain ⟨U0, hU0⟩ : ∃ U, U = hmac pass s := ⟨_, rfl⟩
      rw [← hU0] at HU0 HT0 x3
      clear hU0
      have hb3z := hb3.size
      have h0 := World.ownsRow_lit (base := w3.heap.size) (e := 5) (size := 1) w3 #[] 0 (Nat.le_refl _) (by decide) rfl
      have HH0 := Lib.hid h0
      have HX3 := Lib.hid (x3.alloc (Nat.le_refl _) (.cells #[] 5))
      clear h0
      go_wp2_with (at_builtin; refine wpList_append_sl _ rfl _ _ 22 rfl w3.heap.size 5 i0 (.int .u8 0) 1 Tryd.underlying22 hi hz0 hz1 hz2 rfl _ 0 [] rfl HH0.out w3.heap.size A3 32 c3 (cb U0) rfl HX3.out f3 (cb_one _) (by unfold maxLen; omega) (by omega) (by simp) ?_; intro vt w4 hown4 hgrow4 hat4)
      simp only [Nat.zero_add, List.nil_append] at hown4
      have hb4 : Below w3.heap.size w3 w4 := below_app ((Below.refl _ w3).alloc (Nat.le_refl _) _) (Nat.le_refl _) HH0.out hgrow4
      obtain ⟨gt, ct, rfl, hgt, hgl⟩ := hown4.form (by omega)
      have hof4 := x3.off (g := gt) hgt
      have x4 := x3.nx hb4
      have hbw4 := next hb3 hb4
      clear hgrow4 hat4 HH0 HX3 x3 hb3 hb4
      go_wp2
      go_loopw [12, 14] (fun v i wr => ∃ (j : Nat) (Au : Option Addr) (cu : Nat), j ≤ r - 1 ∧ i = .int .i64 (j + 2 : Nat) ∧ v = .slice Au 32 cu ∧ Sl wr wr.heap.size Au 32 (cb (um pass s j)) ∧ (Au = none → cu = 0) ∧ Off gt 32 Au ∧ wr.ownsRow w3.heap.size 5 1 (.slice (some ⟨gt, 0, none⟩) 32 ct) 32 (cb (tm pass s j)) ∧ Below w0.heap.size w0 wr) (fun _ i _ => r + 1 - (intOf i).toNat)
      case atStart => exact ⟨0, A3, c3, by omega, rfl, rfl, by rw [HU0.out]; exact x4, f3, hof4, by rw [HT0.out]; exact hown4, hbw4⟩
      case round =>
        clear x4 f3 hof4 hown4 hbw4
        obtain ⟨j, Au, cu, hj, rfl, rfl, xu, fu, hof, hownt, hbw⟩ := hrel
        by_cases hjr : j + 2 ≤ r
        · have hd2 : decide (((j + 2 : Nat) : Int) ≤ (r : Int)) = true := by simp; omega
          obtain ⟨T, hT⟩ : ∃ T, T = tm pass s j := ⟨_, rfl⟩
          obtain ⟨U, hU⟩ : ∃ U, U = um pass s j := ⟨_, rfl⟩
          obtain ⟨V, hV⟩ : ∃ V, V = um pass s (j + 1) := ⟨_, rfl⟩
          have HTL : Hid (T.length = 32) := by unfold Hid; rw [hT, tm_len]
          have HVL : Hid (V.length = 32) := by unfold Hid; rw [hV, um_len]
          have HUV : Hid (hmac pass U = V) := by unfold Hid; rw [hV, hU, um_succ]
          have HX : Hid (xl T V = tm pass s (j + 1)) := by unfold Hid; rw [hT, hV, tm_succ]
          have HVV := Lib.hid hV
          rw [← hU] at xu
          rw [← hT] at hownt
          clear hT hU hV
          go_wp2_with fail
          refine (rtag_any pass U _ _ _ _ _ _ _ _ (y0.nx hbw) hA (by omega) xu fu (by omega) (Nat.le_refl _)).mono ?_
          rintro e w5 ⟨A5, c5, rfl, h5⟩
          rw [HUV.out] at h5
          have hbw5 := next hbw h5.below
          have x5 := h5.sl
          have f5 := h5.none_
          have hof5 := own_off h5.own (own_lt hownt rfl)
          have hownt5 := own_below hownt h5.below
          clear h5 hownt hbw xu fu hof
          go_wp2
          go_loopw [15] (fun i wr => ∃ j : Nat, j ≤ 32 ∧ i = .int .i64 j ∧ Sl wr wr.heap.size A5 32 (cb V) ∧ wr.ownsRow w3.heap.size 5 1 (.slice (some ⟨gt, 0, none⟩) 32 ct) 32 (cb (xh T V j)) ∧ Below w0.heap.size w0 wr) (fun i _ => 32 - (intOf i).toNat)
          case atStart => exact ⟨0, by omega, rfl, x5, by rw [xh_zero]; exact hownt5, hbw5⟩
          case round =>
            clear x5 hownt5 hbw5
            obtain ⟨i, hi2, rfl, xv, hownt, hbw⟩ := hrel
            by_cases hil : i < 32
            · have hc1 := hownt.cellAt i (by omega)
              rw [cb, List.getElem?_map, xh_at (by rw [HTL.out, HVL.out]) i (by rw [HTL.out]; exact hil)] at hc1
              have hc1' : wr.cell? ⟨gt, i, none⟩ = some (.int .u8 (((T[i]'(by rw [HTL.out]; exact hil)).toNat : Nat) : Int)) := hc1
              obtain ⟨ad, ead, hadb, hc2⟩ := xv.byte (j := i) (by rw [HVL.out]; exact hil)
              subst ead
              have hf := hownt.frozenAt i
              have hx1 := (T[i]'(by rw [HTL.out]; exact hil)).toNat_lt
              have hx2 := (V[i]'(by rw [HVL.out]; exact hil)).toNat_lt
              have hi0 : (0 : Int) ≤ (i : Int) := by omega
              have hi1 : (i : Int) < 32 := by omega
              have HS := Lib.hid (hownt.stored i (bc (T[i]'(by rw [HTL.out]; exact hil) ^^^ V[i]'(by rw [HVL.out]; exact hil)))).1
              have HXV := Lib.hid xv
              clear hc1 hownt xv
              go_wp2
              go_still_tail 12, (by kernel_rfl)
              go_wp2
              go_roundw
              case rel =>
                refine ⟨i + 1, by omega, by go_num, ?_, ?_, (hbw.setCell (by simp; omega) _).drew⟩
                · exact ((sl_off HXV.out (but_setCell (but_refl _ gt) i _) (Nat.le_refl _) hof5).up (by simp [World.setCell])).drewN 1
                · have hq := HS.out
                  rw [← cb_set, xh_next (by rw [HTL.out, HVL.out]) i (by rw [HTL.out]; exact hil)] at hq
                  rw [byte_xor2]
                  exact hq
              case measure => simp [intOf]; omega
            · have HJ : Hid (i = T.length) := (by have := HTL.out; omega : i = T.length)
              rw [HJ.out, xh_all (by rw [HTL.out, HVL.out]), HX.out] at hownt
              rw [HVV.out] at xv
              go_wp2
              go_roundw
              case rel => exact ⟨j + 1, A5, c5, by omega, by go_num, rfl, xv, f5, hof5, hownt, hbw⟩
              case measure => simp [intOf]; omega
        · have hd2 : decide (((j + 2 : Nat) : Int) ≤ (r : Int)) = false := by simp; omega
          have HJ : Hid (j = r - 1) := (by omega : j = r - 1)
          rw [HJ.out] at hownt
          have hown6 := own_below hown hbw
          have xt := Sl.own hownt
          have hbw6 := next hb hbw
          have hbs6 := hbw6.size
          have HO6 := Lib.hid hown6
          have HXT := Lib.hid xt
          clear hownt hown6 xt xu fu hof
          go_wp2_with (at_builtin; refine wpList_append_sl _ rfl _ _ 22 rfl w.heap.size 5 i0 (.int .u8 0) 1 Tryd.underlying22 hi hz0 hz1 hz2 rfl _ (32 * k) _ rfl HO6.out wr.heap.size (some ⟨gt, 0, none⟩) 32 ct _ rfl HXT.out (by intro h; cases h) (cb_one _) (by unfold maxLen; omega) (by omega) hbs6 ?_; intro v7 w7 hown7 hgrow7 hat7)
          have hb7 := below_app hbw6 (Nat.le_refl _) HO6.out hgrow7
          have HO7 := Lib.hid hown7
          clear hgrow7 hat7 hown7
          go_wp2
          go_roundw
          case rel => exact ⟨k + 1, by omega, by go_num, by rw [HNX.out, cb_append]; exact HO7.out, hb7⟩
          case measure => simp [intOf]; omega
    · have hd : decide (((32 * k : Nat) : Int) < (n : Int)) = false := by simp; omega
      have HK : Hid (k = (n + 31) / 32) := (by omega : k = (n + 31) / 32)
      have hcap := own_cap hown
      have hs1 := sl_take (h := n) (Sl.own hown) (by omega)
      have hnw := own_new (w' := wr) hown
      have hA2 := own_none hown
      rw [show (cb (pbs pass salt r k)).take n = cb ((pbs pass salt r k).take n) by simp [cb], HK.out, ← HPK.out] at hs1
      clear hown
      go_wp2_with (refine wpList_slice_h rfl 22 _ _ rfl 5 Tryd.underlying22 u8_size Av _ cv n .i64 _ rfl rfl rfl (by omega) ?_)
      go_ret2
      exact retSl rfl rfl ⟨hs1, HPL.out.symm, by omega, hA2, hnw, hb⟩

theorem rkey_any (pass salt : List UInt8) (r n : Int) (w : World) (B : Nat) (A A' : Option Addr) (m c m' c' : Nat) (h : Sl w B A m (cb pass)) (hA : A = none → c = 0) (hm : m ≤ 100000000) (h' : Sl w B A' m' (cb salt)) (hA' : A' = none → c' = 0) (hm' : m' ≤ 1000000) (hB : B ≤ w.heap.size) :
    Calls Tryd.prog 10 #[.slice A m c, .slice A' m' c', .int .i64 r, .int .i64 n] w (RetSl w (keyL pass salt r n) (keyE r n)) := by
  by_cases he : keyE r n = 0
  · have hr : 1 ≤ r ∧ r ≤ 4096 := by
      by_cases hr : 1 ≤ r ∧ r ≤ 4096
      · exact hr
      · rw [keyE_r hr] at he; cases he
    have hn : 0 ≤ n ∧ n ≤ 256 := by
      by_cases hn : 0 ≤ n ∧ n ≤ 256
      · exact hn
      · rw [keyE_n hr hn] at he; cases he
    obtain ⟨r, rfl⟩ := Int.eq_ofNat_of_zero_le (show 0 ≤ r by omega)
    obtain ⟨n, rfl⟩ := Int.eq_ofNat_of_zero_le hn.1
    rw [he, keyL_ok he]
    exact rkey_ok pass salt r n w B A A' m c m' c' h hA hm h' hA' hm' hB (by omega) (by omega) (by omega)
  · exact rkey_bad pass salt r n w A A' m c m' c' he

end Go.Proofs.YtfmbilnbbpbpeaaDoor

