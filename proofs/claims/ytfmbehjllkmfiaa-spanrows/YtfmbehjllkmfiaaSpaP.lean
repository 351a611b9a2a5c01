/- Package span: within, integral, Right, Of, Parts, edges, inside, Move, Meet, Row. -/
import Derived.Test.YtfmbehjllkmfiaaSpaG
namespace Go.Proofs.Ytfmbehjllkmfiaa
set_option maxRecDepth 100000
open Go Go.RowKit
set_option linter.unusedVariables false
set_option linter.unusedSimpArgs false

theorem sin_any (n : Int) (w : World) :
    Calls Try.prog 12 #[.int .i64 n] w fun e w' => e = .returned (.bool (spIn n)) ∧ w = w' := by
  have HC : Hid (spIn n = (decide (0 ≤ n) && decide (n ≤ 1099511627776))) := rfl
  rw [HC.out]
  clear HC
  go_enter Try.func12, Try.ntmps12
  go_wp2
  all_goals go_ret
  all_goals refine ⟨ret_bool ?_, rfl⟩
  all_goals first | (simp [*]; done) | (simp_all; done) | (simp_all; omega)

theorem swhole_any (n : Nat) (w : World) (h : n ≤ 1099511627776) : Calls Try.prog 21 #[.float .f64 (fi n)] w fun e w' => e = .returned (.bool true) ∧ w = w' := by
  have g0 := ord_ge0 h
  have g1 := ord_lefar h
  have g2 := ord_eq h
  have e1 := foi n
  have cv := conv_fi (P := Try.prog) (src := 47) (dst := 3) (n := n) (by kernel_rfl) Try.underlying3 h
  go_enter Try.func21, Try.ntmps21
  go_wp2
  go_ret
  exact ⟨rfl, rfl⟩

theorem sright_any (x : Nat × Nat) (w : World) (h : SpOk x) : Calls Try.prog 15 #[cxv x] w fun e w' => e = .returned (.bool true) ∧ w = w' := by
  obtain ⟨b, n⟩ := x
  have h1 := Lib.hid (swhole_any b w h.1)
  have h2 := Lib.hid (swhole_any n w h.2)
  unfold cxv
  clear h
  go_enter Try.func15, Try.ntmps15
  go_wp2_with fail
  refine h1.out.mono ?_
  rintro e w1 ⟨rfl, rfl⟩
  go_wp2_with fail
  refine h2.out.mono ?_
  rintro e w1 ⟨rfl, rfl⟩
  go_wp2
  go_ret
  exact ⟨rfl, rfl⟩

theorem sparts_eq (x : Nat × Nat) (w : World) (h : SpOk x) : Calls Try.prog 11 #[cxv x] w fun e w' => e = .returned (.tuple #[.int .i64 (x.1 : Int), .int .i64 (x.2 : Int), .int .i64 0]) ∧ w = w' := by
  have h1 := Lib.hid (sright_any x w h)
  have cv1 := conv_fi (P := Try.prog) (src := 47) (dst := 3) (n := x.1) (by kernel_rfl) Try.underlying3 h.1
  have cv2 := conv_fi (P := Try.prog) (src := 47) (dst := 3) (n := x.2) (by kernel_rfl) Try.underlying3 h.2
  have hcx : cxv x = .complex .f64 (fi x.1) (fi x.2) := rfl
  clear h
  go_enter Try.func11, Try.ntmps11
  go_wp2_with fail
  rw [← hcx]
  refine h1.out.mono ?_
  rintro e w1 ⟨rfl, rfl⟩
  rw [hcx]
  go_wp2
  go_ret3
  exact ⟨rfl, rfl⟩

theorem sof_eq (b n : Int) (w : World) : Calls Try.prog 9 #[.int .i64 b, .int .i64 n] w fun e w' => e = .returned (.tuple #[ofV b n, .int .i64 (ofE b n)]) ∧ w = w' := by
  have h1 := Lib.hid (sin_any b w)
  have h2 := Lib.hid (sin_any n w)
  obtain ⟨V, hV⟩ : ∃ V, V = ofV b n := ⟨_, rfl⟩
  obtain ⟨E, hE⟩ : ∃ V, V = ofE b n := ⟨_, rfl⟩
  rw [← hV, ← hE]
  have HV := Lib.hid hV
  have HE := Lib.hid hE
  clear hV hE
  rcases hb : spIn b with _ | _
  · have HB := Lib.hid hb
    rw [hb] at h1
    have HV0 : Hid (V = .complex .f64 0 0) := by unfold Hid; rw [HV.out]; unfold ofV; rw [if_neg (by rw [hb]; simp)]
    have HE0 : Hid (E = 6) := by unfold Hid; rw [HE.out]; unfold ofE; rw [if_neg (by rw [hb]; simp)]
    clear hb
    go_enter Try.func9, Try.ntmps9
    go_wp2_with fail
    refine h1.out.mono ?_
    rintro e w1 ⟨rfl, rfl⟩
    go_wp2
    go_ret2
    exact ⟨by rw [HV0.out, HE0.out]; rfl, rfl⟩
  · rcases hn : spIn n with _ | _
    · rw [hb] at h1
      rw [hn] at h2
      have HV0 : Hid (V = .complex .f64 0 0) := by unfold Hid; rw [HV.out]; unfold ofV; rw [if_neg (by rw [hn]; simp)]
      have HE0 : Hid (E = 6) := by unfold Hid; rw [HE.out]; unfold ofE; rw [if_neg (by rw [hn]; simp)]
      clear hb hn
      go_enter Try.func9, Try.ntmps9
      go_wp2_with fail
      refine h1.out.mono ?_
      rintro e w1 ⟨rfl, rfl⟩
      go_wp2_with fail
      refine h2.out.mono ?_
      rintro e w1 ⟨rfl, rfl⟩
      go_wp2
      go_ret2
      exact ⟨by rw [HV0.out, HE0.out]; rfl, rfl⟩
    · obtain ⟨b0, b1⟩ := spIn_iff.1 hb
      obtain ⟨n0, n1⟩ := spIn_iff.1 hn
      obtain ⟨b, rfl⟩ := Int.eq_ofNat_of_zero_le b0
      obtain ⟨n, rfl⟩ := Int.eq_ofNat_of_zero_le n0
      have HV0 : Hid (V = .complex .f64 (fi b) (fi n)) := by unfold Hid; rw [HV.out]; unfold ofV; rw [if_pos ⟨hb, hn⟩]; rfl
      have HE0 : Hid (E = 0) := by unfold Hid; rw [HE.out]; unfold ofE; rw [if_pos ⟨hb, hn⟩]
      rw [hb] at h1
      rw [hn] at h2
      have e1 := foi b
      have e2 := foi n
      clear hb hn b0 n0
      go_enter Try.func9, Try.ntmps9
      go_wp2_with fail
      refine h1.out.mono ?_
      rintro e w1 ⟨rfl, rfl⟩
      go_wp2_with fail
      refine h2.out.mono ?_
      rintro e w1 ⟨rfl, rfl⟩
      go_wp2
      go_ret2
      exact ⟨by rw [HV0.out, HE0.out]; rfl, rfl⟩

/-- Of, of two numbers that may be. -/
theorem sof_ok (b n : Nat) (w : World) (hb : b ≤ 1099511627776) (hn : n ≤ 1099511627776) : Calls Try.prog 9 #[.int .i64 (b : Int), .int .i64 (n : Int)] w fun e w' => e = .returned (.tuple #[cxv (b, n), .int .i64 0]) ∧ w = w' := by
  refine (sof_eq b n w).mono ?_
  rintro e w' ⟨rfl, rfl⟩
  have h1 : spIn (b : Int) = true := spIn_iff.2 ⟨by omega, by omega⟩
  have h2 : spIn (n : Int) = true := spIn_iff.2 ⟨by omega, by omega⟩
  refine ⟨?_, rfl⟩
  unfold ofV ofE
  rw [if_pos ⟨h1, h2⟩, if_pos ⟨h1, h2⟩]
  rfl

theorem sedges_any (x : Nat × Nat) (z : Nat) (w : World) (h : SpOk x) (hz : x.1 + x.2 = z) : Calls Try.prog 18 #[cxv x] w fun e w' => e = .returned (.tuple #[.int .i64 (x.1 : Int), .int .i64 (z : Int)]) ∧ w = w' := by
  have h1 := Lib.hid (sparts_eq x w h)
  have h2 := h.1
  have h3 := h.2
  have e1 : (x.1 : Int) + (x.2 : Int) = (z : Int) := by omega
  clear h hz
  go_enter Try.func18, Try.ntmps18
  go_wp2_with fail
  refine h1.out.mono ?_
  rintro e w1 ⟨rfl, rfl⟩
  go_wp2
  go_ret2
  exact ⟨rfl, rfl⟩

theorem sinside_any (x y : Nat × Nat) (w : World) (h : SpOk x) (h' : SpOk y) : Calls Try.prog 16 #[cxv x, cxv y] w fun e w' => e = .returned (.bool (decide (y.1 ≤ x.1) && decide (x.1 + x.2 ≤ y.1 + y.2))) ∧ w = w' := by
  obtain ⟨ex, hx⟩ : ∃ z, x.1 + x.2 = z := ⟨_, rfl⟩
  obtain ⟨ey, hy⟩ : ∃ z, y.1 + y.2 = z := ⟨_, rfl⟩
  rw [hx, hy]
  have h1 := Lib.hid (sedges_any x ex w h hx)
  have h2 := Lib.hid (sedges_any y ey w h' hy)
  clear hx hy h h'
  obtain ⟨R, hR⟩ : ∃ R, R = (decide (y.1 ≤ x.1) && decide (ex ≤ ey)) := ⟨_, rfl⟩
  rw [← hR]
  have HR := Lib.hid hR
  clear hR
  by_cases p1 : y.1 ≤ x.1
  · by_cases p2 : ex ≤ ey
    · have HR0 : Hid (R = true) := by unfold Hid; rw [HR.out]; simp [p1, p2]
      have e1 : (y.1 : Int) ≤ (x.1 : Int) := by omega
      have e2 : (ex : Int) ≤ (ey : Int) := by omega
      go_enter Try.func16, Try.ntmps16
      go_wp2_with fail
      refine h1.out.mono ?_
      rintro e w1 ⟨rfl, rfl⟩
      go_wp2_with fail
      refine h2.out.mono ?_
      rintro e w1 ⟨rfl, rfl⟩
      go_wp2
      go_ret
      exact ⟨by rw [HR0.out]; rfl, rfl⟩
    · have HR0 : Hid (R = false) := by unfold Hid; rw [HR.out]; simp [p1, p2]
      have e1 : (y.1 : Int) ≤ (x.1 : Int) := by omega
      have e2 : ¬ (ex : Int) ≤ (ey : Int) := by omega
      go_enter Try.func16, Try.ntmps16
      go_wp2_with fail
      refine h1.out.mono ?_
      rintro e w1 ⟨rfl, rfl⟩
      go_wp2_with fail
      refine h2.out.mono ?_
      rintro e w1 ⟨rfl, rfl⟩
      go_wp2
      go_ret
      exact ⟨by rw [HR0.out]; rfl, rfl⟩
  · have HR0 : Hid (R = false) := by unfold Hid; rw [HR.out]; simp [p1]
    have e1 : ¬ (y.1 : Int) ≤ (x.1 : Int) := by omega
    go_enter Try.func16, Try.ntmps16
    go_wp2_with fail
    refine h1.out.mono ?_
    rintro e w1 ⟨rfl, rfl⟩
    go_wp2_with fail
    refine h2.out.mono ?_
    rintro e w1 ⟨rfl, rfl⟩
    go_wp2
    go_ret
    exact ⟨by rw [HR0.out]; rfl, rfl⟩

theorem smove_any (x : Nat × Nat) (d : Nat) (w : World) (h : SpOk x) (hd : d ≤ x.1) : Calls Try.prog 19 #[cxv x, .int .i64 (-(d : Int))] w fun e w' => e = .returned (.tuple #[cxv (x.1 - d, x.2), .int .i64 0]) ∧ w = w' := by
  have h1 := Lib.hid (sparts_eq x w h)
  have h2 := Lib.hid (sof_ok (x.1 - d) x.2 w (by have := h.1; omega) h.2)
  have h3 := h.1
  have e1 : (x.1 : Int) + -(d : Int) = ((x.1 - d : Nat) : Int) := by omega
  clear h
  go_enter Try.func19, Try.ntmps19
  go_wp2_with fail
  refine h1.out.mono ?_
  rintro e w1 ⟨rfl, rfl⟩
  go_wp2_with fail
  refine h2.out.mono ?_
  rintro e w1 ⟨rfl, rfl⟩
  go_wp2
  go_ret2
  exact ⟨rfl, rfl⟩

/-- What Meet tells of two spans. -/
def meetA (x y : Nat × Nat) : Option (Nat × Nat) := if min (x.1 + x.2) (y.1 + y.2) ≤ max x.1 y.1 then none else some (max x.1 y.1, min (x.1 + x.2) (y.1 + y.2) - max x.1 y.1)
def meetV (x y : Nat × Nat) : Value := match meetA x y with
  | none => .complex .f64 0 0
  | some z => cxv z
theorem smeet_any (x y : Nat × Nat) (w : World) (h : SpOk x) (h' : SpOk y) : Calls Try.prog 20 #[cxv x, cxv y] w fun e w' => e = .returned (.tuple #[meetV x y, .bool (meetA x y).isSome]) ∧ w = w' := by
  obtain ⟨ex, hx⟩ : ∃ z, x.1 + x.2 = z := ⟨_, rfl⟩
  obtain ⟨ey, hy⟩ : ∃ z, y.1 + y.2 = z := ⟨_, rfl⟩
  have h1 := Lib.hid (sedges_any x ex w h hx)
  have h2 := Lib.hid (sedges_any y ey w h' hy)
  obtain ⟨a1, a2⟩ := h
  obtain ⟨b1, b2⟩ := h'
  obtain ⟨m, hm⟩ : ∃ m, m = max x.1 y.1 := ⟨_, rfl⟩
  obtain ⟨q, hq⟩ : ∃ q, q = min ex ey := ⟨_, rfl⟩
  have hA : meetA x y = if q ≤ m then none else some (m, q - m) := by unfold meetA; rw [hm, hq, hx, hy]
  have b3 : m ≤ 1099511627776 := by omega
  have b4 : q - m ≤ 1099511627776 := by omega
  have HA := Lib.hid hA
  have h4 := Lib.hid (sof_ok m (q - m) w b3 b4)
  have s1 : (¬ (x.1 : Int) < (y.1 : Int) ∧ m = x.1) ∨ ((x.1 : Int) < (y.1 : Int) ∧ m = y.1) := by omega
  have s2 : (¬ (ey : Int) < (ex : Int) ∧ q = ex) ∨ ((ey : Int) < (ex : Int) ∧ q = ey) := by omega
  clear hm hq hA hx hy a2 b2
  by_cases hle : q ≤ m
  · have hV : Hid (meetV x y = .complex .f64 0 0) := by unfold Hid meetV; rw [HA.out, if_pos hle]
    have hS : Hid ((meetA x y).isSome = false) := by unfold Hid; rw [HA.out, if_pos hle]; rfl
    have e3 : (q : Int) ≤ (m : Int) := by omega
    rcases s1 with ⟨s1, rfl⟩ | ⟨s1, rfl⟩ <;> rcases s2 with ⟨s2, rfl⟩ | ⟨s2, rfl⟩
    all_goals go_enter Try.func20, Try.ntmps20
    all_goals go_wp2_with fail
    all_goals refine h1.out.mono ?_
    all_goals rintro e w1 ⟨rfl, rfl⟩
    all_goals go_wp2_with fail
    all_goals refine h2.out.mono ?_
    all_goals rintro e w1 ⟨rfl, rfl⟩
    all_goals go_wp2
    all_goals go_ret2
    all_goals exact ⟨by rw [hV.out, hS.out]; rfl, rfl⟩
  · have hV : Hid (meetV x y = cxv (m, q - m)) := by unfold Hid meetV; rw [HA.out, if_neg hle]
    have hS : Hid ((meetA x y).isSome = true) := by unfold Hid; rw [HA.out, if_neg hle]; rfl
    have e3 : ¬ (q : Int) ≤ (m : Int) := by omega
    have e4 : (q : Int) - (m : Int) = ((q - m : Nat) : Int) := by omega
    obtain ⟨d, hd⟩ : ∃ d, q - m = d := ⟨_, rfl⟩
    rw [hd] at e4 h4 hV
    replace b4 : d ≤ 1099511627776 := by omega
    clear hd
    rcases s1 with ⟨s1, rfl⟩ | ⟨s1, rfl⟩ <;> rcases s2 with ⟨s2, rfl⟩ | ⟨s2, rfl⟩
    all_goals go_enter Try.func20, Try.ntmps20
    all_goals go_wp2_with fail
    all_goals refine h1.out.mono ?_
    all_goals rintro e w1 ⟨rfl, rfl⟩
    all_goals go_wp2_with fail
    all_goals refine h2.out.mono ?_
    all_goals rintro e w1 ⟨rfl, rfl⟩
    all_goals go_wp2_with fail
    all_goals refine h4.out.mono ?_
    all_goals rintro e w1 ⟨rfl, rfl⟩
    all_goals go_wp2
    all_goals go_ret2
    all_goals exact ⟨by rw [hV.out, hS.out]; rfl, rfl⟩

theorem cx_info : (Try.prog.info? 32).map (fun i => (i.zero, i.size, i.bytes)) = some (some (.complex .f64 0 0), 1, 16) := by kernel_rfl

set_option maxRecDepth 100000 in
set_option maxHeartbeats 2000000 in
theorem srow_any (begin : Int) (zs : List Int) (w : World) (A : Option Addr) (n c : Nat) (h : Sl w w.heap.size A n (iz zs)) (hn : n ≤ 1000000) (hwf : ∀ z ∈ zs, (Lit.int .i64 z).wf = true) :
    Calls Try.prog 6 #[.int .i64 begin, .slice A n c] w (RowCPost w (rowL begin zs) (rowE begin zs)) := by
  obtain ⟨i0, hi, hz0, hz1, hz2⟩ := info_parts cx_info
  have hnl : n = zs.length := by rw [← h.1, iz_len]
  obtain ⟨L, hL⟩ : ∃ L, L = rowL begin zs := ⟨_, rfl⟩
  obtain ⟨EE, hEE⟩ : ∃ L, L = rowE begin zs := ⟨_, rfl⟩
  rw [← hL, ← hEE]
  by_cases hb0 : spIn begin = true
  · obtain ⟨r, hr⟩ : ∃ r, r = rowS begin zs := ⟨_, rfl⟩
    have HL : Hid (L = r.getD []) := by unfold Hid; rw [hL]; unfold rowL; rw [if_pos hb0, hr]
    have HE : Hid (EE = if r.isSome = true then 0 else 6) := by unfold Hid; rw [hEE]; unfold rowE; rw [hr]; simp [hb0]
    have HR := Lib.hid hr
    have HNL := Lib.hid hnl
    have HS := Lib.hid h
    have HWF := Lib.hid hwf
    obtain ⟨g1, g2⟩ := spIn_iff.1 hb0
    have HB0 := Lib.hid hb0
    clear hr hnl h hwf hb0 hL hEE
    go_enter Try.func6, Try.ntmps6
    go_wp2_with fail
    refine (sin_any begin w).mono ?_
    rw [HB0.out]
    rintro e w1 ⟨rfl, rfl⟩
    go_wp2_with (first
      | (at_make; refine wpList_make_none _ rfl _ _ 24 rfl w.heap.size 32 i0 (.complex .f64 0 0) Try.underlying24 hi hz0 hz1 rfl .i64 .i64 _ _ n rfl rfl rfl rfl (by rw [hz2]; omega) (by unfold maxLen; omega) (Nat.le_refl _) ?_; intro w4 own0 hgrow; have hbe : Below w.heap.size w w4 := (Below.refl _ w).grown hgrow (Nat.le_refl _) (by simp); clear hgrow)
      | fail)
    go_loopw [0, 6, 19] (fun b v i wr => ∃ (k : Nat) (at_ : Int) (z : List (Nat × Nat)), k ≤ n ∧ i = .int .i64 (k : Int) ∧ b = .int .i64 at_ ∧ 0 ≤ at_ ∧ at_ ≤ 1099511627776 ∧ z.length = k ∧ r = (rowS at_ (zs.drop k)).map (z ++ ·) ∧ wr.ownsRow w.heap.size 32 1 v k (cxs z) ∧ Below w.heap.size w wr) (fun _ _ i _ => n - (intOf i).toNat)
    case atStart => exact ⟨0, begin, [], Nat.zero_le _, rfl, rfl, g1, g2, rfl, by rw [HR.out, List.drop_zero]; cases rowS begin zs <;> simp, own0, hbe⟩
    case round =>
      clear own0 hbe
      obtain ⟨k, at_, z, hk, rfl, rfl, ha1, ha2, hzl, hrr, hown, hb⟩ := hrel
      by_cases hlt : k < n
      · have hkl : k < zs.length := by have := HNL.out; omega
        obtain ⟨ad, rfl, hab, hac⟩ := HS.out.2 (by omega)
        obtain ⟨x, hx⟩ : ∃ x, x = zs[k] := ⟨_, rfl⟩
        have hcx : wr.cell? (ad.add k) = some (.int .i64 x) := (hb.cell (by rw [add_block]; exact hab)).trans (by rw [hac k _ (iz_at hkl), hx])
        have hdrop : zs.drop k = x :: zs.drop (k + 1) := by rw [List.drop_eq_getElem_cons hkl, hx]
        rw [hdrop] at hrr
        have k0 : (0 : Int) ≤ (k : Int) := by omega
        have k1 : (k : Int) < (n : Int) := by omega
        have HZL := Lib.hid hzl
        have HOF := Lib.hid (sof_eq at_ x wr)
        have hat : spIn at_ = true := spIn_iff.2 ⟨ha1, ha2⟩
        clear hx hdrop hkl hac hzl
        rcases hs1 : spIn x with _ | _
        · have HN : Hid (r = none) := by unfold Hid; rw [hrr, rowS, if_neg (by rw [hs1]; simp)]; rfl
          have HOE : Hid (ofE at_ x = 6) := by unfold Hid; unfold ofE; rw [if_neg (by rw [hs1]; simp)]
          clear hrr hs1 hat
          go_wp2_with fail
          refine HOF.out.mono ?_
          rw [HOE.out]
          rintro e w2 ⟨rfl, rfl⟩
          go_wp2
          go_ret2
          exact ⟨none, 0, by rw [HL.out, HE.out, HN.out]; rfl, by rw [HL.out, HN.out]; exact ⟨Sl.nil_, rfl, Nat.le_refl _, fun _ => rfl⟩, hb⟩
        · obtain ⟨x1, x2⟩ := spIn_iff.1 hs1
          obtain ⟨an, rfl⟩ := Int.eq_ofNat_of_zero_le ha1
          obtain ⟨xn, rfl⟩ := Int.eq_ofNat_of_zero_le x1
          have HOE : Hid (ofE (an : Int) (xn : Int) = 0) := by unfold Hid; unfold ofE; rw [if_pos ⟨hat, hs1⟩]
          have HOV : Hid (ofV (an : Int) (xn : Int) = .complex .f64 (fi an) (fi xn)) := by unfold Hid; unfold ofV; rw [if_pos ⟨hat, hs1⟩]; rfl
          obtain ⟨y, hy⟩ : ∃ y, y = (an : Int) + (xn : Int) := ⟨_, rfl⟩
          have ey : (an : Int) + (xn : Int) = y := hy.symm
          rcases hs2 : spIn y with _ | _
          · have HN : Hid (r = none) := by unfold Hid; rw [hrr, rowS, if_neg (by rw [ey, hs2]; simp)]; rfl
            have H2 := Lib.hid hs2
            clear hrr hs1 hs2 hy hat
            go_wp2_with fail
            refine HOF.out.mono ?_
            rw [HOE.out]
            rintro e w2 ⟨rfl, rfl⟩
            go_wp2_with fail
            refine (sin_any y wr).mono ?_
            rw [H2.out]
            rintro e w2 ⟨rfl, rfl⟩
            go_wp2
            go_ret2
            exact ⟨none, 0, by rw [HL.out, HE.out, HN.out]; rfl, by rw [HL.out, HN.out]; exact ⟨Sl.nil_, rfl, Nat.le_refl _, fun _ => rfl⟩, hb⟩
          · obtain ⟨y1, y2⟩ := spIn_iff.1 hs2
            have HNX : Hid (r = (rowS y (zs.drop (k + 1))).map ((z ++ [(an, xn)]) ++ ·)) := by
              unfold Hid
              rw [hrr, rowS, if_pos ⟨hs1, by rw [ey]; exact hs2⟩, ey]
              simp only [Int.toNat_natCast]
              cases rowS y (zs.drop (k + 1)) <;> simp
            have H2 := Lib.hid hs2
            have hsz := hb.size
            clear hrr hs1 hs2 hy hat
            go_wp2_with fail
            refine HOF.out.mono ?_
            rw [HOE.out, HOV.out]
            rintro e w2 ⟨rfl, rfl⟩
            go_wp2_with fail
            refine (sin_any y wr).mono ?_
            rw [H2.out]
            rintro e w2 ⟨rfl, rfl⟩
            have hsn : Sl (wr.alloc (.cells #[.complex .f64 (fi an) (fi xn)] 32)) (wr.heap.size + 1) (some ⟨wr.heap.size, 0, none⟩) 1 (cxs [(an, xn)]) := Sl.new wr #[.complex .f64 (fi an) (fi xn)] 32
            go_wp2_with (at_builtin; refine wpList_append_sl _ rfl _ _ 24 rfl w.heap.size 32 i0 (.complex .f64 0 0) 16 Try.underlying24 hi hz0 hz1 hz2 rfl _ k (cxs z) rfl (hown.alloc _) _ (some ⟨wr.heap.size, 0, none⟩) 1 1 (cxs [(an, xn)]) rfl hsn (by intro h; cases h) (cxs_one _) (by unfold maxLen; omega) (by omega) (by simp; omega) ?_; intro v' w3 hown' hgrow hat; have hb3 := below_app (hb.alloc hb.size _) (Nat.le_refl _) (hown.alloc _) hgrow; clear hgrow hat hsn)
            go_roundw
            case rel => exact ⟨k + 1, y, z ++ [(an, xn)], by omega, by go_num, rfl, y1, y2, by simp [HZL.out], HNX.out, by rw [cxs_append]; exact hown', hb3⟩
            case measure => simp [intOf]; omega
      · have hkn : k = n := by omega
        have HN : Hid (r = some z) := by
          unfold Hid
          rw [hrr, hkn, List.drop_of_length_le (by rw [← HNL.out]; exact Nat.le_refl _), rowS]
          simp
        obtain ⟨A2, c2, rfl⟩ := own_form hown
        have hso := Sl.own hown
        have hcp := own_cap hown
        have hnz := own_none hown
        have q1 : ¬ (k : Int) < (n : Int) := by omega
        have HZL := Lib.hid hzl
        clear hrr hkn hzl
        go_wp2
        go_ret2
        refine ⟨A2, c2, by rw [HL.out, HE.out, HN.out]; simp [HZL.out], ?_, hb⟩
        rw [HL.out, HN.out]
        simp only [Option.getD_some, HZL.out]
        exact ⟨hso, HZL.out.symm, hcp, hnz⟩
  · have hf : spIn begin = false := by simpa using hb0
    have HL : Hid (L = []) := by unfold Hid; rw [hL]; unfold rowL; rw [if_neg hb0]
    have HE : Hid (EE = 6) := by unfold Hid; rw [hEE]; unfold rowE; rw [if_neg (by rintro ⟨h1, _⟩; exact hb0 h1)]
    have HF := Lib.hid hf
    clear hf hb0 hL hEE
    go_enter Try.func6, Try.ntmps6
    go_wp2_with fail
    refine (sin_any begin w).mono ?_
    rw [HF.out]
    rintro e w1 ⟨rfl, rfl⟩
    go_wp2
    go_ret2
    exact ⟨none, 0, by rw [HL.out, HE.out]; rfl, by rw [HL.out]; exact ⟨Sl.nil_, rfl, Nat.le_refl _, fun _ => rfl⟩, Below.refl _ _⟩

theorem sof_any (b n : Int) (w : World) : Calls Try.prog 9 #[.int .i64 b, .int .i64 n] w fun e w' => e = .returned (.tuple #[ofV b n, .int .i64 (ofE b n)]) ∧ Below w.heap.size w w' :=
  (sof_eq b n w).mono fun e w' h => ⟨h.1, by rw [← h.2]; exact Below.refl _ _⟩
theorem sparts_any (x : Nat × Nat) (w : World) (h : SpOk x) : Calls Try.prog 11 #[cxv x] w fun e w' => e = .returned (.tuple #[.int .i64 (x.1 : Int), .int .i64 (x.2 : Int), .int .i64 0]) ∧ Below w.heap.size w w' :=
  (sparts_eq x w h).mono fun e w' h => ⟨h.1, by rw [← h.2]; exact Below.refl _ _⟩

end Go.Proofs.Ytfmbehjllkmfiaa
