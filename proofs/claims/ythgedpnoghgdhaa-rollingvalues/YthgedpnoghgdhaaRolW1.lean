/- The walks of the laws RollingNobody and RollingValues. -/
import Derived.Test.YthgedpnoghgdhaaRolV
namespace Go.Proofs.Ythgedpnoghgdhaa
set_option maxRecDepth 100000
open Go Go.RowKit
set_option linter.unusedVariables false
set_option linter.unusedSimpArgs false

set_option maxHeartbeats 600000 in
theorem rollingNobody_walk (a0 : Int) (w : World) (w0 : (Lit.int .u8 a0).wf = true) :
    Calls Try.prog 8 #[.int .u8 a0] w fun e w' => e = .returned (.bool true) ∧ Below w.heap.size w w' := by
  clear w0
  go_enter Try.func8, Try.ntmps8
  go_wp2_with (first
    | (go_at_call 16; refine (nrolreset_any _).mono ?_; rintro e w1 ⟨rfl, rfl⟩)
    | (go_at_call 15; refine (nrolpush_any _ _).mono ?_; rintro e w1 ⟨rfl, rfl⟩)
    | (go_at_call 14; refine (nrolval_any _).mono ?_; rintro e w1 ⟨rfl, rfl⟩)
    | (go_at_call 17; refine (nrolcopy_any _).mono ?_; rintro e w1 ⟨rfl, rfl⟩)
    | (go_at_call 9; refine (awake13_any _).mono ?_; rintro e w6 ⟨rfl, hb6⟩)
    | fail)
  go_ret
  exact ⟨rfl, hb6⟩

set_option maxRecDepth 100000 in
set_option maxHeartbeats 2000000 in
theorem rollingValues_walk (a0 : Int) (A1 : Option Addr) (n1 c1 : Nat) (l1 : List UInt8) (w : World) (w0 : (Lit.int .u64 a0).wf = true) (s1 : InBytes w A1 n1 c1 l1) :
    Calls Try.prog 3 #[.int .u64 a0, .slice A1 n1 c1] w fun e w' => e = .returned (.bool true) ∧ Below w.heap.size w w' := by
  obtain ⟨b0, b1⟩ := bounds_u64 w0
  obtain ⟨m, rfl⟩ := Int.eq_ofNat_of_zero_le b0
  have hm : m < 18446744073709551616 := by omega
  clear w0 b0 b1
  obtain ⟨i0, hi, hz0, hz1, hz2⟩ := info_parts u8_info
  have y1 := s1.sl
  have z1 := s1.none_
  have r1 := s1.room
  have p1 := s1.cap
  clear s1
  by_cases hbig : n1 ≤ 4000
  · have q1 : ¬ (4000 : Int) < (n1 : Int) := by omega
    have own3 := World.ownsRow_lit (base := w.heap.size) (e := 5) (size := 1) w #[] 0 (Nat.le_refl _) (by decide) rfl
    have y3 := y1.nx ((Below.refl _ w).alloc (Nat.le_refl _) (.cells #[] 5))
    obtain ⟨V, hV⟩ : ∃ V, V = rolV m l1 := ⟨_, rfl⟩
    obtain ⟨E, hE⟩ : ∃ E, E = rolE m := ⟨_, rfl⟩
    have HV := Lib.hid hV
    have HE := Lib.hid hE
    have AW := Lib.hid awake13_any
    rcases hok : rolOk m with _ | _
    · have HV0 : Hid (V = 0) := by unfold Hid; rw [hV]; unfold rolV; rw [hok]; rfl
      have HE0 : Hid (E = 6) := by unfold Hid; rw [hE]; unfold rolE; rw [hok]; rfl
      have HOK := Lib.hid hok
      clear hV hE hok
      go_enter Try.func3, Try.ntmps3
      go_wp2_with (at_builtin; refine wpList_append_sl _ rfl _ _ 23 rfl w.heap.size 5 i0 (.int .u8 0) 1 Try.underlying23 hi hz0 hz1 hz2 rfl _ 0 [] rfl own3 _ A1 n1 c1 (cb l1) rfl y3 z1 (cb_one _) (by unfold maxLen; omega) (by omega) (by simp) ?_; intro v4 w4 own4 gr4 at4; obtain ⟨X, cx, rfl⟩ := own_form own4)
      have hb4 : Below w.heap.size w w4 := below_app ((Below.refl w.heap.size w).alloc (Nat.le_refl _) _) (Nat.le_refl _) own3 gr4
      rw [Nat.zero_add] at own4
      have x4 : Sl w4 w4.heap.size X n1 (cb l1) := Sl.own own4
      clear own4 gr4 at4
      refine (rolOf_any m l1 w4 X n1 cx x4 (by omega) hm).mono ?_
      rintro e w5 ⟨rfl, hb5⟩
      rw [← HV.out, ← HE.out, HV0.out, HE0.out]
      replace hb4 := next hb4 hb5
      clear x4 hb5
      go_wp2_with fail
      refine (rright13_any m w5 hm).mono ?_
      rintro e w6 ⟨rfl, rfl⟩
      rw [HOK.out]
      go_wp2_with (first
        | (go_at_call 9; refine (AW.out _).mono ?_; rintro e w6 ⟨rfl, hb6⟩)
        | fail)
      go_ret
      exact ⟨rfl, next hb4 hb6⟩
    · obtain ⟨d, hd, hd9, hd53, hdn, hpos⟩ := rolOk_deg hok hm
      have HVF : Hid (V = fpr m d l1) := by unfold Hid; rw [hV]; exact rolV_deg hok hm hdn l1
      have HE0 : Hid (E = 0) := by unfold Hid; rw [hE]; unfold rolE; rw [hok]; rfl
      have HOK := Lib.hid hok
      have HD := Lib.hid hd
      clear hV hE hok hd hdn
      go_enter Try.func3, Try.ntmps3
      go_wp2_with (at_builtin; refine wpList_append_sl _ rfl _ _ 23 rfl w.heap.size 5 i0 (.int .u8 0) 1 Try.underlying23 hi hz0 hz1 hz2 rfl _ 0 [] rfl own3 _ A1 n1 c1 (cb l1) rfl y3 z1 (cb_one _) (by unfold maxLen; omega) (by omega) (by simp) ?_; intro v4 w4 own4 gr4 at4; obtain ⟨X, cx, rfl⟩ := own_form own4)
      have hb4 : Below w.heap.size w w4 := below_app ((Below.refl w.heap.size w).alloc (Nat.le_refl _) _) (Nat.le_refl _) own3 gr4
      rw [Nat.zero_add] at own4
      have x4 : Sl w4 w4.heap.size X n1 (cb l1) := Sl.own own4
      clear own4 gr4 at4
      refine (rolOf_any m l1 w4 X n1 cx x4 (by omega) hm).mono ?_
      rintro e w5 ⟨rfl, hb5⟩
      rw [← HV.out, ← HE.out, HE0.out]
      replace hb4 := next hb4 hb5
      clear x4 hb5
      go_wp2_with fail
      refine (rright13_any m w5 hm).mono ?_
      rintro e w6 ⟨rfl, rfl⟩
      rw [HOK.out]
      have y5 := y1.nx hb4
      go_wp2_with (first
        | (go_at_call 12; refine (rof13_any m l1 w5 _ A1 n1 c1 d y5 (Nat.le_refl _) (by omega) hm HD.out hd53).mono ?_; rintro e w7 ⟨rfl, hb7⟩; rw [← HVF.out]; replace hb4 := next hb4 hb7; clear hb7)
        | (go_at_call 9; refine (AW.out _).mono ?_; rintro e w6 ⟨rfl, hb6⟩)
        | fail)
      go_ret
      exact ⟨rfl, next hb4 hb6⟩
  · have q1 : (4000 : Int) < (n1 : Int) := by omega
    go_enter Try.func3, Try.ntmps3
    go_wp2_with fail
    refine (awake13_any w).mono ?_
    rintro e w6 ⟨rfl, hb6⟩
    go_wp2
    go_ret
    exact ⟨rfl, hb6⟩

end Go.Proofs.Ythgedpnoghgdhaa
