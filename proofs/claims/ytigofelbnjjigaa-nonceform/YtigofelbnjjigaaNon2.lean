/- NonceForm: the walk of the law. -/
import Derived.Test.YtigofelbnjjigaaNonX
namespace Go.Proofs.Ytigofelbnjjigaa
set_option maxRecDepth 100000
open Go Go.RowKit
set_option linter.unusedVariables false
set_option linter.unusedSimpArgs false

theorem rd_nonce (e n : Nat) (he : e ≤ 64) (hn : n ≤ 1099511627776) : rdP (nonceL e n) = e ∧ rdN (nonceL e n) = n ∧ rdE (nonceL e n) = 0 := by
  have h4 : (nonceL e n).take 4 = stored e false := by unfold nonceL; rw [List.take_append_of_le_length (by rw [stored_len]; omega), List.take_of_length_le (by rw [stored_len]; omega)]
  have h8 : (nonceL e n).drop 4 = told8 n := by unfold nonceL; rw [List.drop_append, List.drop_of_length_le (by rw [stored_len]; omega), stored_len]; simp
  have v4 : val (stored e false) = e := by unfold stored; simp only [Bool.false_eq_true, if_false]; rw [val_le, Nat.mod_eq_of_lt (by omega)]
  have v8 : val (told8 n) = n := by unfold told8; rw [val_le, Nat.mod_eq_of_lt (by omega)]
  have hb : rdB (nonceL e n) = true := (rdB_iff _).2 ⟨nonceL_len _ _, by rw [h4, v4]; exact he, by rw [h8, v8]; exact hn⟩
  refine ⟨?_, ?_, ?_⟩
  · unfold rdP; rw [hb, if_pos rfl, h4, v4]
  · unfold rdN; rw [hb, if_pos rfl, h8, v8]
  · unfold rdE; rw [hb, if_pos rfl]
theorem nb_rd {b : List UInt8} (h : rdB b = true) : nbL (rdP b) (rdN b) = b ∧ nbE (rdP b) (rdN b) = 0 ∧ rdE b = 0 := by
  obtain ⟨h1, h2, h3⟩ := (rdB_iff b).1 h
  have e1 : rdP b = val (b.take 4) := by unfold rdP; rw [if_pos h]
  have e2 : rdN b = val (b.drop 4) := by unfold rdN; rw [if_pos h]
  have hc : cnok (rdP b : Nat) (rdN b : Nat) = true := (cnok_iff _ _).2 (by rw [e1, e2]; omega)
  refine ⟨?_, ?_, ?_⟩
  · unfold nbL; rw [if_pos hc, e1, e2]; simpa using nonceL_of h1
  · unfold nbE; rw [if_pos hc]
  · unfold rdE; rw [if_pos h]
theorem rd_no {b : List UInt8} (h : rdB b = false) : rdP b = 0 ∧ rdN b = 0 ∧ rdE b = 5 := by
  unfold rdP rdN rdE
  simp [h]

set_option maxHeartbeats 2000000 in
theorem nonceForm_walk (a0 a1 : Int) (A2 : Option Addr) (n2 c2 : Nat) (l2 : List UInt8) (w : World) (w0 : (Lit.int .i64 a0).wf = true) (w1 : (Lit.int .i64 a1).wf = true) (s2 : InBytes w A2 n2 c2 l2) :
    Calls Try.prog 7 #[.int .i64 a0, .int .i64 a1, .slice A2 n2 c2] w fun e w' => e = .returned (.bool true) ∧ Below w.heap.size w w' := by
  obtain ⟨i0, hi, hz0, hz1, hz2⟩ := info_parts u8_info
  have r2 := s2.room
  have p2 := s2.cap
  have y2 := s2.sl
  have z2 := s2.none_
  clear s2 w0 w1
  have hof := nof_any a0 a1 w
  have hE : nbE a0 a1 = if cnok a0 a1 = true then 0 else 1 := rfl
  have hL : nbL a0 a1 = if cnok a0 a1 = true then nonceL a0.toNat a1.toNat else [] := rfl
  have hin := (cnok_iff a0 a1).1
  obtain ⟨ok, hok⟩ : ∃ ok, ok = cnok a0 a1 := ⟨_, rfl⟩
  rw [← hok] at hE hL hin
  clear hok
  obtain ⟨rb, hrb⟩ : ∃ rb, rb = rdB l2 := ⟨_, rfl⟩
  rcases ok with _ | _
  all_goals
    go_enter Try.func7, Try.ntmps7
  · rw [if_neg (by simp)] at hE hL
    rw [hE, hL] at hof
    have HOF := Lib.hid hof
    clear hE hL hin hof
    go_wp2_with fail
    refine HOF.out.mono ?_
    rintro r W2 ⟨A1, n1, c1, rfl, x1⟩
    have hbw := x1.below
    clear x1 HOF
    have h0 := World.ownsRow_lit (base := W2.heap.size) (e := 5) (size := 1) W2 #[] 0 (Nat.le_refl _) (by decide) rfl
    go_wp2_with (first
      | (at_builtin; refine wpList_append_sl _ rfl _ _ 30 rfl W2.heap.size 5 i0 (.int .u8 0) 1 Try.underlying30 hi hz0 hz1 hz2 rfl _ 0 [] rfl h0 w.heap.size A2 n2 c2 (cb l2) rfl ((y2.below hbw).alloc hbw.size _) z2 (cb_one l2) (by unfold maxLen; omega) (by omega) (by simp) ?_; intro v' w4 hown' hgrow hat)
      | fail)
    have hb4 : Below W2.heap.size W2 w4 := below_app ((Below.refl W2.heap.size W2).alloc (Nat.le_refl _) _) (Nat.le_refl _) h0 hgrow
    obtain ⟨A4, c4, hv, x4⟩ := retBytes (n := n2) (l := l2) (by omega) (by simp) hown' hb4
    injection hv with hv
    subst hv
    have hb4' := next hbw hb4
    clear h0 hown' hgrow hat
    refine (nread_any l2 w4 A4 n2 c4 x4.sl (own_cap x4.own) x4.none_ (by unfold maxLen; omega)).mono ?_
    rintro r w5 ⟨rfl, hb5⟩
    have hb5' := next hb4' hb5
    clear x4
    rcases rb with _ | _
    · obtain ⟨e1, e2, e3⟩ := rd_no hrb.symm
      rw [e1, e2, e3]
      clear hrb e1 e2 e3
      go_wp2_with (go_at_call 12; refine (awake10_any _).mono ?_; rintro r w9 ⟨rfl, hb9⟩)
      go_ret
      exact ⟨rfl, next hb5' hb9⟩
    · obtain ⟨e1, e2, e3⟩ := nb_rd hrb.symm
      rw [e3]
      have hof2 := nof_any (rdP l2) (rdN l2) w5
      rw [e1, e2] at hof2
      have HOF2 := Lib.hid hof2
      obtain ⟨P, hP⟩ : ∃ P, P = rdP l2 := ⟨_, rfl⟩
      obtain ⟨N, hN⟩ : ∃ N, N = rdN l2 := ⟨_, rfl⟩
      rw [← hP, ← hN] at HOF2 ⊢
      clear hP hN hof2 e1 e2 e3 hrb
      go_wp2_with (go_at_call 14; fail)
      refine HOF2.out.mono ?_
      rintro r w6 ⟨A6, n6, c6, rfl, x6⟩
      have hb6' := next hb5' x6.below
      have u6 := u8_str x6.sl c6
      have u2 := u8_str (y2.below hb6') c2
      have hbb : (l2 == l2) = true := by simp
      clear x6
      go_wp2_with (go_at_call 12; refine (awake10_any _).mono ?_; rintro r w9 ⟨rfl, hb9⟩)
      go_ret
      exact ⟨rfl, next hb6' hb9⟩
  · rw [if_pos rfl] at hE hL
    obtain ⟨h1, h2, h3, h4⟩ := hin rfl
    obtain ⟨en, rfl⟩ : ∃ en : Nat, a0 = en := ⟨a0.toNat, by omega⟩
    obtain ⟨ln, rfl⟩ : ∃ ln : Nat, a1 = ln := ⟨a1.toNat, by omega⟩
    obtain ⟨q1, q2, q3⟩ := rd_nonce en ln (by omega) (by omega)
    have e1 : nbL en ln = nonceL en ln := by rw [hL]; simp
    rw [hE, e1] at hof
    obtain ⟨X, hX⟩ : ∃ X, X = nonceL en ln := ⟨_, rfl⟩
    have hXl : X.length = 12 := by rw [hX, nonceL_len]
    rw [← hX] at q1 q2 q3 hof
    have HOF := Lib.hid hof
    have HQ : Hid (rdP X = en ∧ rdN X = ln ∧ rdE X = 0) := ⟨q1, q2, q3⟩
    have HXL := Lib.hid hXl
    clear hE hL hin hof e1 hX q1 q2 q3 hXl h1 h2 h3 h4
    go_wp2_with fail
    refine HOF.out.mono ?_
    rintro r w1 ⟨A1, n1, c1, rfl, x1⟩
    have hn1 : n1 = 12 := by rw [← HXL.out, ← cb_len]; exact x1.sl.1.symm
    subst hn1
    have hb1 := x1.below
    go_wp2_with (go_at_call 16; fail)
    refine (nread_any X w1 A1 12 c1 x1.sl (own_cap x1.own) x1.none_ (by decide)).mono ?_
    rintro r W2 ⟨rfl, hb2⟩
    rw [HQ.out.1, HQ.out.2.1, HQ.out.2.2]
    have hbw := next hb1 hb2
    clear x1 HOF HQ HXL hb1 hb2
    have h0 := World.ownsRow_lit (base := W2.heap.size) (e := 5) (size := 1) W2 #[] 0 (Nat.le_refl _) (by decide) rfl
    go_wp2_with (first
      | (at_builtin; refine wpList_append_sl _ rfl _ _ 30 rfl W2.heap.size 5 i0 (.int .u8 0) 1 Try.underlying30 hi hz0 hz1 hz2 rfl _ 0 [] rfl h0 w.heap.size A2 n2 c2 (cb l2) rfl ((y2.below hbw).alloc hbw.size _) z2 (cb_one l2) (by unfold maxLen; omega) (by omega) (by simp) ?_; intro v' w4 hown' hgrow hat)
      | fail)
    have hb4 : Below W2.heap.size W2 w4 := below_app ((Below.refl W2.heap.size W2).alloc (Nat.le_refl _) _) (Nat.le_refl _) h0 hgrow
    obtain ⟨A4, c4, hv, x4⟩ := retBytes (n := n2) (l := l2) (by omega) (by simp) hown' hb4
    injection hv with hv
    subst hv
    have hb4' := next hbw hb4
    clear h0 hown' hgrow hat
    refine (nread_any l2 w4 A4 n2 c4 x4.sl (own_cap x4.own) x4.none_ (by unfold maxLen; omega)).mono ?_
    rintro r w5 ⟨rfl, hb5⟩
    have hb5' := next hb4' hb5
    clear x4
    rcases rb with _ | _
    · obtain ⟨e1, e2, e3⟩ := rd_no hrb.symm
      rw [e1, e2, e3]
      clear hrb e1 e2 e3
      go_wp2_with (go_at_call 12; refine (awake10_any _).mono ?_; rintro r w9 ⟨rfl, hb9⟩)
      go_ret
      exact ⟨rfl, next hb5' hb9⟩
    · obtain ⟨e1, e2, e3⟩ := nb_rd hrb.symm
      rw [e3]
      have hof2 := nof_any (rdP l2) (rdN l2) w5
      rw [e1, e2] at hof2
      have HOF2 := Lib.hid hof2
      obtain ⟨P, hP⟩ : ∃ P, P = rdP l2 := ⟨_, rfl⟩
      obtain ⟨N, hN⟩ : ∃ N, N = rdN l2 := ⟨_, rfl⟩
      rw [← hP, ← hN] at HOF2 ⊢
      clear hP hN hof2 e1 e2 e3 hrb
      go_wp2_with (go_at_call 14; fail)
      refine HOF2.out.mono ?_
      rintro r w6 ⟨A6, n6, c6, rfl, x6⟩
      have hb6' := next hb5' x6.below
      have u6 := u8_str x6.sl c6
      have u2 := u8_str (y2.below hb6') c2
      have hbb : (l2 == l2) = true := by simp
      clear x6
      go_wp2_with (go_at_call 12; refine (awake10_any _).mono ?_; rintro r w9 ⟨rfl, hb9⟩)
      go_ret
      exact ⟨rfl, next hb6' hb9⟩

end Go.Proofs.Ytigofelbnjjigaa
