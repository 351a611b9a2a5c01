/- The walk of the law DigestCopies. -/
import Derived.Test.YtnaanngbnnbpdaaDoorDigW
namespace Go.Proofs.YtnaanngbnnbpdaaDoor
open Go.RowKit
set_option linter.unusedVariables false

set_option maxHeartbeats 2000000 in
theorem digestCopies_walk (A0 : Option Addr) (n0 c0 : Nat) (l0 : List UInt8) (A1 : Option Addr) (n1 c1 : Nat) (l1 : List UInt8) (A2 : Option Addr) (n2 c2 : Nat) (l2 : List UInt8) (w : World) (hT : Tabs w)
    (s0 : InBytes w A0 n0 c0 l0) (s1 : InBytes w A1 n1 c1 l1) (s2 : InBytes w A2 n2 c2 l2) :
    Calls Tryd.prog 6 #[.slice A0 n0 c0, .slice A1 n1 c1, .slice A2 n2 c2] w fun e w' => e = .returned (.bool true) ∧ Below w.heap.size w w' := by
  have y0 := s0.sl
  have z0 := s0.none_
  have e0 := s0.len
  have y1 := s1.sl
  have z1 := s1.none_
  have e1 := s1.len
  have y2 := s2.sl
  have z2 := s2.none_
  have e2 := s2.len
  have r0 := s0.room
  have r1 := s1.room
  have r2 := s2.room
  have p0 := s0.cap
  have p1 := s1.cap
  have p2 := s2.cap
  clear s0 s1 s2
  subst e0; subst e1; subst e2
  have HT := Lib.hid hT
  have hws := hT.size
  clear hT
  have H01 := Lib.hid (sha_len (l0 ++ l1))
  have H02 := Lib.hid (sha_len (l0 ++ l2))
  by_cases hbig : l0.length ≤ 4000 ∧ l1.length ≤ 4000 ∧ l2.length ≤ 4000
  · obtain ⟨b0, b1, b2⟩ := hbig
    have q0 : decide (4000 < (l0.length : Int)) = false := by simp; omega
    have q1 : decide (4000 < (l1.length : Int)) = false := by simp; omega
    have q2 : decide (4000 < (l2.length : Int)) = false := by simp; omega
    go_enter Tryd.func6, Tryd.ntmps6
    go_wp2_with fail
    refine (new_any _ HT.out).mono ?_
    rintro e w1 ⟨g1, rfl, hg1, st, hb⟩
    go_wp2_with fail
    refine (own_any l0 _ _ _ _ _ (y0.below hb) z0 (by omega) hb.size).mono ?_
    rintro e w2 ⟨B0, d0, rfl, h2⟩
    have st2 := st.next h2.below
    have hb2 := next hb h2.below
    have ho2 : Off g1 l0.length B0 := own_off h2.own st.lt
    go_wp2_with fail
    refine (add_any g1 [] l0 _ _ _ _ _ st2 h2.sl (Nat.le_refl _) ho2 (own_cap h2.own) h2.none_ (HT.out.next hb2) (by omega) (by simp; omega)).mono ?_
    rintro e w3 ⟨rfl, st3, hgr3, hT3⟩
    rw [List.nil_append] at st3
    have hb3 := below_but hb2 hgr3 hb2.size hg1
    clear st st2 hb h2 hb2 ho2 hgr3
    go_wp2_with fail
    refine (copy_any g1 l0 _ st3).mono ?_
    rintro e w4 ⟨g2, rfl, hg2, tt, hb4'⟩
    have st4 := st3.next hb4'
    have hb4 := next hb3 hb4'
    have hne : g2 ≠ g1 := by have := st3.lt; omega
    have hg2w : w.heap.size ≤ g2 := Nat.le_trans hb3.size hg2
    clear st3 hT3 hb4' hb3 hg2
    go_wp2_with fail
    refine (own_any l1 _ _ _ _ _ (y1.below hb4) z1 (by omega) hb4.size).mono ?_
    rintro e w5 ⟨B1, d1, rfl, h5⟩
    have st5 := st4.next h5.below
    have t5 := tt.next h5.below
    have hb5 := next hb4 h5.below
    have ho5 : Off g1 l1.length B1 := own_off h5.own st4.lt
    go_wp2_with fail
    refine (add_any g1 l0 l1 _ _ _ _ _ st5 h5.sl (Nat.le_refl _) ho5 (own_cap h5.own) h5.none_ (HT.out.next hb5) (by omega) (by omega)).mono ?_
    rintro e w6 ⟨rfl, st6, hgr6, hT6⟩
    have t6 := t5.but hgr6 hne
    have hb6 := below_but hb5 hgr6 hb5.size hg1
    clear st4 tt st5 t5 hb4 h5 hb5 ho5 hgr6
    go_wp2_with fail
    refine (own_any l2 _ _ _ _ _ (y2.below hb6) z2 (by omega) hb6.size).mono ?_
    rintro e w7 ⟨B2, d2, rfl, h7⟩
    have st7 := st6.next h7.below
    have t7 := t6.next h7.below
    have hb7 := next hb6 h7.below
    have ho7 : Off g2 l2.length B2 := own_off h7.own t6.lt
    go_wp2_with fail
    refine (add_any g2 l0 l2 _ _ _ _ _ t7 h7.sl (Nat.le_refl _) ho7 (own_cap h7.own) h7.none_ (HT.out.next hb7) (by omega) (by omega)).mono ?_
    rintro e w8 ⟨rfl, t8, hgr8, hT8⟩
    have st8 := st7.but hgr8 (Ne.symm hne)
    have hb8 := below_but hb7 hgr8 hb7.size hg2w
    clear st6 t6 st7 t7 hb6 h7 hb7 ho7 hgr8 hT6
    go_wp2_with fail
    refine (sum_any g1 (l0 ++ l1) _ st8 hT8 (by simp; omega)).mono ?_
    rintro e w9 ⟨rfl, hb9'⟩
    have t9 := t8.next hb9'
    have hb9 := next hb8 hb9'
    clear st8 t8 hb8 hb9' hT8
    go_wp2_with fail
    refine (join_any l0 l1 _ _ _ _ _ _ _ _ (y0.below hb9) (y1.below hb9) z0 z1 (by omega) (by omega) hb9.size).mono ?_
    rintro e w10 ⟨B3, d3, rfl, h10⟩
    have t10 := t9.next h10.below
    have hb10 := next hb9 h10.below
    clear t9 hb9
    go_wp2_with fail
    refine (rof_any (l0 ++ l1) _ _ _ _ _ h10.sl h10.none_ (Nat.le_refl _) (by omega)).mono ?_
    rintro e w11 ⟨B4, d4, rfl, h11⟩
    have t11 := t10.next h11.below
    have hb11 := next hb10 h11.below
    clear t10 hb10 h10
    go_wp2_with fail
    refine (is_any (sha (l0 ++ l1)) (sha (l0 ++ l1)) _ _ _ _ _ H01.out h11.sl (Nat.le_refl _)).mono ?_
    rintro e w12 ⟨rfl, hb12'⟩
    rw [same_self]
    have t12 := t11.next hb12'
    have hb12 := next hb11 hb12'
    clear t11 hb11 h11 hb12'
    go_wp2_with fail
    refine (sum_any g2 (l0 ++ l2) _ t12 (HT.out.next hb12) (by simp; omega)).mono ?_
    rintro e w13 ⟨rfl, hb13'⟩
    have hb13 := next hb12 hb13'
    clear t12 hb12 hb13'
    go_wp2_with fail
    refine (join_any l0 l2 _ _ _ _ _ _ _ _ (y0.below hb13) (y2.below hb13) z0 z2 (by omega) (by omega) hb13.size).mono ?_
    rintro e w14 ⟨B5, d5, rfl, h14⟩
    have hb14 := next hb13 h14.below
    clear hb13
    go_wp2_with fail
    refine (rof_any (l0 ++ l2) _ _ _ _ _ h14.sl h14.none_ (Nat.le_refl _) (by omega)).mono ?_
    rintro e w15 ⟨B6, d6, rfl, h15⟩
    have hb15 := next hb14 h15.below
    clear hb14 h14
    go_wp2_with fail
    refine (is_any (sha (l0 ++ l2)) (sha (l0 ++ l2)) _ _ _ _ _ H02.out h15.sl (Nat.le_refl _)).mono ?_
    rintro e w16 ⟨rfl, hb16'⟩
    rw [same_self]
    have hb16 := next hb15 hb16'
    clear hb15 h15 hb16'
    go_wp2_with fail
    refine (awake2_any _ (HT.out.next hb16)).mono ?_
    rintro e w17 ⟨rfl, hb17⟩
    go_wp2
    go_ret
    exact ⟨rfl, next hb16 hb17⟩
  · rcases (show 4000 < l0.length ∨ (l0.length ≤ 4000 ∧ 4000 < l1.length) ∨ (l0.length ≤ 4000 ∧ l1.length ≤ 4000 ∧ 4000 < l2.length) by omega) with q0 | ⟨q0, q1⟩ | ⟨q0, q1, q2⟩
    · have k0 : decide (4000 < (l0.length : Int)) = true := by simp; omega
      clear hbig
      go_enter Tryd.func6, Tryd.ntmps6
      go_wp2_with (go_at_call 9; refine (awake2_any _ HT.out).mono ?_; rintro e w' ⟨rfl, hb⟩)
      go_ret
      exact ⟨rfl, hb⟩
    · have k0 : decide (4000 < (l0.length : Int)) = false := by simp; omega
      have k1 : decide (4000 < (l1.length : Int)) = true := by simp; omega
      clear hbig
      go_enter Tryd.func6, Tryd.ntmps6
      go_wp2_with (go_at_call 9; refine (awake2_any _ HT.out).mono ?_; rintro e w' ⟨rfl, hb⟩)
      go_ret
      exact ⟨rfl, hb⟩
    · have k0 : decide (4000 < (l0.length : Int)) = false := by simp; omega
      have k1 : decide (4000 < (l1.length : Int)) = false := by simp; omega
      have k2 : decide (4000 < (l2.length : Int)) = true := by simp; omega
      clear hbig
      go_enter Tryd.func6, Tryd.ntmps6
      go_wp2_with (go_at_call 9; refine (awake2_any _ HT.out).mono ?_; rintro e w' ⟨rfl, hb⟩)
      go_ret
      exact ⟨rfl, hb⟩

end Go.Proofs.YtnaanngbnnbpdaaDoor

