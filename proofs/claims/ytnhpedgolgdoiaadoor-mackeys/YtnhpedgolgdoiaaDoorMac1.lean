/- The walks of the laws MacTags and MacNobody. -/
import Derived.Test.YtnhpedgolgdoiaaDoorMacV
import Derived.Test.YtnhpedgolgdoiaaDoorDigY
namespace Go.Proofs.YtnhpedgolgdoiaaDoor
open Go.RowKit
set_option linter.unusedVariables false
set_option linter.unusedSimpArgs false

theorem list_one_n {w : World} {A : Option Addr} {n c : Nat} {l : List UInt8} (t : TypeId) (hn : n = l.length) (hs : Sl w w.heap.size A n (cb l)) (hc : n ≤ c) (hz : A = none → c = 0) :
    Parts (w.alloc (.cells #[.slice A n c] t)) (w.alloc (.cells #[.slice A n c] t)).heap.size (some ⟨w.heap.size, 0, none⟩) 1 [l] ∧ Below w.heap.size w (w.alloc (.cells #[.slice A n c] t)) := by
  subst hn
  exact list_one t hs hc hz

set_option maxRecDepth 100000 in
set_option maxHeartbeats 1000000 in
theorem macTags_walk (A0 : Option Addr) (n0 c0 : Nat) (l0 : List UInt8) (A1 : Option Addr) (n1 c1 : Nat) (l1 : List UInt8) (A2 : Option Addr) (n2 c2 : Nat) (l2 : List UInt8) (w : World) (hT : Tabs w)
    (s0 : InBytes w A0 n0 c0 l0) (s1 : InBytes w A1 n1 c1 l1) (s2 : InBytes w A2 n2 c2 l2) :
    Calls Tryd.prog 3 #[.slice A0 n0 c0, .slice A1 n1 c1, .slice A2 n2 c2] w fun e w' => e = .returned (.bool true) ∧ Below w.heap.size w w' := by
  have y0 := s0.sl
  have z0 := s0.none_
  have e0 := s0.len
  have y1 := s1.sl
  have z1 := s1.none_
  have e1 := s1.len
  have y2 := s2.sl
  have z2 := s2.none_
  have e2 := s2.len
  have r0 := s0.room
  have r1 := s1.room
  have r2 := s2.room
  have p0 := s0.cap
  have p1 := s1.cap
  have p2 := s2.cap
  clear s0 s1 s2
  subst e0; subst e1; subst e2
  have HT := Lib.hid hT
  clear hT
  by_cases hbig : l0.length ≤ 4000 ∧ l1.length ≤ 4000 ∧ l2.length ≤ 4000
  · obtain ⟨b0, b1, b2⟩ := hbig
    have HM := Lib.hid (hmac_len l0 (l1 ++ l2))
    obtain ⟨M, hM⟩ : ∃ M, M = hmac l0 (l1 ++ l2) := ⟨_, rfl⟩
    rw [← hM] at HM
    have HMM := Lib.hid hM
    clear hM
    have q0 : decide (4000 < (l0.length : Int)) = false := by simp; omega
    have q1 : decide (4000 < (l1.length : Int)) = false := by simp; omega
    have q2 : decide (4000 < (l2.length : Int)) = false := by simp; omega
    go_enter Tryd.func3, Tryd.ntmps3
    go_wp2_with fail
    refine (own_any l0 _ _ _ _ _ y0 z0 (by omega) (Nat.le_refl _)).mono ?_
    rintro e w1 ⟨X0, d0, rfl, h1⟩
    have hb1 := h1.below
    have x0 := h1.sl
    have f0 := h1.none_
    have g0 := own_cap h1.own
    clear h1
    go_wp2_with fail
    refine (own_any l1 _ _ _ _ _ (y1.below hb1) z1 (by omega) hb1.size).mono ?_
    rintro e w2 ⟨X1, d1, rfl, h2⟩
    have hb2 := next hb1 h2.below
    replace x0 := x0.nx h2.below
    have x1 := h2.sl
    have f1 := h2.none_
    have g1 := own_cap h2.own
    clear h2 hb1
    go_wp2_with fail
    refine (own_any l2 _ _ _ _ _ (y2.below hb2) z2 (by omega) hb2.size).mono ?_
    rintro e w3 ⟨X2, d2, rfl, h3⟩
    have hb3 := next hb2 h3.below
    replace x0 := x0.nx h3.below
    replace x1 := x1.nx h3.below
    have x2 := h3.sl
    have f2 := h3.none_
    have g2 := own_cap h3.own
    clear h3 hb2
    go_wp2_with fail
    refine (join_any l1 l2 _ _ _ _ _ _ _ _ (y1.below hb3) (y2.below hb3) z1 z2 (by omega) (by omega) hb3.size).mono ?_
    rintro e w4 ⟨X3, d3, rfl, h4⟩
    have hb4 := next hb3 h4.below
    replace x0 := x0.nx h4.below
    replace x1 := x1.nx h4.below
    replace x2 := x2.nx h4.below
    have x3 := h4.sl
    have f3 := h4.none_
    clear h4 hb3
    go_wp2_with fail
    refine (rtag_any l0 (l1 ++ l2) _ _ _ _ _ _ _ _ (y0.nx hb4) z0 (by omega) x3 f3 (by omega) (Nat.le_refl _)).mono ?_
    rintro e w5 ⟨X4, d4, rfl, h5⟩
    rw [← HMM.out] at h5
    have hb5 := next hb4 h5.below
    replace x0 := x0.nx h5.below
    replace x1 := x1.nx h5.below
    replace x2 := x2.nx h5.below
    replace x3 := x3.nx h5.below
    have x4 := h5.sl
    clear h5 hb4
    go_wp2_with fail
    obtain ⟨hp, hbp⟩ := list_two 22 x1 g1 f1 x2 g2 f2
    have hb6 := next hb5 hbp
    replace x0 := x0.nx hbp
    replace x1 := x1.nx hbp
    replace x2 := x2.nx hbp
    replace x3 := x3.nx hbp
    replace x4 := x4.nx hbp
    clear hbp hb5
    refine (tag_any l0 [l1, l2] _ _ _ _ _ _ _ _ _ x0 g0 f0 (Nat.le_refl _) (by omega) hp (Nat.le_refl _) (by omega) (HT.out.next hb6) (by simp; omega)).mono ?_
    rintro e w7 ⟨rfl, hbp⟩
    rw [show [l1, l2].flatten = l1 ++ l2 by simp, ← HMM.out]
    have hb7 := next hb6 hbp
    replace x0 := x0.nx hbp
    replace x1 := x1.nx hbp
    replace x2 := x2.nx hbp
    replace x3 := x3.nx hbp
    replace x4 := x4.nx hbp
    clear hbp hb6 hp
    go_wp2_with fail
    refine (is_any M M _ _ _ _ _ HM.out x4 (Nat.le_refl _)).mono ?_
    rintro e w8 ⟨rfl, hbp⟩
    rw [same_self]
    have hb8 := next hb7 hbp
    replace x0 := x0.nx hbp
    replace x1 := x1.nx hbp
    replace x2 := x2.nx hbp
    replace x3 := x3.nx hbp
    replace x4 := x4.nx hbp
    clear hbp hb7
    go_wp2_with fail
    refine (own_any (l1 ++ l2) _ _ _ _ _ x3 f3 (by omega) (Nat.le_refl _)).mono ?_
    rintro e w9 ⟨X5, d5, rfl, h9⟩
    have hb9 := next hb8 h9.below
    replace x0 := x0.nx h9.below
    replace x1 := x1.nx h9.below
    replace x2 := x2.nx h9.below
    replace x4 := x4.nx h9.below
    have x5 := h9.sl
    have f5 := h9.none_
    have g5 := own_cap h9.own
    clear h9 hb8 x3
    go_wp2_with fail
    obtain ⟨hp, hbp⟩ := list_one_n 22 (show l1.length + l2.length = (l1 ++ l2).length by simp) x5 g5 f5
    have hb10 := next hb9 hbp
    replace x0 := x0.nx hbp
    replace x1 := x1.nx hbp
    replace x2 := x2.nx hbp
    replace x4 := x4.nx hbp
    clear hbp hb9 x5
    refine (tag_any l0 [l1 ++ l2] _ _ _ _ _ _ _ _ _ x0 g0 f0 (Nat.le_refl _) (by omega) hp (Nat.le_refl _) (by omega) (HT.out.next hb10) (by simp; omega)).mono ?_
    rintro e w11 ⟨rfl, hbp⟩
    rw [show [l1 ++ l2].flatten = l1 ++ l2 by simp, ← HMM.out]
    have hb11 := next hb10 hbp
    replace x0 := x0.nx hbp
    replace x1 := x1.nx hbp
    replace x2 := x2.nx hbp
    replace x4 := x4.nx hbp
    clear hbp hb10 hp
    go_wp2_with fail
    refine (is_any M M _ _ _ _ _ HM.out x4 (Nat.le_refl _)).mono ?_
    rintro e w12 ⟨rfl, hbp⟩
    rw [same_self]
    have hb12 := next hb11 hbp
    have u0 := u8_str (x0.nx hbp) d0
    have u1 := u8_str (x1.nx hbp) d1
    have u2 := u8_str (x2.nx hbp) d2
    have v0 := u8_str (y0.nx hb12) c0
    have v1 := u8_str (y1.nx hb12) c1
    have v2 := u8_str (y2.nx hb12) c2
    have hTw := HT.out.next hb12
    clear hbp hb11 x0 x1 x2 x4 y0 y1 y2
    go_wp2_with fail
    refine (awake3_any _ hTw).mono ?_
    rintro e w13 ⟨rfl, hb13⟩
    clear u0 u1 u2 v0 v1 v2
    go_wp2
    go_ret
    exact ⟨rfl, next hb12 hb13⟩
  · rcases (show 4000 < l0.length ∨ (l0.length ≤ 4000 ∧ 4000 < l1.length) ∨ (l0.length ≤ 4000 ∧ l1.length ≤ 4000 ∧ 4000 < l2.length) by omega) with q0 | ⟨q0, q1⟩ | ⟨q0, q1, q2⟩
    · have k0 : decide (4000 < (l0.length : Int)) = true := by simp; omega
      clear hbig
      go_enter Tryd.func3, Tryd.ntmps3
      go_wp2_with (go_at_call 9; refine (awake3_any _ HT.out).mono ?_; rintro e w' ⟨rfl, hb⟩)
      go_ret
      exact ⟨rfl, hb⟩
    · have k0 : decide (4000 < (l0.length : Int)) = false := by simp; omega
      have k1 : decide (4000 < (l1.length : Int)) = true := by simp; omega
      clear hbig
      go_enter Tryd.func3, Tryd.ntmps3
      go_wp2_with (go_at_call 9; refine (awake3_any _ HT.out).mono ?_; rintro e w' ⟨rfl, hb⟩)
      go_ret
      exact ⟨rfl, hb⟩
    · have k0 : decide (4000 < (l0.length : Int)) = false := by simp; omega
      have k1 : decide (4000 < (l1.length : Int)) = false := by simp; omega
      have k2 : decide (4000 < (l2.length : Int)) = true := by simp; omega
      clear hbig
      go_enter Tryd.func3, Tryd.ntmps3
      go_wp2_with (go_at_call 9; refine (awake3_any _ HT.out).mono ?_; rintro e w' ⟨rfl, hb⟩)
      go_ret
      exact ⟨rfl, hb⟩

end Go.Proofs.YtnhpedgolgdoiaaDoor

