/- The walks of the laws OnetimeTags and OnetimeNobody. -/
import Derived.Test.YtckbogdgiieddaaLP
namespace Go.Proofs.Ytckbogdgiieddaa
open Go.RowKit
set_option linter.unusedVariables false
set_option linter.unusedSimpArgs false

set_option maxHeartbeats 600000 in
theorem onetimeNobody_walk (A0 : Option Addr) (n0 c0 : Nat) (l0 : List UInt8) (w : World) (s0 : InBytes w A0 n0 c0 l0) :
    Calls Try.prog 6 #[.slice A0 n0 c0] w fun e w' => e = .returned (.bool true) ∧ Below w.heap.size w w' := by
  have hroom := s0.room
  have hcap := s0.cap
  have hsl := s0.sl
  have hno := s0.none_
  go_enter Try.func6, Try.ntmps6
  go_wp2_with fail
  refine (own_any l0 _ _ _ _ _ hsl hno (by omega) (Nat.le_refl _)).mono ?_
  rintro e w1 ⟨A1, c1, rfl, hnew⟩
  have hb1 := hnew.below
  clear hnew
  go_wp2_with fail
  refine (onadd_any _ _ _ _).mono ?_
  rintro e w2 ⟨rfl, rfl⟩
  go_wp2_with fail
  refine (ontag_any _).mono ?_
  rintro e w2 ⟨rfl, rfl⟩
  go_wp2_with fail
  refine (awake6_any _).mono ?_
  rintro e w3 ⟨rfl, hb3⟩
  go_wp2
  go_ret
  exact ⟨rfl, next hb1 hb3⟩

set_option maxRecDepth 100000 in
set_option maxHeartbeats 1000000 in
theorem onetimeTags_walk (A0 : Option Addr) (n0 c0 : Nat) (l0 : List UInt8) (A1 : Option Addr) (n1 c1 : Nat) (l1 : List UInt8) (w : World) (s0 : InBytes w A0 n0 c0 l0) (s1 : InBytes w A1 n1 c1 l1) :
    Calls Try.prog 3 #[.slice A0 n0 c0, .slice A1 n1 c1] w fun e w' => e = .returned (.bool true) ∧ Below w.heap.size w w' := by
  have y0 := s0.sl
  have z0 := s0.none_
  have y1 := s1.sl
  have z1 := s1.none_
  have r0 := s0.room
  have r1 := s1.room
  have p0 := s0.cap
  have p1 := s1.cap
  clear s0 s1
  by_cases hbig : n1 ≤ 4000
  · have q1 : ¬ (4000 : Int) < (n1 : Int) := by omega
    obtain ⟨G, hG⟩ : ∃ G, G = tagR l0 l1 := ⟨_, rfl⟩
    obtain ⟨E, hE⟩ : ∃ E, E = tagE l0 := ⟨_, rfl⟩
    have HG := Lib.hid hG
    have HE := Lib.hid hE
    clear hG hE
    go_enter Try.func3, Try.ntmps3
    go_wp2_with fail
    refine (own_any l0 _ _ _ _ _ y0 z0 (by omega) (Nat.le_refl _)).mono ?_
    rintro e w1 ⟨X0, d0, rfl, h1⟩
    have hb1 := h1.below
    have x0 := h1.sl
    have f0 := h1.none_
    have g0 := own_cap h1.own
    clear h1
    go_wp2_with fail
    refine (own_any l1 _ _ _ _ _ (y1.below hb1) z1 (by omega) hb1.size).mono ?_
    rintro e w2 ⟨X1, d1, rfl, h2⟩
    have hb2 := next hb1 h2.below
    replace x0 := x0.nx h2.below
    have x1 := h2.sl
    have f1 := h2.none_
    have g1 := own_cap h2.own
    clear h2 hb1
    go_wp2_with fail
    refine (ottag_any l0 l1 w2 _ _ _ _ _ _ x0 g0 f0 (by unfold maxLen; omega) x1 g1 f1 (by unfold maxLen; omega)).mono ?_
    rintro e w3 ⟨X3, n3, d3, rfl, h3⟩
    rw [← HG.out] at h3
    rw [← HE.out]
    have hb3 := next hb2 h3.below
    replace x0 := x0.nx h3.below
    replace x1 := x1.nx h3.below
    have x3 := h3.sl
    clear h3 hb2
    go_wp2_with fail
    refine (rtag6_any l0 l1 w3 _ _ _ _ _ _ (y0.nx hb3) p0 z0 (by unfold maxLen; omega) (y1.nx hb3) p1 z1 (by omega)).mono ?_
    rintro e w4 ⟨X4, n4, d4, rfl, h4⟩
    rw [← HG.out] at h4
    rw [← HE.out]
    have hb4 := next hb3 h4.below
    have t0 := u8_str (x0.nx h4.below) d0
    have t1 := u8_str (x1.nx h4.below) d1
    have t3 := u8_str (x3.nx h4.below) d3
    have t4 := u8_str h4.sl d4
    have t5 := u8_str (y0.nx hb4) c0
    have t6 := u8_str (y1.nx hb4) c1
    clear h4 hb3 x0 x1 x3
    go_wp2_with fail
    refine (awake6_any _).mono ?_
    rintro e w5 ⟨rfl, hb5⟩
    go_wp2
    go_ret
    exact ⟨rfl, next hb4 hb5⟩
  · have q1 : (4000 : Int) < (n1 : Int) := by omega
    go_enter Try.func3, Try.ntmps3
    go_wp2_with fail
    refine (awake6_any _).mono ?_
    rintro e w5 ⟨rfl, hb5⟩
    go_wp2
    go_ret
    exact ⟨rfl, hb5⟩

end Go.Proofs.Ytckbogdgiieddaa
