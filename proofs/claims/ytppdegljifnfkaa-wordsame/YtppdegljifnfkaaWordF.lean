/- The walk of the law WordSame. -/
import Derived.Test.YtppdegljifnfkaaWordC
import Derived.Deep.RegionWith
import Derived.Deep.RegionHeld3
namespace Go.Proofs.Ytppdegljifnfkaa
open Go.RowKit
set_option linter.unusedVariables false


set_option maxHeartbeats 2000000 in
theorem wordSame_walk (A0 : Option Addr) (n0 c0 : Nat) (l0 : List UInt8) (A1 : Option Addr) (n1 c1 : Nat) (l1 : List UInt8) (w : World) (s0 : InBytes w A0 n0 c0 l0) (s1 : InBytes w A1 n1 c1 l1) :
    Calls Try.prog 7 #[.slice A0 n0 c0, .slice A1 n1 c1] w fun e w' => e = .returned (.bool true) ∧ Below w.heap.size w w' := by
  have r0 := s0.room
  have p0 := s0.cap
  have y0 := s0.sl
  have z0 := s0.none_
  have r1 := s1.room
  have p1 := s1.cap
  have y1 := s1.sl
  have z1 := s1.none_
  clear s0 s1
  have hm0 : n0 ≤ maxLen := by unfold maxLen; omega
  have hm1 : n1 ≤ maxLen := by unfold maxLen; omega
  have hss := str_same l0 l1
  have hs0 := same_self l0
  go_enter Try.func7, Try.ntmps7
  go_wp2
  go_region_held3 (fun w' => (convert 22 9 (.slice A0 n0 c0)).run Try.prog w' = .ok (.string ⟨l0.toArray⟩) w' ∧ (convert 22 9 (.slice A1 n1 c1)).run Try.prog w' = .ok (.string ⟨l1.toArray⟩) w')
    (first | exact ⟨u8_str (y0.below (by first | assumption | exact (Below.refl _ w).drew)) _, u8_str (y1.below (by first | assumption | exact (Below.refl _ w).drew)) _⟩)
    (first
      | (go_at_call 24; (have := h4); refine (same_any l0 l0 _ _ _ _ _ _ _ _ _ x3 h4.sl hm0 hm0).mono ?_; rintro e w6 ⟨rfl, d6⟩; have b6 : Below w.heap.size w w6 := b5.trans (d6.below _))
      | (go_at_call 24; refine (same_any l0 l1 _ _ _ _ _ _ _ _ _ x1 h2.sl hm0 hm1).mono ?_; rintro e w3 ⟨rfl, d3⟩; have b3 : Below w.heap.size w w3 := b2.trans (d3.below _))
      | (go_at_call 10; (have := h3); refine (own_any l0 _ _ _ _ _ (y0.below b4) z0 (by omega) b4.size).mono ?_; rintro e w5 ⟨A5, c5, rfl, h4⟩; have x3 := h3.sl.below h4.below; have b5 := next b4 h4.below)
      | (go_at_call 10; (have := d3); refine (own_any l0 _ _ _ _ _ (y0.below b3) z0 (by omega) b3.size).mono ?_; rintro e w4 ⟨A4, c4, rfl, h3⟩; have b4 := next b3 h3.below)
      | (go_at_call 10; (have := h1); refine (own_any l1 _ _ _ _ _ (y1.below b1) z1 (by omega) b1.size).mono ?_; rintro e w2 ⟨A3, c3, rfl, h2⟩; have x1 := h1.sl.below h2.below; have b2 := next b1 h2.below)
      | (go_at_call 10; refine (own_any l0 _ _ _ _ _ (y0.below (Below.refl _ w).drew) z0 (by omega) (Nat.le_refl _)).mono ?_; rintro e w1 ⟨A2, c2, rfl, h1⟩; have b1 := next (Below.refl _ w).drew h1.below)
      | (go_at_call 15; refine (awake_any _).mono ?_; rintro e w7 ⟨rfl, h7⟩; have b7 := next b6 h7))
  go_wp2
  go_ret
  exact ⟨rfl, b7⟩
end Go.Proofs.Ytppdegljifnfkaa
