/- The walk of the law StretchWhole. -/
import Derived.Test.YtfmbilnbbpbpeaaDoorLS
namespace Go.Proofs.YtfmbilnbbpbpeaaDoor
open Go.RowKit
set_option linter.unusedVariables false
set_option linter.unusedSimpArgs false

theorem key_no (pass salt : List UInt8) (r n E : Int) (w : World) (A A' : Option Addr) (m c m' c' : Nat) (h : keyE r n = E) (h0 : E ≠ 0) :
    Calls Tryd.prog 9 #[.slice A m c, .slice A' m' c', .int .i64 r, .int .i64 n] w (RetSl w [] E) := by
  have := key_bad pass salt r n w A A' m c m' c' (by rw [h]; exact h0)
  rwa [keyL_no (by rw [h]; exact h0), h] at this

set_option maxRecDepth 100000 in
set_option maxHeartbeats 1000000 in
theorem stretchWhole_walk (A0 : Option Addr) (n0 c0 : Nat) (l0 : List UInt8) (A1 : Option Addr) (n1 c1 : Nat) (l1 : List UInt8) (a2 : Int) (w : World) (hT : Tabs w)
    (s0 : InBytes w A0 n0 c0 l0) (s1 : InBytes w A1 n1 c1 l1) (w2 : (Lit.int .u8 a2).wf = true) :
    Calls Tryd.prog 6 #[.slice A0 n0 c0, .slice A1 n1 c1, .int .u8 a2] w fun e w' => e = .returned (.bool true) ∧ Below w.heap.size w w' := by
  have y0 := s0.sl
  have z0 := s0.none_
  have e0 := s0.len
  have y1 := s1.sl
  have z1 := s1.none_
  have e1 := s1.len
  have v2 := bounds_u8 w2
  clear s0 s1
  subst e0; subst e1
  have HT := Lib.hid hT
  clear hT
  by_cases hbig : l0.length ≤ 400 ∧ l1.length ≤ 400
  · obtain ⟨b0, b1⟩ := hbig
    have q0 : decide (400 < (l0.length : Int)) = false := by simp; omega
    have q1 : decide (400 < (l1.length : Int)) = false := by simp; omega
    go_enter Tryd.func6, Tryd.ntmps6
    have hb0 : Below w.heap.size w w := Below.refl _ _
    go_wp2_with fail
    refine (own_any l0 _ _ _ _ _ (y0.nx hb0) z0 (by omega) (Nat.le_refl _)).mono ?_
    rintro e wa1 ⟨Xa0, da0, rfl, h1⟩
    have hba1 := next hb0 h1.below
    have x0 := h1.sl
    have f0 := h1.none_
    have g0 := own_cap h1.own
    clear h1 hb0
    go_wp2_with fail
    refine (own_any l1 _ _ _ _ _ (y1.nx hba1) z1 (by omega) (Nat.le_refl _)).mono ?_
    rintro e wa2 ⟨Xa1, da1, rfl, h2⟩
    have hba2 := next hba1 h2.below
    replace x0 := x0.nx h2.below
    have x1 := h2.sl
    have f1 := h2.none_
    have g1 := own_cap h2.own
    clear h2 hba1
    go_wp2_with fail
    refine (key_no l0 l1 _ _ 6 _ _ _ _ _ _ _ (keyE_r (by omega)) (by decide)).mono ?_
    rintro e wa3 ⟨Xa3, na3, da3, rfl, h3⟩
    have hba3 := next hba2 h3.below
    clear h3 x0 f0 g0 x1 f1 g1 hba2
    go_wp2_with fail
    refine (own_any l0 _ _ _ _ _ (y0.nx hba3) z0 (by omega) (Nat.le_refl _)).mono ?_
    rintro e wb1 ⟨Xb0, db0, rfl, h1⟩
    have hbb1 := next hba3 h1.below
    have x0 := h1.sl
    have f0 := h1.none_
    have g0 := own_cap h1.own
    clear h1 hba3
    go_wp2_with fail
    refine (own_any l1 _ _ _ _ _ (y1.nx hbb1) z1 (by omega) (Nat.le_refl _)).mono ?_
    rintro e wb2 ⟨Xb1, db1, rfl, h2⟩
    have hbb2 := next hbb1 h2.below
    replace x0 := x0.nx h2.below
    have x1 := h2.sl
    have f1 := h2.none_
    have g1 := own_cap h2.own
    clear h2 hbb1
    go_wp2_with fail
    refine (key_no l0 l1 _ _ 6 _ _ _ _ _ _ _ (keyE_r (by omega)) (by decide)).mono ?_
    rintro e wb3 ⟨Xb3, nb3, db3, rfl, h3⟩
    have hbb3 := next hbb2 h3.below
    clear h3 x0 f0 g0 x1 f1 g1 hbb2
    go_wp2_with fail
    refine (own_any l0 _ _ _ _ _ (y0.nx hbb3) z0 (by omega) (Nat.le_refl _)).mono ?_
    rintro e wc1 ⟨Xc0, dc0, rfl, h1⟩
    have hbc1 := next hbb3 h1.below
    have x0 := h1.sl
    have f0 := h1.none_
    have g0 := own_cap h1.own
    clear h1 hbb3
    go_wp2_with fail
    refine (own_any l1 _ _ _ _ _ (y1.nx hbc1) z1 (by omega) (Nat.le_refl _)).mono ?_
    rintro e wc2 ⟨Xc1, dc1, rfl, h2⟩
    have hbc2 := next hbc1 h2.below
    replace x0 := x0.nx h2.below
    have x1 := h2.sl
    have f1 := h2.none_
    have g1 := own_cap h2.own
    clear h2 hbc1
    go_wp2_with fail
    refine (key_ok l0 l1 4096 1 _ _ _ _ _ _ _ _ x0 g0 f0 (by omega) x1 g1 f1 (by omega) (Nat.le_refl _) (HT.out.next hbc2) (by omega) (by omega) (by omega)).mono ?_
    rintro e wc3 ⟨Xc3, nc3, dc3, rfl, h3⟩
    have hbc3 := next hbc2 h3.below
    obtain rfl : nc3 = 1 := by rw [h3.len, pbk_len]
    clear h3 x0 f0 g0 x1 f1 g1 hbc2
    have hTw := HT.out.next hbc3
    go_wp2_with fail
    refine (awake4_any _ hTw).mono ?_
    rintro e w9 ⟨rfl, hb9⟩
    go_wp2
    go_ret
    exact ⟨rfl, next hbc3 hb9⟩
  · rcases (show 400 < l0.length ∨ (l0.length ≤ 400 ∧ 400 < l1.length) by omega) with q0 | ⟨q0, q1⟩
    · have k0 : decide (400 < (l0.length : Int)) = true := by simp; omega
      clear hbig
      go_enter Tryd.func6, Tryd.ntmps6
      go_wp2_with (go_at_call 7; refine (awake4_any _ HT.out).mono ?_; rintro e w' ⟨rfl, hb⟩)
      go_ret
      exact ⟨rfl, hb⟩
    · have k0 : decide (400 < (l0.length : Int)) = false := by simp; omega
      have k1 : decide (400 < (l1.length : Int)) = true := by simp; omega
      clear hbig
      go_enter Tryd.func6, Tryd.ntmps6
      go_wp2_with (go_at_call 7; refine (awake4_any _ HT.out).mono ?_; rintro e w' ⟨rfl, hb⟩)
      go_ret
      exact ⟨rfl, hb⟩

end Go.Proofs.YtfmbilnbbpbpeaaDoor
