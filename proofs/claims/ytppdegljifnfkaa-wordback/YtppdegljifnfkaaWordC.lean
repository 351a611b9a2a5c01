/- The walks of the laws of layer 1. -/
import Derived.Test.YtppdegljifnfkaaWordD
import Derived.Test.YtppdegljifnfkaaLift
namespace Go.Proofs.Ytppdegljifnfkaa
open Go.RowKit
set_option linter.unusedVariables false

theorem wordChooses_walk (a0 a1 a2 : Int) (w : World) (w0 : (Lit.int .u32 a0).wf = true) (w1 : (Lit.int .u32 a1).wf = true) (w2 : (Lit.int .u32 a2).wf = true) :
    Calls Try.prog 6 #[.int .u32 a0, .int .u32 a1, .int .u32 a2] w fun e w' => e = .returned (.bool true) ∧ Below w.heap.size w w' := by
  obtain ⟨b0, b1⟩ := bounds_u32 w0
  obtain ⟨b2, b3⟩ := bounds_u32 w1
  obtain ⟨b4, b5⟩ := bounds_u32 w2
  clear w0 w1 w2
  go_enter Try.func6, Try.ntmps6
  go_wp2_with (first
    | (go_at_call 22; refine (choose_any _ _ _ _ b0 (by omega) b2 (by omega) b4 (by omega)).mono ?_; rintro e w' ⟨rfl, rfl⟩)
    | (go_at_call 23; refine (rchoose_any _ _ _ _).mono ?_; rintro e w' ⟨rfl, rfl⟩)
    | (go_at_call 15; refine (awake_any _).mono ?_; rintro e w' ⟨rfl, hb⟩))
  go_ret
  exact ⟨rfl, hb⟩

theorem wordTurns_walk (a0 a1 : Int) (w : World) (w0 : (Lit.int .u32 a0).wf = true) (w1 : (Lit.int .i64 a1).wf = true) :
    Calls Try.prog 5 #[.int .u32 a0, .int .i64 a1] w fun e w' => e = .returned (.bool true) ∧ Below w.heap.size w w' := by
  obtain ⟨b0, b1⟩ := bounds_u32 w0
  clear w0 w1
  obtain ⟨x, rfl⟩ := Int.eq_ofNat_of_zero_le b0
  go_enter Try.func5, Try.ntmps5
  go_wp2_with (first
    | (go_at_call 20; refine (turn_any x _ _ (by omega)).mono ?_; rintro e w' ⟨rfl, rfl⟩)
    | (go_at_call 21; refine (rturn_any x _ _ (by omega)).mono ?_; rintro e w' ⟨rfl, rfl⟩)
    | (go_at_call 15; refine (awake_any _).mono ?_; rintro e w' ⟨rfl, hb⟩))
  go_ret
  exact ⟨rfl, hb⟩

theorem u8_str {w : World} {B n : Nat} {A : Option Addr} {l : List UInt8} (h : Sl w B A n (cb l)) (c : Nat) : (convert 22 9 (.slice A n c)).run Try.prog w = .ok (.string ⟨l.toArray⟩) w :=
  run_string_of_sl h _ _ _ c Try.underlying22 Try.underlying5 Try.underlying9

theorem str_same (a b : List UInt8) : (a == b) = sameB a b := by
  rw [Bool.eq_iff_iff]
  simp [sameB]
theorem same_self (a : List UInt8) : sameB a a = true := by simp [sameB]

set_option maxHeartbeats 400000 in
theorem wordLoads_walk (A0 : Option Addr) (n0 c0 : Nat) (l0 : List UInt8) (a1 : Bool) (w : World) (s0 : InBytes w A0 n0 c0 l0) :
    Calls Try.prog 3 #[.slice A0 n0 c0, .bool a1] w fun e w' => e = .returned (.bool true) ∧ Below w.heap.size w w' := by
  have hroom := s0.room
  have hcap := s0.cap
  have hsl := s0.sl
  have hno := s0.none_
  go_enter Try.func3, Try.ntmps3
  go_wp2_with fail
  refine (own_any l0 _ _ _ _ _ hsl hno (by omega) (Nat.le_refl _)).mono ?_
  rintro e w1 ⟨A1, c1, rfl, hnew⟩
  go_wp2_with fail
  refine (load_any l0 a1 _ _ _ _ _ hnew.sl (by unfold maxLen; omega)).mono ?_
  rintro e w2 ⟨rfl, hD⟩
  have hb2 : Below w.heap.size w w2 := hnew.below.trans (hD.below _)
  have hx2 : Sl w2 w2.heap.size A1 n0 (cb l0) := by obtain ⟨m, rfl⟩ := hD; exact hnew.sl
  have hs2 := hsl.below hb2
  go_wp2_with fail
  refine (rload_any l0 a1 _ _ _ _ _ hs2 (by unfold maxLen; omega) hb2.size).mono ?_
  rintro e w3 ⟨rfl, hb3⟩
  have hx3 := hx2.below hb3
  have hb3' := hb2.trans (hb3.mono hb2.size)
  have hs3 := hsl.below hb3'
  go_wp2_with fail
  refine (long_any l0 _ _ _ _ _ hx3 (by unfold maxLen; omega)).mono ?_
  rintro e w4 ⟨rfl, rfl⟩
  go_wp2_with fail
  refine (rlong_any l0 _ _ _ _ _ hs3 (by unfold maxLen; omega)).mono ?_
  rintro e w4 ⟨rfl, rfl⟩
  have hq1 := u8_str hx3 c1
  have hq2 := u8_str hs3 c0
  go_wp2_with fail
  refine (awake_any _).mono ?_
  rintro e w5 ⟨rfl, hb5⟩
  go_wp2
  go_ret
  exact ⟨rfl, hb3'.trans (hb5.mono hb3'.size)⟩

end Go.Proofs.Ytppdegljifnfkaa
