/- The walk of the law WordStores. -/
import Derived.Test.YtppdegljifnfkaaWordC
import Derived.Deep.RegionWith
import Derived.Deep.RegionHeld3
namespace Go.Proofs.Ytppdegljifnfkaa
open Go.RowKit
set_option linter.unusedVariables false

set_option maxHeartbeats 1000000 in
theorem wordStores_walk (a0 a1 : Int) (a2 : Bool) (w : World) (w0 : (Lit.int .u32 a0).wf = true) (w1 : (Lit.int .u64 a1).wf = true) :
    Calls Try.prog 4 #[.int .u32 a0, .int .u64 a1, .bool a2] w fun e w' => e = .returned (.bool true) ∧ Below w.heap.size w w' := by
  obtain ⟨b0, b1⟩ := bounds_u32 w0
  obtain ⟨b2, b3⟩ := bounds_u64 w1
  clear w0 w1
  obtain ⟨x, rfl⟩ := Int.eq_ofNat_of_zero_le b0
  obtain ⟨y, rfl⟩ := Int.eq_ofNat_of_zero_le b2
  have hx : x < 4294967296 := by omega
  have HY : Hid (y < 18446744073709551616) := (by omega : y < 18446744073709551616)
  clear b0 b1 b2 b3
  go_enter Try.func4, Try.ntmps4
  go_wp2
  go_region_with (first
    | (go_at_call 16; refine (store_any x a2 _).mono ?_; rintro e w1 ⟨A1, c1, rfl, h1⟩; have q1 := u8_str h1.sl c1)
    | (go_at_call 17; refine (rstore_any x a2 _ hx).mono ?_; rintro e w2 ⟨A2, c2, rfl, h2⟩; have q2 := u8_str h2.sl c2; have q12 := u8_str (h1.sl.below h2.below) c1)
    | (go_at_call 18; refine (tell_any y _).mono ?_; rintro e w3 ⟨A3, c3, rfl, h3⟩; have q3 := u8_str h3.sl c3)
    | (go_at_call 19; refine (told_any y 8 _ HY.out (by omega)).mono ?_; rintro e w4 ⟨A4, c4, rfl, h4⟩; have q4 := u8_str h4.sl c4; have q34 := u8_str (h3.sl.below h4.below) c3)
    | (go_at_call 15; refine (awake_any _).mono ?_; rintro e w5 ⟨rfl, h5⟩))
  all_goals go_wp2
  all_goals go_ret
  all_goals exact ⟨rfl, next (next (next (next (next (Below.refl _ w).drew h1.below) h2.below) h3.below) h4.below) h5⟩
end Go.Proofs.Ytppdegljifnfkaa
