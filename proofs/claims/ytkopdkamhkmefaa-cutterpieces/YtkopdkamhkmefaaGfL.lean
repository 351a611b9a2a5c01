/- Len64 of the library by a contract. -/
import Derived.Test.YtkopdkamhkmefaaRows
import Derived.Lib.Strings
import Derived.Lib.Slices
import Derived.Lib.Small
import Derived.Lib.Walk
import Derived.Lib.BitFns
namespace Go.Proofs.Ytkopdkamhkmefaa
set_option maxRecDepth 100000
set_option linter.unusedVariables false

theorem bl_tab (k : Nat) (x z : Int) (y : Nat) (hy : y = x.toNat) (hz : z.toNat = y / 2 ^ k) (h0 : 0 ≤ z) (h1 : z ≤ 255) (h : 2 ^ k ≤ y) (hx : y < 18446744073709551616) : Lib.len8 z + (k : Int) = (Lib.bitLen y : Nat) ∧ 0 ≤ Lib.len8 z ∧ Lib.len8 z ≤ 8 := by
  have e := Lib.len8_of z h0 h1
  have l := Lib.bitLen_le8' z h0 h1
  rw [Lib.bitLen_shift k y h hx, ← hz, e]
  omega
theorem bl_tab0 (z : Int) (h0 : 0 ≤ z) (h1 : z ≤ 255) : Lib.len8 z = (Lib.bitLen z.toNat : Nat) ∧ 0 ≤ Lib.len8 z ∧ Lib.len8 z ≤ 8 := by
  have e := Lib.len8_of z h0 h1
  have l := Lib.bitLen_le8' z h0 h1
  rw [e]
  omega

set_option maxHeartbeats 4000000 in
set_option maxRecDepth 100000 in
theorem len64_int (x : Int) (w : World) (h0 : 0 ≤ x) (h1 : x ≤ 18446744073709551615) :
    Calls Try.prog 32 #[.int .u64 x] w fun e w' => e = .returned (.int .i64 (Lib.bitLen x.toNat : Nat)) ∧ w' = w := by
  go_enter Try.func32, Try.ntmps32
  go_wp2
  all_goals (go_ret; refine ⟨congrArg Ending.returned (congrArg (Value.int IntKind.i64) ?_), rfl⟩)
  all_goals first
    | (have e := bl_tab 56 x (x / 4294967296 / 65536 / 256 % 256) _ rfl (by omega) (by omega) (by omega) (by omega) (by omega); omega)
    | (have e := bl_tab 48 x (x / 4294967296 / 65536 % 256) _ rfl (by omega) (by omega) (by omega) (by omega) (by omega); omega)
    | (have e := bl_tab 40 x (x / 4294967296 / 256 % 256) _ rfl (by omega) (by omega) (by omega) (by omega) (by omega); omega)
    | (have e := bl_tab 32 x (x / 4294967296 % 256) _ rfl (by omega) (by omega) (by omega) (by omega) (by omega); omega)
    | (have e := bl_tab 24 x (x / 65536 / 256 % 256) _ rfl (by omega) (by omega) (by omega) (by omega) (by omega); omega)
    | (have e := bl_tab 16 x (x / 65536 % 256) _ rfl (by omega) (by omega) (by omega) (by omega) (by omega); omega)
    | (have e := bl_tab 8 x (x / 256 % 256) _ rfl (by omega) (by omega) (by omega) (by omega) (by omega); omega)
    | (have e := bl_tab 0 x (x % 256) _ rfl (by simp; omega) (by omega) (by omega) (by simp; omega) (by omega); omega)
    | (have e := bl_tab0 (x % 256) (by omega) (by omega); rw [show (x % 256).toNat = x.toNat by omega] at e; omega)

end Go.Proofs.Ytkopdkamhkmefaa
