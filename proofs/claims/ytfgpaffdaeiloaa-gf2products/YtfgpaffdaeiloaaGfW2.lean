/- The walk of the law Gf2Products. -/
import Derived.Test.YtfgpaffdaeiloaaGfU
namespace Go.Proofs.Ytfgpaffdaeiloaa
set_option maxRecDepth 100000
open Go Go.RowKit
set_option linter.unusedVariables false
set_option linter.unusedSimpArgs false

set_option maxHeartbeats 1000000 in
theorem gf2Products_walk (a0 a1 a2 : Int) (w : World) (w0 : (Lit.int .u64 a0).wf = true) (w1 : (Lit.int .u64 a1).wf = true) (w2 : (Lit.int .u64 a2).wf = true) :
    Calls Try.prog 4 #[.int .u64 a0, .int .u64 a1, .int .u64 a2] w fun e w' => e = .returned (.bool true) ∧ Below w.heap.size w w' := by
  obtain ⟨b0, b1⟩ := bounds_u64 w0
  obtain ⟨b2, b3⟩ := bounds_u64 w1
  obtain ⟨b4, b5⟩ := bounds_u64 w2
  clear w0 w1 w2
  obtain ⟨a, rfl⟩ := Int.eq_ofNat_of_zero_le b0
  obtain ⟨b, rfl⟩ := Int.eq_ofNat_of_zero_le b2
  obtain ⟨m, rfl⟩ := Int.eq_ofNat_of_zero_le b4
  have ha : a < 18446744073709551616 := by omega
  have hb : b < 18446744073709551616 := by omega
  have hm : m < 18446744073709551616 := by omega
  clear b0 b1 b2 b3 b4 b5
  have M1 := Lib.hid (mul_any a b m)
  have AW := Lib.hid awake12_any
  by_cases h0 : m = 0
  · subst h0
    rw [show mlV a b 0 = 0 from rfl, show mdE 0 = 6 from rfl] at M1
    have M2 : Hid (∀ (w : World), a < 18446744073709551616 → b < 18446744073709551616 → 0 < 18446744073709551616 → Calls Try.prog 18 #[.int .u64 a, .int .u64 b, .int .u64 0] w fun e w' => e = .returned (.tuple #[.int .u64 0, .int .i64 6]) ∧ w = w') := M1
    clear M1
    go_enter Try.func4, Try.ntmps4
    go_wp2_with (first
      | (go_at_call 18; refine (M2.out _ ha hb (by decide)).mono ?_; rintro e w' ⟨rfl, rfl⟩)
      | (go_at_call 16; refine (AW.out _).mono ?_; rintro e w' ⟨rfl, rfl⟩)
      | fail)
    go_ret
    exact ⟨rfl, Below.refl _ _⟩
  · have hpos : 0 < m := by omega
    have M2 := Lib.hid (rmul_any a b m)
    rw [mdE_pos hpos] at M1
    obtain ⟨V, hV⟩ : ∃ V, V = mlV a b m := ⟨_, rfl⟩
    rw [← hV] at M1 M2
    have q0 : ((m : Int) == 0) = false := by simp; omega
    clear hV h0
    go_enter Try.func4, Try.ntmps4
    go_wp2_with (first
      | (go_at_call 18; refine (M1.out _ ha hb hm).mono ?_; rintro e w' ⟨rfl, rfl⟩)
      | (go_at_call 19; refine (M2.out _ ha hb hm hpos).mono ?_; rintro e w2 ⟨rfl, hb2⟩)
      | (go_at_call 16; refine (AW.out _).mono ?_; rintro e w' ⟨rfl, rfl⟩)
      | fail)
    go_ret
    exact ⟨rfl, hb2⟩

end Go.Proofs.Ytfgpaffdaeiloaa
