/- The walk of the law Gf2Squares. -/
import Derived.Test.YtfgpaffdaeiloaaGfU
namespace Go.Proofs.Ytfgpaffdaeiloaa
set_option maxRecDepth 100000
open Go Go.RowKit
set_option linter.unusedVariables false
set_option linter.unusedSimpArgs false

set_option maxHeartbeats 1000000 in
theorem gf2Squares_walk (a0 a1 n : Int) (w : World) (w0 : (Lit.int .u64 a0).wf = true) (w1 : (Lit.int .u64 a1).wf = true) (w2 : (Lit.int .i64 n).wf = true) :
    Calls Try.prog 5 #[.int .u64 a0, .int .u64 a1, .int .i64 n] w fun e w' => e = .returned (.bool true) ∧ Below w.heap.size w w' := by
  obtain ⟨b0, b1⟩ := bounds_u64 w0
  obtain ⟨b2, b3⟩ := bounds_u64 w1
  clear w0 w1 w2
  obtain ⟨a, rfl⟩ := Int.eq_ofNat_of_zero_le b0
  obtain ⟨m, rfl⟩ := Int.eq_ofNat_of_zero_le b2
  have ha : a < 18446744073709551616 := by omega
  have hm : m < 18446744073709551616 := by omega
  clear b0 b1 b2 b3
  have AW := Lib.hid awake12_any
  by_cases hbad : m = 0 ∨ n < 0 ∨ 64 < n
  · by_cases h0 : m = 0
    · subst h0
      have M1 : Hid (∀ w : World, Calls Try.prog 20 #[.int .u64 a, .int .u64 0, .int .i64 n] w fun e w' => e = .returned (.tuple #[.int .u64 0, .int .i64 6]) ∧ w = w') := fun w => square_bad a 0 n w hbad
      clear hbad
      go_enter Try.func5, Try.ntmps5
      go_wp2_with (first
        | (go_at_call 20; refine (M1.out _).mono ?_; rintro e w' ⟨rfl, rfl⟩)
        | (go_at_call 16; refine (AW.out _).mono ?_; rintro e w' ⟨rfl, rfl⟩)
        | fail)
      go_ret
      exact ⟨rfl, Below.refl _ _⟩
    · have q0 : ((m : Int) == 0) = false := by simp; omega
      have M1 := Lib.hid (fun w => square_bad a m n w hbad)
      rcases (show n < 0 ∨ (¬ n < 0 ∧ 64 < n) by omega) with h2 | ⟨h2, h3⟩
      all_goals
        clear hbad h0
        go_enter Try.func5, Try.ntmps5
        go_wp2_with (first
          | (go_at_call 20; refine (M1.out _).mono ?_; rintro e w' ⟨rfl, rfl⟩)
          | (go_at_call 16; refine (AW.out _).mono ?_; rintro e w' ⟨rfl, rfl⟩)
          | fail)
        go_ret
        exact ⟨rfl, Below.refl _ _⟩
  · obtain ⟨k, rfl⟩ := Int.eq_ofNat_of_zero_le (show 0 ≤ n by omega)
    have hpos : 0 < m := by omega
    have hk : k ≤ 64 := by omega
    have M1 := Lib.hid (fun w => square_ok a m k w ha hm hpos hk)
    have M2 := Lib.hid (fun w => rsquare_any a m k w ha hm hpos hk)
    obtain ⟨V, hV⟩ : ∃ V, V = sqV a m k := ⟨_, rfl⟩
    rw [← hV] at M1 M2
    have q0 : ((m : Int) == 0) = false := by simp; omega
    clear hV hbad
    go_enter Try.func5, Try.ntmps5
    go_wp2_with (first
      | (go_at_call 20; refine (M1.out _).mono ?_; rintro e w' ⟨rfl, rfl⟩)
      | (go_at_call 21; refine (M2.out _).mono ?_; rintro e w2 ⟨rfl, hb2⟩)
      | (go_at_call 16; refine (AW.out _).mono ?_; rintro e w' ⟨rfl, rfl⟩)
      | fail)
    go_ret
    exact ⟨rfl, hb2⟩

end Go.Proofs.Ytfgpaffdaeiloaa
