/- The walk of the law Gf2Finds. -/
import Derived.Test.YtfgpaffdaeiloaaGfU
namespace Go.Proofs.Ytfgpaffdaeiloaa
set_option maxRecDepth 100000
open Go Go.RowKit
set_option linter.unusedVariables false
set_option linter.unusedSimpArgs false

set_option maxHeartbeats 1000000 in
theorem gf2Finds_walk (a0 d : Int) (w : World) (w0 : (Lit.int .u64 a0).wf = true) (w1 : (Lit.int .i64 d).wf = true) :
    Calls Try.prog 8 #[.int .u64 a0, .int .i64 d] w fun e w' => e = .returned (.bool true) ∧ Below w.heap.size w w' := by
  obtain ⟨b0, b1⟩ := bounds_u64 w0
  clear w0 w1
  obtain ⟨a, rfl⟩ := Int.eq_ofNat_of_zero_le b0
  have ha : a < 18446744073709551616 := by omega
  clear b0 b1
  have AW := Lib.hid awake12_any
  rcases (show (14 < d ∧ d ≤ 53) ∨ (¬ 14 < d ∧ d < 2) ∨ (14 < d ∧ 53 < d) ∨ (¬ 14 < d ∧ 2 ≤ d) by omega) with ⟨h1, h2⟩ | ⟨h1, h2⟩ | ⟨h1, h2⟩ | ⟨h1, h2⟩
  · go_enter Try.func8, Try.ntmps8
    go_wp2_with (first
      | (go_at_call 16; refine (AW.out _).mono ?_; rintro e w' ⟨rfl, rfl⟩)
      | fail)
    go_ret
    exact ⟨rfl, Below.refl _ _⟩
  all_goals first
    | (have M1 := Lib.hid (fun w => find_bad a d w (by omega))
       have M2 := Lib.hid (fun w => rfind_bad a d w (by omega))
       go_enter Try.func8, Try.ntmps8
       go_wp2_with (first
         | (go_at_call 26; refine (M1.out _).mono ?_; rintro e w' ⟨rfl, rfl⟩)
         | (go_at_call 27; refine (M2.out _).mono ?_; rintro e w2 ⟨rfl, rfl⟩)
         | (go_at_call 16; refine (AW.out _).mono ?_; rintro e w' ⟨rfl, rfl⟩)
         | fail)
       go_ret
       exact ⟨rfl, Below.refl _ _⟩)
    | skip
  obtain ⟨k, rfl⟩ := Int.eq_ofNat_of_zero_le (show 0 ≤ d by omega)
  have M1 := Lib.hid (fun w => find_ok a k w ha (by omega) (by omega))
  have M2 := Lib.hid (fun w => rfind_ok a k w ha (by omega) (by omega))
  go_enter Try.func8, Try.ntmps8
  go_wp2_with (first
    | (go_at_call 26; refine (M1.out _).mono ?_; rintro e w' ⟨k1, m1, rfl, f1, rfl⟩; have F1 := Lib.hid f1; clear f1)
    | (go_at_call 27; refine (M2.out _).mono ?_; rintro e w2 ⟨k2, m2, rfl, f2, hb2⟩; have hmm := firstIrr_uniq F1.out f2; subst hmm; clear f2)
    | (go_at_call 16; refine (AW.out _).mono ?_; rintro e w' ⟨rfl, rfl⟩)
    | fail)
  go_ret
  exact ⟨rfl, hb2⟩

end Go.Proofs.Ytfgpaffdaeiloaa
