/- The walk of the law Gf2Circle. -/
import Derived.Test.YtfgpaffdaeiloaaGfU
namespace Go.Proofs.Ytfgpaffdaeiloaa
set_option maxRecDepth 100000
open Go Go.RowKit
set_option linter.unusedVariables false
set_option linter.unusedSimpArgs false

set_option maxHeartbeats 1000000 in
theorem gf2Circle_walk (a0 : Int) (w : World) (w0 : (Lit.int .u64 a0).wf = true) :
    Calls Try.prog 12 #[.int .u64 a0] w fun e w' => e = .returned (.bool true) ∧ Below w.heap.size w w' := by
  obtain ⟨b0, b1⟩ := bounds_u64 w0
  clear w0
  obtain ⟨m, rfl⟩ := Int.eq_ofNat_of_zero_le b0
  have hm : m < 18446744073709551616 := by omega
  clear b0 b1
  have AW := Lib.hid awake12_any
  have M1 := Lib.hid (fun w => irr_any m w hm)
  by_cases hi : Irr m
  · rw [irrB_true hi] at M1
    have hpos : 0 < m := by have := hi.1; omega
    obtain ⟨d, hd, h63, hnb, he⟩ := mdV_deg (a := 2) hpos hm
    have HJ := Lib.hid hnb
    obtain ⟨V, hV⟩ : ∃ V, V = mdV 2 m := ⟨_, rfl⟩
    have HV := Lib.hid hV
    have HS : Hid (sqV 2 m d = V) := by
      unfold Hid
      rw [hV, sqV_md, he, he]
      exact (cg_iff hd).1 (fermat hi hd 2)
    have S1 := Lib.hid (fun w => square_ok 2 m d w (by decide) hm hpos (by omega))
    rw [HS.out] at S1
    have S2 := Lib.hid (fun w => mod_at 2 m V w (by decide) hm hpos HV.out)
    have S3 : Hid (∀ w : World, Calls Try.prog 20 #[.int .u64 2, .int .u64 m, .int .i64 d] w fun e w' => e = .returned (.tuple #[.int .u64 V, .int .i64 0]) ∧ w = w') := S1
    have S4 : Hid (∀ w : World, Calls Try.prog 13 #[.int .u64 2, .int .u64 m] w fun e w' => e = .returned (.tuple #[.int .u64 V, .int .i64 0]) ∧ w = w') := S2
    clear hd hnb he hV hi S1 S2
    go_enter Try.func12, Try.ntmps12
    go_wp2_with (first
      | (go_at_call 24; refine (M1.out _).mono ?_; rintro e w' ⟨rfl, rfl⟩)
      | (go_at_call 14; refine (degree_to m d _ hm HJ.out).mono ?_; rintro e w' ⟨rfl, rfl⟩)
      | (go_at_call 20; refine (S3.out _).mono ?_; rintro e w' ⟨rfl, rfl⟩)
      | (go_at_call 13; refine (S4.out _).mono ?_; rintro e w' ⟨rfl, rfl⟩)
      | (go_at_call 16; refine (AW.out _).mono ?_; rintro e w' ⟨rfl, rfl⟩)
      | fail)
    go_ret
    exact ⟨rfl, Below.refl _ _⟩
  · rw [irrB_false hi] at M1
    go_enter Try.func12, Try.ntmps12
    go_wp2_with (first
      | (go_at_call 24; refine (M1.out _).mono ?_; rintro e w' ⟨rfl, rfl⟩)
      | (go_at_call 16; refine (AW.out _).mono ?_; rintro e w' ⟨rfl, rfl⟩)
      | fail)
    go_ret
    exact ⟨rfl, Below.refl _ _⟩

end Go.Proofs.Ytfgpaffdaeiloaa
