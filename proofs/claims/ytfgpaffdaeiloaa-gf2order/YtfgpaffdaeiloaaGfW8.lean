/- The walk of the law Gf2Order. -/
import Derived.Test.YtfgpaffdaeiloaaGfU
namespace Go.Proofs.Ytfgpaffdaeiloaa
set_option maxRecDepth 100000
open Go Go.RowKit
set_option linter.unusedVariables false
set_option linter.unusedSimpArgs false

set_option maxHeartbeats 2000000 in
theorem gf2Order_walk (a0 a1 a2 a3 : Int) (w : World) (w0 : (Lit.int .u64 a0).wf = true) (w1 : (Lit.int .u64 a1).wf = true) (w2 : (Lit.int .u64 a2).wf = true) (w3 : (Lit.int .u64 a3).wf = true) :
    Calls Try.prog 10 #[.int .u64 a0, .int .u64 a1, .int .u64 a2, .int .u64 a3] w fun e w' => e = .returned (.bool true) ∧ Below w.heap.size w w' := by
  obtain ⟨b0, b1⟩ := bounds_u64 w0
  obtain ⟨b2, b3⟩ := bounds_u64 w1
  obtain ⟨b4, b5⟩ := bounds_u64 w2
  obtain ⟨b6, b7⟩ := bounds_u64 w3
  clear w0 w1 w2 w3
  obtain ⟨a, rfl⟩ := Int.eq_ofNat_of_zero_le b0
  obtain ⟨b, rfl⟩ := Int.eq_ofNat_of_zero_le b2
  obtain ⟨c, rfl⟩ := Int.eq_ofNat_of_zero_le b4
  obtain ⟨m, rfl⟩ := Int.eq_ofNat_of_zero_le b6
  have ha : a < 18446744073709551616 := by omega
  have hb : b < 18446744073709551616 := by omega
  have hc : c < 18446744073709551616 := by omega
  have hm : m < 18446744073709551616 := by omega
  clear b0 b1 b2 b3 b4 b5 b6 b7
  have AW := Lib.hid awake12_any
  by_cases h0 : m = 0
  · subst h0
    go_enter Try.func10, Try.ntmps10
    go_wp2_with (first
      | (go_at_call 16; refine (AW.out _).mono ?_; rintro e w' ⟨rfl, rfl⟩)
      | fail)
    go_ret
    exact ⟨rfl, Below.refl _ _⟩
  · have hpos : 0 < m := by omega
    have q0 : ((m : Int) == 0) = false := by simp; omega
    obtain ⟨d, hd, _, _, he⟩ := mdV_deg (a := a) hpos hm
    obtain ⟨P, hP⟩ : ∃ P, P = mlV a b m := ⟨_, rfl⟩
    obtain ⟨R, hR⟩ : ∃ R, R = mlV b c m := ⟨_, rfl⟩
    obtain ⟨X, hX⟩ : ∃ X, X = mlV P c m := ⟨_, rfl⟩
    obtain ⟨T, hT⟩ : ∃ T, T = mlV a c m := ⟨_, rfl⟩
    obtain ⟨V, hV⟩ : ∃ V, V = mdV a m := ⟨_, rfl⟩
    obtain ⟨W, hW⟩ : ∃ W, W = mdV b m := ⟨_, rfl⟩
    obtain ⟨bc, hbc⟩ : ∃ x, x = b ^^^ c := ⟨_, rfl⟩
    obtain ⟨ab, hab⟩ : ∃ x, x = a ^^^ b := ⟨_, rfl⟩
    obtain ⟨S, hS⟩ : ∃ x, x = P ^^^ T := ⟨_, rfl⟩
    obtain ⟨U, hU⟩ : ∃ x, x = V ^^^ W := ⟨_, rfl⟩
    have HQ : Hid (P = mlV b a m) := by unfold Hid; rw [hP, mlV_md, mlV_md, pm_comm]
    have HY : Hid (X = mlV a R m) := by
      unfold Hid
      rw [hX, hP, hR, mlV_md, mlV_md, mlV_md, mlV_md, he, he, he, he, mul_left_pr hd, mul_right_pr hd, pm_assoc]
    have HS : Hid (S = mlV a bc m) := by
      unfold Hid
      rw [hS, hP, hT, hbc, mlV_md, mlV_md, mlV_md, he, he, he, pm_xor, pr_xor hd]
    have HU : Hid (U = mdV ab m) := by
      unfold Hid
      rw [hU, hV, hW, hab, he, he, he, pr_xor hd]
    have hPl : P < 18446744073709551616 := by rw [hP]; exact mlV_lt _ _ hm
    have hRl : R < 18446744073709551616 := by rw [hR]; exact mlV_lt _ _ hm
    have hTl : T < 18446744073709551616 := by rw [hT]; exact mlV_lt _ _ hm
    have hVl : V < 18446744073709551616 := by rw [hV]; exact mdV_lt _ hm
    have hWl : W < 18446744073709551616 := by rw [hW]; exact mdV_lt _ hm
    have hbcl : bc < 18446744073709551616 := by rw [hbc]; exact Nat.xor_lt_two_pow (n := 64) hb hc
    have habl : ab < 18446744073709551616 := by rw [hab]; exact Nat.xor_lt_two_pow (n := 64) ha hb
    have ebc : bits BinOp.xor IntKind.u64 (b : Int) (c : Int) = (bc : Int) := by rw [hbc]; exact u64_xor_nat _ _ hb hc
    have eab : bits BinOp.xor IntKind.u64 (a : Int) (b : Int) = (ab : Int) := by rw [hab]; exact u64_xor_nat _ _ ha hb
    have eS : bits BinOp.xor IntKind.u64 (P : Int) (T : Int) = (S : Int) := by rw [hS]; exact u64_xor_nat _ _ hPl hTl
    have eU : bits BinOp.xor IntKind.u64 (V : Int) (W : Int) = (U : Int) := by rw [hU]; exact u64_xor_nat _ _ hVl hWl
    have HP := Lib.hid hP
    have HR := Lib.hid hR
    have HX := Lib.hid hX
    have HT := Lib.hid hT
    have HV := Lib.hid hV
    have HW := Lib.hid hW
    clear hP hR hX hT hV hW hbc hab hS hU hd he h0
    go_enter Try.func10, Try.ntmps10
    go_wp2_with fail
    refine (mul_to a b m P _ ha hb hm hpos HP.out).mono ?_
    rintro e w1 ⟨rfl, rfl⟩
    go_wp2_with fail
    refine (mul_to b a m P _ hb ha hm hpos HQ.out).mono ?_
    rintro e w1 ⟨rfl, rfl⟩
    go_wp2_with fail
    refine (mul_to b c m R _ hb hc hm hpos HR.out).mono ?_
    rintro e w1 ⟨rfl, rfl⟩
    go_wp2_with fail
    refine (mul_to P c m X _ hPl hc hm hpos HX.out).mono ?_
    rintro e w1 ⟨rfl, rfl⟩
    go_wp2_with fail
    refine (mul_to a R m X _ ha hRl hm hpos HY.out).mono ?_
    rintro e w1 ⟨rfl, rfl⟩
    go_wp2_with fail
    refine (mul_to a bc m S _ ha hbcl hm hpos HS.out).mono ?_
    rintro e w1 ⟨rfl, rfl⟩
    go_wp2_with fail
    refine (mul_to a c m T _ ha hc hm hpos HT.out).mono ?_
    rintro e w1 ⟨rfl, rfl⟩
    go_wp2_with fail
    refine (mod_at ab m U _ habl hm hpos HU.out).mono ?_
    rintro e w1 ⟨rfl, rfl⟩
    go_wp2_with fail
    refine (mod_at a m V _ ha hm hpos HV.out).mono ?_
    rintro e w1 ⟨rfl, rfl⟩
    go_wp2_with fail
    refine (mod_at b m W _ hb hm hpos HW.out).mono ?_
    rintro e w1 ⟨rfl, rfl⟩
    go_wp2_with (first
      | (go_at_call 16; refine (AW.out _).mono ?_; rintro e w' ⟨rfl, rfl⟩)
      | fail)
    go_ret
    exact ⟨rfl, Below.refl _ _⟩

end Go.Proofs.Ytfgpaffdaeiloaa
