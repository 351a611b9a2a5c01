/- A Roll that lies in a Cutter: Push and Reset. -/
import Derived.Test.YtkopdkamhkmefaaRolC
import Derived.Test.YtkopdkamhkmefaaCutK
namespace Go.Proofs.Ytkopdkamhkmefaa
set_option maxRecDepth 100000
open Go Go.RowKit
set_option linter.unusedVariables false
set_option linter.unusedSimpArgs false

/-- A Cutter's cells: the cut, its Roll, how many bytes the open chunk has. -/
def ckc (p k mn mx d : Nat) (x : List UInt8) (v o : Nat) : List Value := .int .u64 (p : Int) :: .int .u64 (k : Int) :: .int .i64 (mn : Int) :: .int .i64 (mx : Int) :: (rlc p d x v ++ [.int .i64 (o : Int)])
theorem ckc_0 (p k mn mx d : Nat) (x : List UInt8) (v o : Nat) : (ckc p k mn mx d x v o)[0]? = some (.int .u64 (p : Int)) := rfl
theorem ckc_1 (p k mn mx d : Nat) (x : List UInt8) (v o : Nat) : (ckc p k mn mx d x v o)[1]? = some (.int .u64 (k : Int)) := rfl
theorem ckc_2 (p k mn mx d : Nat) (x : List UInt8) (v o : Nat) : (ckc p k mn mx d x v o)[2]? = some (.int .i64 (mn : Int)) := rfl
theorem ckc_3 (p k mn mx d : Nat) (x : List UInt8) (v o : Nat) : (ckc p k mn mx d x v o)[3]? = some (.int .i64 (mx : Int)) := rfl
theorem ckc_m (p k mn mx d : Nat) (x : List UInt8) (v o : Nat) : (ckc p k mn mx d x v o)[4]? = some (.int .u64 (p : Int)) := rfl
theorem ckc_gone (p k mn mx d : Nat) (x : List UInt8) (v o : Nat) : (ckc p k mn mx d x v o)[5]? = some (.int .u64 (pr p d (2 ^ 128) : Nat)) := rfl
section
variable {p k mn mx d v o : Nat} {x : List UInt8} (h : x.length = 16)
include h
theorem ckc_len : (ckc p k mn mx d x v o).length = 24 := by unfold ckc; simp [rlc_len h]
theorem ckc_old : (ckc p k mn mx d x v o)[6]? = some (.int .u8 ((x.headD 0).toNat : Nat)) := by
  obtain ⟨a, b, c, d, e, f, g, i, j, k, l, n, o, p, q, r, rfl⟩ := six x h
  rfl
theorem ckc_v : (ckc p k mn mx d x v o)[22]? = some (.int .u64 (v : Nat)) := by
  obtain ⟨a, b, c, d, e, f, g, i, j, k, l, n, o, p, q, r, rfl⟩ := six x h
  rfl
theorem ckc_o : (ckc p k mn mx d x v o)[23]? = some (.int .i64 (o : Nat)) := by
  obtain ⟨a, b, c, d, e, f, g, i, j, k, l, n, o, p, q, r, rfl⟩ := six x h
  rfl
theorem ckc_setv (u : Nat) : (ckc p k mn mx d x v o).set 22 (.int .u64 (u : Nat)) = ckc p k mn mx d x u o := by
  obtain ⟨a, b, c, d, e, f, g, i, j, k, l, n, o, p, q, r, rfl⟩ := six x h
  rfl
theorem ckc_seto (u : Nat) : (ckc p k mn mx d x v o).set 23 (.int .i64 (u : Nat)) = ckc p k mn mx d x v u := by
  obtain ⟨a, b, c, d, e, f, g, i, j, k, l, n, o, p, q, r, rfl⟩ := six x h
  rfl
theorem ckc_tail : ((ckc p k mn mx d x v o).drop 7).take 15 = cb x.tail := by
  obtain ⟨a, b, c, d, e, f, g, i, j, k, l, n, o, p, q, r, rfl⟩ := six x h
  rfl
theorem ckc_17 : (splice (ckc p k mn mx d x v o) 6 (cb x.tail))[21]? = some (.int .u8 ((x.getD 15 0).toNat : Nat)) := by
  obtain ⟨a, b, c, d, e, f, g, i, j, k, l, n, o, p, q, r, rfl⟩ := six x h
  rfl
theorem ckc_move (y : UInt8) : (splice (ckc p k mn mx d x v o) 6 (cb x.tail)).set 21 (.int .u8 (y.toNat : Nat)) = ckc p k mn mx d (x.tail ++ [y]) v o := by
  obtain ⟨a, b, c, d, e, f, g, i, j, k, l, n, o, p, q, r, rfl⟩ := six x h
  rfl
theorem ckc_over {z : List UInt8} (u : Nat) (hz : z.length = 16) : splice (ckc p k mn mx d x v o) 4 (rlc p d z u) = ckc p k mn mx d z u o := by
  obtain ⟨a, b, c, d, e, f, g, i, j, k, l, n, o, p, q, r, rfl⟩ := six x h
  obtain ⟨a, b, c, d, e, f, g, i, j, k, l, n, o, p, q, r, rfl⟩ := six z hz
  rfl
end

set_option maxRecDepth 100000 in
set_option maxHeartbeats 2000000 in
theorem rolpush_in (g m k mn mx d o : Nat) (l : List UInt8) (b : UInt8) (w : World) (hbl : Bl w g (ckc m k mn mx d (winW l) (fpr m d l) o) 58) (hd : Deg m d) (h53 : d ≤ 53) :
    Calls Try.prog 30 #[.pointer (some ⟨g, 4, none⟩), .int .u8 (b.toNat : Int)] w fun e w' => e = .returned (.int .u64 (fpr m d (l ++ [b]) : Nat)) ∧ Bl w' g (ckc m k mn mx d (winW (l ++ [b])) (fpr m d (l ++ [b])) o) 58 ∧ w.grownBy w' (some g) := by
  have HM64 := Lib.hid (deg_lt64 hd h53)
  have HP2 := Lib.hid (fpr_push2 hd l b)
  have HWP := Lib.hid (winW_push l b)
  have HD := Lib.hid hd
  have hwl := winW_len l
  have hb8 := b.toNat_lt
  obtain ⟨x, hx⟩ : ∃ x, x = winW l := ⟨_, rfl⟩
  obtain ⟨F, hF⟩ : ∃ F, F = fpr m d l := ⟨_, rfl⟩
  have HFL : Hid (F < 2 ^ d) := by unfold Hid; rw [hF]; exact pr_lt hd _
  obtain ⟨N, hN⟩ : ∃ N, N = fpr m d (l ++ [b]) := ⟨_, rfl⟩
  have HN := Lib.hid hN
  rw [← hx, ← hF] at hbl
  rw [← hx] at hwl
  rw [← hF, ← hx, ← hN] at HP2
  rw [← hx] at HWP
  rw [← hN]
  clear hx hF hN hd
  have c0 : w.cell? ⟨g, 4, none⟩ = some (.int .u64 (m : Nat)) := by rw [hbl.cell, ckc_m]
  have c1 : w.cell? ⟨g, 5, none⟩ = some (.int .u64 (pr m d (2 ^ 128) : Nat)) := by rw [hbl.cell, ckc_gone]
  have c2 : w.cell? ⟨g, 6, none⟩ = some (.int .u8 ((x.headD 0).toNat : Nat)) := by rw [hbl.cell, ckc_old hwl]
  have c18 : w.cell? ⟨g, 22, none⟩ = some (.int .u64 (F : Nat)) := by rw [hbl.cell, ckc_v hwl]
  have f18 := hbl.frozen 22
  obtain ⟨o1, ho⟩ : ∃ o1, o1 = (x.headD 0).toNat := ⟨_, rfl⟩
  have ho8 : o1 < 256 := by rw [ho]; exact (x.headD 0).toNat_lt
  rw [← ho] at c2 HP2
  obtain ⟨G, hG⟩ : ∃ G, G = pr m d (2 ^ 128) := ⟨_, rfl⟩
  have hGl : G < 9007199254740992 := by rw [hG]; exact pr_lt53 HD.out h53 _
  rw [← hG] at c1 HP2
  obtain ⟨P, hP⟩ : ∃ P, P = pr m d (pm G o1) := ⟨_, rfl⟩
  have hPl : P < 9007199254740992 := by rw [hP]; exact pr_lt53 HD.out h53 _
  rw [← hP] at HP2
  have HPM : Hid (P = mlV G o1 m) := by unfold Hid; rw [hP, mlV_eq HD.out HM64.out]
  obtain ⟨S, hS⟩ : ∃ S, S = pr m d (F * 256 + b.toNat) := ⟨_, rfl⟩
  have hSl : S < 9007199254740992 := by rw [hS]; exact pr_lt53 HD.out h53 _
  rw [← hS] at HP2
  have HS := Lib.hid hS
  have HWL := Lib.hid hwl
  have HBL := Lib.hid hbl
  have HE := Lib.hid (mdE_pos HD.out.pos)
  have HBX : Hid (bits BinOp.xor IntKind.u64 (S : Int) (P : Int) = (N : Int)) := by unfold Hid; rw [← HP2.out]; exact u64_xor_nat _ _ (by omega) (by omega)
  clear ho hG hP hS hwl hbl
  go_enter Try.func30, Try.ntmps30
  go_wp2
  go_quiet ((go_at_call 37; exact Calls.quiet_of_same (still_of (mul_any G o1 m _ (by omega) (by omega) HM64.out))))
  rw [← HPM.out]
  clear c0 c1 c2 c18 f18
  obtain ⟨W1, hW1⟩ : ∃ W, W = w.drewN nq := ⟨_, rfl⟩
  have hbl1 : Bl W1 g (ckc m k mn mx d x F o) 58 := by rw [hW1]; exact HBL.out.drewN nq
  have hg1 : w.grownBy W1 (some g) := by rw [hW1]; exact but_drewN (but_refl w g) nq
  rw [← hW1]
  clear hW1
  have c0 : W1.drew.cell? ⟨g, 4, none⟩ = some (.int .u64 (m : Nat)) := by rw [hbl1.drew.cell, ckc_m]
  have c18 : W1.drew.cell? ⟨g, 22, none⟩ = some (.int .u64 (F : Nat)) := by rw [hbl1.drew.cell, ckc_v HWL.out]
  have f18 := hbl1.drew.frozen 22
  have HB1 := Lib.hid hbl1
  have HG1 := Lib.hid hg1
  clear hbl1 hg1
  go_wp2
  go_still_tail 15, (by kernel_rfl)
  still_call (still_of (shifted_any F b.toNat m d _ HFL.out (by omega) HD.out h53))
  rw [← HS.out]
  repeat still_step
  refine wpStill_nil ?_
  rw [HBX.out]
  go_wp2
  clear c0 c18 f18
  obtain ⟨W2, hW2⟩ : ∃ W, W = (W1.setCell ⟨g, 22, none⟩ (.int .u64 (N : Nat))).drew := ⟨_, rfl⟩
  have hbl2 : Bl W2 g (ckc m k mn mx d x N o) 58 := by
    have h1 := HB1.out.set 22 (.int .u64 (N : Nat))
    rw [ckc_setv HWL.out] at h1
    rw [hW2]
    exact h1.drew
  have hg2 : w.grownBy W2 (some g) := by rw [hW2]; exact but_drewN (but_setCell HG1.out 22 _) 1
  rw [← hW2]
  have HG2 := Lib.hid hg2
  clear hW2 hg2
  have hsl : Sl W2.drew (g + 1) (some ⟨g, 7, none⟩) 15 (cb x.tail) := hbl2.drew.sl (ckc_tail HWL.out).symm (by rw [ckc_len HWL.out]; decide)
  obtain ⟨w3, hcp, hbl3, hg3⟩ := run_copy_but (P := Try.prog) W2.drew 25 25 3 5 Try.underlying25 u8_size g 6 16 16 _ _ 15 15 (cb x.tail) hsl _ _ hbl2.drew (by rw [ckc_len HWL.out]; decide) (cb_one _)
  have htl : (cb x.tail).length = 15 := by rw [cb_len, List.length_tail, HWL.out]
  rw [List.take_of_length_le (by omega)] at hbl3
  have f17 := hbl3.frozen 21
  have hbl4 := hbl3.set 21 (.int .u8 (b.toNat : Nat))
  rw [ckc_move HWL.out, ← HWP.out] at hbl4
  have hg4 : w.grownBy (w3.setCell ⟨g, 21, none⟩ (.int .u8 (b.toNat : Nat))) (some g) := but_setCell (but_trans (but_drewN HG2.out 1) hg3) 21 _
  have c17 : w3.cell? ⟨g, 21, none⟩ = some (.int .u8 ((x.getD 15 0).toNat : Nat)) := by rw [hbl3.cell, ckc_17 HWL.out]
  have c18 : (w3.setCell ⟨g, 21, none⟩ (.int .u8 (b.toNat : Nat))).cell? ⟨g, 22, none⟩ = some (.int .u64 (N : Nat)) := by rw [hbl4.cell, ckc_v (winW_len _)]
  have HB4 := Lib.hid hbl4
  have HG4 := Lib.hid hg4
  have HCP := Lib.hid hcp
  clear hbl2 hbl3 hbl4 hg3 hg4 hcp hsl htl
  go_still_tail 8, (by kernel_rfl)
  change wpList _ _ _ _ _ W2.drew
  go_wp2_with fail
  rw [HCP.out]
  go_wp2
  go_ret
  exact ⟨rfl, HB4.out, HG4.out⟩

set_option maxHeartbeats 1000000 in
theorem rolreset_in (g m k mn mx d o : Nat) (l : List UInt8) (w : World) (hbl : Bl w g (ckc m k mn mx d (winW l) (fpr m d l) o) 58) :
    Calls Try.prog 31 #[.pointer (some ⟨g, 4, none⟩)] w fun e w' => e = .returned (.tuple #[]) ∧ Bl w' g (ckc m k mn mx d (winW []) (fpr m d []) o) 58 ∧ w.grownBy w' (some g) := by
  have hwl := winW_len l
  obtain ⟨C, hC⟩ : ∃ C, C = ckc m k mn mx d (winW l) (fpr m d l) o := ⟨_, rfl⟩
  have hCl : C.length = 24 := by rw [hC, ckc_len hwl]
  have c0 : w.drew.cell? ⟨g, 4, none⟩ = some (.int .u64 (m : Nat)) := by rw [hbl.drew.cell, ckc_m]
  have c1 : w.drew.cell? ⟨g, 5, none⟩ = some (.int .u64 (pr m d (2 ^ 128) : Nat)) := by rw [hbl.drew.cell, ckc_gone]
  rw [← hC] at hbl
  obtain ⟨G, hG⟩ : ∃ G, G = pr m d (2 ^ 128) := ⟨_, rfl⟩
  have HZ : Hid (splice C 4 (rl0 (m : Nat) (G : Nat)) = ckc m k mn mx d (winW []) (fpr m d []) o) := by
    unfold Hid
    rw [hC, rl0_eq, hG, rlc_new, ckc_over hwl _ (winW_len [])]
  rw [← hG] at c1
  have HCL := Lib.hid hCl
  have HB := Lib.hid hbl
  clear hC hG hCl hbl hwl
  go_enter Try.func31, Try.ntmps31
  go_wp2
  go_still_tail 11, (by kernel_rfl)
  change wpList _ _ _ _ _ w.drew
  refine wpList_store_mid rfl 56 _ _ rfl _ _ (rl0 (m : Nat) (G : Nat)).toArray rfl rfl (Bl.there_ HB.out.drew (by rw [HCL.out, List.size_toArray, rl0_len]; decide)) (by rw [size_roll, List.size_toArray, rl0_len]) (all_oneCell_toArray (rl0_one _ _)) ?_
  obtain ⟨Z, hZ⟩ : ∃ Z, Z = rl0 (m : Nat) (G : Nat) := ⟨_, rfl⟩
  have hZl : Z.length = 19 := by rw [hZ, rl0_len]
  have hb2 := Bl.sets g 58 Z 4 w.drew C HB.out.drew (by rw [HCL.out, hZl]; decide)
  have hg2 : w.grownBy (w.drew.setCells g 4 Z) (some g) := but_setCells (but_drewN (but_refl w g) 1) 4 _
  change wpList _ _ _ _ _ (w.drew.setCells g 4 (rl0 (m : Nat) (G : Nat)))
  rw [← hZ] at HZ
  rw [← hZ]
  obtain ⟨W, hW⟩ : ∃ W, W = w.drew.setCells g 4 Z := ⟨_, rfl⟩
  rw [← hW] at hb2 hg2 ⊢
  rw [HZ.out] at hb2
  clear hW hZ hZl HZ HCL c0 c1
  go_wp2
  exact bodyPost_end (results_none rfl _ _ _) rfl ⟨rfl, hb2, hg2⟩

end Go.Proofs.Ytkopdkamhkmefaa
