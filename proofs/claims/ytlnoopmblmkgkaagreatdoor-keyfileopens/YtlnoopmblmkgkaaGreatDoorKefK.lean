/- Layer 11, keyfile, the document's: Named, Head, Put. -/
import Derived.Test.YtlnoopmblmkgkaaGreatDoorKA
import Derived.Test.YtlnoopmblmkgkaaGreatDoorLW
import Derived.OrdersHeld
namespace Go.Proofs.YtlnoopmblmkgkaaGreatDoor
set_option maxRecDepth 100000
open Go Go.RowKit
set_option linter.unusedVariables false
set_option linter.unusedSimpArgs false

set_option maxHeartbeats 2000000 in
theorem named_any (A : Option Addr) (n c : Nat) (r nu : Int) (B : Option Addr) (m d : Nat) (N : Int) (w : World) (hn : n ≤ 9223372036854775807) :
    Calls Tryz.prog 21 #[.agg (fC A n c r nu B m d).toArray, .int .i64 N] w fun e w' => e = .returned (.bool (kfit n r nu N)) ∧ Below w.heap.size w w' := by
  obtain ⟨W, HW, b0, hb0, hsz⟩ := put_f w (fC A n c r nu B m d) 39
  obtain ⟨q0, q1, q2, q3⟩ := f_cells b0
  obtain ⟨R, hR⟩ : ∃ R, R = kfit n r nu N := ⟨_, rfl⟩
  rw [← hR]
  have HR0 := Lib.hid hR
  clear b0 hsz hR
  go_enter Tryz.func21, Tryz.ntmps21
  go_wp2_with (refine wpList_box_agg rfl 39 _ rfl (fC A n c r nu B m d) rfl ?_; rw [HW.out])
  go_loopw [5, 6] (fun s i wr => ∃ k : Nat, k ≤ 64 ∧ i = .int .i64 ((k : Int) + 1) ∧ s = .bool (sizeTo N k) ∧ W = wr) (fun _ i _ => 65 - (Go.RowKit.intOf i).toNat)
  case atStart => exact ⟨0, by omega, rfl, rfl, rfl⟩
  case round =>
    obtain ⟨k, hk, rfl, rfl, rfl⟩ := hrel
    obtain ⟨sb, hsb⟩ : ∃ sb, sb = sizeTo N k := ⟨_, rfl⟩
    by_cases hlt : k < 64
    · have HS : Hid (sizeTo N (k + 1) = (sb || decide (N = 16 + 33 * ((k : Int) + 1)))) := by unfold Hid; rw [sizeTo_succ, hsb]
      rw [← hsb]
      clear hsb
      cases sb with
      | true =>
        go_wp2
        go_roundw
        case rel => exact ⟨k + 1, by omega, by go_num, by rw [HS.out]; rfl, by trivial⟩
        case measure => simp [Go.RowKit.intOf]; omega
      | false =>
        by_cases hN : N = 16 + 33 * ((k : Int) + 1)
        · have hq : (N == 16 + 33 * ((k : Int) + 1)) = true := by simp [hN]
          have HN : Hid (decide (N = 16 + 33 * ((k : Int) + 1)) = true) := decide_eq_true hN
          clear hN
          go_wp2
          go_roundw
          case rel => exact ⟨k + 1, by omega, by go_num, by rw [HS.out, HN.out]; rfl, by trivial⟩
          case measure => simp [Go.RowKit.intOf]; omega
        · have hq : (N == 16 + 33 * ((k : Int) + 1)) = false := by simp [hN]
          have HN : Hid (decide (N = 16 + 33 * ((k : Int) + 1)) = false) := decide_eq_false hN
          clear hN
          go_wp2
          go_roundw
          case rel => exact ⟨k + 1, by omega, by go_num, by rw [HS.out, HN.out]; rfl, by trivial⟩
          case measure => simp [Go.RowKit.intOf]; omega
    · obtain rfl : k = 64 := by omega
      rw [sizeTo_all] at hsb
      have HSB := Lib.hid hsb
      rw [sizeTo_all, ← hsb]
      have hR2 := HR0.out
      unfold kfit at hR2
      rw [← hsb] at hR2
      have HR := Lib.hid hR2
      clear hsb hR2 hlt
      cases sb with
      | false =>
        go_wp2
        go_ret
        exact ⟨ret_bool HR.out.symm, hb0⟩
      | true =>
        rcases (show ¬ n = 16 ∨ (n = 16 ∧ ¬ 1 ≤ r) ∨ (n = 16 ∧ 1 ≤ r ∧ ¬ r ≤ 4096) ∨ (n = 16 ∧ 1 ≤ r ∧ r ≤ 4096 ∧ ¬ 1 ≤ nu) ∨ (n = 16 ∧ 1 ≤ r ∧ r ≤ 4096 ∧ 1 ≤ nu ∧ ¬ nu ≤ 1099511627776) ∨ (n = 16 ∧ 1 ≤ r ∧ r ≤ 4096 ∧ 1 ≤ nu ∧ nu ≤ 1099511627776) by omega) with h0 | ⟨rfl, h1⟩ | ⟨rfl, h1, h2⟩ | ⟨rfl, h1, h2, h3⟩ | ⟨rfl, h1, h2, h3, h4⟩ | ⟨rfl, h1, h2, h3, h4⟩
        · have hq : ((n : Int) == 16) = false := by simp; omega
          go_wp2
          go_ret
          exact ⟨ret_bool (by rw [HR.out, decide_eq_false h0]; rfl), hb0⟩
        all_goals
          have hq : (((16 : Nat) : Int) == 16) = true := by decide
          go_wp2
          go_ret
          exact ⟨ret_bool (by rw [HR.out]; simp <;> omega), hb0⟩

theorem stored_told (x : Nat) : (le x 4).reverse = stored x false := by unfold stored; simp

set_option maxHeartbeats 2000000 in
theorem head_any11 (S : List UInt8) (A : Option Addr) (c r nu : Nat) (B : Option Addr) (m d N : Nat) (w : World) (hs : By w A 16 c S) (hr : r < 4294967296) (hnu : nu < 9223372036854775808) (hN : N < 4294967296) :
    Calls Tryz.prog 42 #[.agg (fC A 16 c r nu B m d).toArray, .int .i64 (N : Int)] w (RetBytes 5 w 33 (headL S r nu N)) := by
  obtain ⟨i0, hi, hz0, hz1, hz2⟩ := info_parts u8_info
  obtain ⟨W, HW, b0, hb0, hsz⟩ := put_f w (fC A 16 c r nu B m d) 39
  have HHL : Hid ((headL S r nu N) = ([117] ++ S ++ (le r 4).reverse ++ (le nu 8).reverse ++ (le N 4).reverse)) := by unfold Hid headL; rw [stored_told, stored_told]; unfold told8; simp
  obtain ⟨H, hH⟩ : ∃ H, H = headL S r nu N := ⟨_, rfl⟩
  rw [← hH] at HHL ⊢
  obtain ⟨L1, hL1⟩ : ∃ l, l = (le r 4).reverse := ⟨_, rfl⟩
  obtain ⟨L2, hL2⟩ : ∃ l, l = (le nu 8).reverse := ⟨_, rfl⟩
  obtain ⟨L3, hL3⟩ : ∃ l, l = (le N 4).reverse := ⟨_, rfl⟩
  rw [← hL1, ← hL2, ← hL3] at HHL
  have HL1 : Hid ((le r 4).reverse = L1) := hL1.symm
  have HL2 : Hid ((le nu 8).reverse = L2) := hL2.symm
  have HL3 : Hid ((le N 4).reverse = L3) := hL3.symm
  have hgl : w.heap.size < W.heap.size := b0.lt
  obtain ⟨W1, hW1⟩ : ∃ W', W' = W.alloc (.cells #[.int .u8 117] 5) := ⟨_, rfl⟩
  have hbb1 : Below W.heap.size W W1 := by rw [hW1]; exact (Below.refl _ W).alloc (Nat.le_refl _) _
  have own1 : W1.ownsRow W.heap.size 5 1 (.slice (some ⟨W.heap.size, 0, none⟩) 1 1) 1 (cb [117]) := by
    rw [hW1]; exact World.ownsRow_lit (base := W.heap.size) (e := 5) (size := 1) W #[.int .u8 117] 1 (Nat.le_refl _) (by decide) rfl
  have HW1 : Hid (W.alloc (.cells #[.int .u8 117] 5) = W1) := hW1.symm
  have b1 := b0.next hbb1
  obtain ⟨q0, q1, q2, q3⟩ := f_cells b1
  have HSA := Lib.hid hs
  clear hW1 hH hL1 hL2 hL3 hsz b0 hs
  go_enter Tryz.func42, Tryz.ntmps42
  go_wp2_with (first
    | (refine wpList_box_agg rfl 39 _ rfl (fC A 16 c r nu B m d) rfl ?_; rw [HW.out])
    | (rw [HW1.out])
    | (have := mk8; at_builtin; refine wpList_append_sl _ rfl _ _ 22 rfl W.heap.size 5 i0 (.int .u8 0) 1 Tryz.underlying22 hi hz0 hz1 hz2 rfl _ 29 _ rfl own8 _ X8 4 d8 (cb L3) rfl x8.sl x8.none_ (cb_one _) (by decide) (by decide) hb8.size ?_; intro v9 w9 own9 hg9 hat9; have hb9 := hb8.grown hg9 hb8.size (fun j hj => own_blk own8 hj))
    | (have := mk7; go_at_call 67; refine (told_any N 4 w7 (by omega) (by omega)).mono ?_; rintro e w8 ⟨X8, d8, rfl, x8⟩; rw [HL3.out] at x8; have own8 := own_below own7 x8.below; have hb8 := next hb7 x8.below; have mk8 : True := trivial)
    | (have := mk6; at_builtin; refine wpList_append_sl _ rfl _ _ 22 rfl W.heap.size 5 i0 (.int .u8 0) 1 Tryz.underlying22 hi hz0 hz1 hz2 rfl _ 21 _ rfl own6 _ X6 8 d6 (cb L2) rfl x6.sl x6.none_ (cb_one _) (by decide) (by decide) hb6.size ?_; intro v7 w7 own7 hg7 hat7; have hb7 := hb6.grown hg7 hb6.size (fun j hj => own_blk own6 hj); clear mk6; have mk7 : True := trivial)
    | (have := mk5; go_at_call 67; refine (told_any nu 8 w5 (by omega) (by omega)).mono ?_; rintro e w6 ⟨X6, d6, rfl, x6⟩; rw [HL2.out] at x6; have own6 := own_below own5 x6.below; have hb6 := next hb5 x6.below; clear mk5; have mk6 : True := trivial)
    | (have := mk4; at_builtin; refine wpList_append_sl _ rfl _ _ 22 rfl W.heap.size 5 i0 (.int .u8 0) 1 Tryz.underlying22 hi hz0 hz1 hz2 rfl _ 17 _ rfl own4 _ X4 4 d4 (cb L1) rfl x4.sl x4.none_ (cb_one _) (by decide) (by decide) hb4.size ?_; intro v5 w5 own5 hg5 hat5; have hb5 := hb4.grown hg5 hb4.size (fun j hj => own_blk own4 hj); have b5 := b4.grown hg5 (fun e => by have := own_blk own4 e; omega); have q25 : w5.cell? ⟨w.heap.size, 2, none⟩ = some (.int .i64 nu) := b5.cell 2; clear mk4; have mk5 : True := trivial)
    | (have := mk3; go_at_call 67; refine (told_any r 4 w3 (by omega) (by omega)).mono ?_; rintro e w4 ⟨X4, d4, rfl, x4⟩; rw [HL1.out] at x4; have own4 := own_below own3 x4.below; have hb4 := next hb3 x4.below; have b4 := b3.next x4.below; clear mk3; have mk4 : True := trivial)
    | (at_builtin; refine wpList_append_sl _ rfl _ _ 22 rfl W.heap.size 5 i0 (.int .u8 0) 1 Tryz.underlying22 hi hz0 hz1 hz2 rfl _ 1 _ rfl own1 _ A 16 c (cb S) rfl (HSA.out.nx (next hb0 hbb1)).sl HSA.out.none_ (cb_one _) (by decide) (by decide) hbb1.size ?_; intro v3 w3 own3 hg3 hat3; have hb3 := hbb1.grown hg3 hbb1.size (fun j hj => own_blk own1 hj); have b3 := b1.grown hg3 (fun e => by have := own_blk own1 e; omega); have q13 : w3.cell? ⟨w.heap.size, 1, none⟩ = some (.int .i64 r) := b3.cell 1; have mk3 : True := trivial)
    | fail)
  go_ret
  exact retBytes rfl (by rw [HHL.out]) (by rw [← cb_append, ← cb_append, ← cb_append, ← cb_append] at own9; exact own_down own9 (Nat.le_of_lt hgl)) (next hb0 hb9)

end Go.Proofs.YtlnoopmblmkgkaaGreatDoor
