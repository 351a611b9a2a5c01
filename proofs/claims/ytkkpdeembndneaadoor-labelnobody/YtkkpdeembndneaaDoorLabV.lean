/- Layer 9, label: the law's own awake. -/
import Derived.Test.YtkkpdeembndneaaDoorLabT
namespace Go.Proofs.YtkkpdeembndneaaDoor
set_option maxRecDepth 100000
open Go Go.RowKit
set_option linter.unusedVariables false
set_option linter.unusedSimpArgs false

theorem made_sl {w w1 : World} {n : Nat} (b : Bl w1 w.heap.size (cb (List.replicate n 0)) 5) : Sl w1 w1.heap.size (some ⟨w.heap.size, 0, none⟩) n (cb (List.replicate n 0)) :=
  (b.sl (o := 0) (n := n) (by rw [List.drop_zero, List.take_of_length_le (by rw [cb_len]; simp)]) (by rw [cb_len]; simp)).up b.lt

set_option maxHeartbeats 1000000 in
theorem awake9_any (w : World) (hT : Tabs w) : Calls Tryd.prog 10 #[] w fun e w' => e = .returned (.bool true) ∧ Below w.heap.size w w' := by
  obtain ⟨i0, hi, hz0, hz1, hz2⟩ := info_parts u8_info
  obtain ⟨Z, hZ⟩ : ∃ Z : List UInt8, Z = List.replicate 32 0 := ⟨_, rfl⟩
  have hZl : Z.length = 32 := by rw [hZ]; simp
  have HE1 : Hid (lkeyE Z [115, 101, 97, 108] 1 = 0) := by unfold Hid lkeyE; rw [if_pos (by rw [hZ]; decide)]
  have hP1 : putE [] 2 Z = 0 := by unfold putE; rw [if_pos ⟨by decide, hZl⟩]; rfl
  have hM1 : putM [] 2 Z = [(2, Z)] := by unfold putM; rw [if_pos ⟨by decide, hZl, rfl⟩]; rfl
  have hP2 : putE [(2, Z)] 2 [] = 1 := by unfold putE; rw [if_neg (by simp)]
  have hM2 : putM [(2, Z)] 2 [] = [(2, Z)] := by unfold putM; rw [if_neg (by simp)]
  have hK2 : rkeyE [(2, Z)] [115, 101, 97, 108] 1 = 24 := by unfold rkeyE; rw [if_pos (by decide)]; rfl
  have hL2 : IsLast [(2, Z)] 2 := ⟨by intro x hx; rw [List.mem_singleton.1 hx]; exact Int.le_refl _, .inr ⟨_, List.mem_singleton.2 rfl, rfl⟩⟩
  have HP1 := Lib.hid hP1
  have HM1 := Lib.hid hM1
  have HP2 := Lib.hid hP2
  have HM2 := Lib.hid hM2
  have HK2 := Lib.hid hK2
  have HL2 := Lib.hid hL2
  have HZ := Lib.hid hZ
  have HT := Lib.hid hT
  clear hZ hZl hP1 hM1 hP2 hM2 hK2 hL2 hT
  go_enter Tryd.func10, Tryd.ntmps10
  go_wp2_with (first
    | (go_at_call 13; refine (lnew_any w).mono ?_; rintro e w1 ⟨rfl, r1, hb1⟩)
    | (at_make; refine wpList_make_full _ rfl _ _ 22 rfl w1.heap.size 5 i0 (.int .u8 0) 1 Tryd.underlying22 hi hz0 hz1 .i64 .i64 _ _ 32 rfl rfl rfl rfl (by rw [hz2]; omega) (by unfold maxLen; omega) (Nat.le_refl _) ?_; intro w2 ownw2 grw2; obtain ⟨bw2, hbw2⟩ := made_bl ownw2 grw2; have sw2 := made_sl bw2; rw [← HZ.out] at sw2; clear ownw2 grw2 bw2; have r2 := (r1.next hbw2).up hbw2.size; have hbb2 := next hb1 hbw2; clear r1 hb1 hbw2)
    | (go_at_call 8; refine (lkey_any Z [115, 101, 97, 108] 1 w2 _ 32 32 sw2 (Nat.le_refl _) (by intro h; cases h) (HT.out.next hbb2)).mono ?_; rintro e w3 ⟨A3, n3, c3, rfl, x3⟩; rw [HE1.out]; have r3 := (r2.next x3.below).up x3.below.size; have hbb3 := next hbb2 x3.below; have k3 := x3.sl; have off3 : Off w.heap.size n3 A3 := own_off x3.own r2.lt; clear r2 hbb2 sw2 x3)
    | (at_make; refine wpList_make_full _ rfl _ _ 22 rfl w3.heap.size 5 i0 (.int .u8 0) 1 Tryd.underlying22 hi hz0 hz1 .i64 .i64 _ _ 32 rfl rfl rfl rfl (by rw [hz2]; omega) (by unfold maxLen; omega) (Nat.le_refl _) ?_; intro w4 ownw4 grw4; obtain ⟨bw4, hbw4⟩ := made_bl ownw4 grw4; have sw4 := made_sl bw4; rw [← HZ.out] at sw4; clear ownw4 grw4 bw4; have r4 := (r3.next hbw4).up hbw4.size; have hbb4 := next hbb3 hbw4; have k4 := k3.nx hbw4; have hgl := r3.lt; clear r3 hbb3 hbw4 k3)
    | (go_at_call 16; refine (lput_any w.heap.size w4.heap.size [] (by simp) 2 Z w4 r4 _ 32 32 sw4 (Nat.le_refl _) (Nat.le_refl _)).mono ?_; rintro e w5 ⟨rfl, r5, gr5⟩; rw [HP1.out]; rw [HM1.out] at r5; have hbb5 := below_but hbb4 gr5 hbb4.size (Nat.le_refl _); have k5 := k4.nb gr5 off3; clear r4 hbb4 sw4 gr5 k4)
    | (go_at_call 16; refine (lput_any w.heap.size w5.heap.size [(2, Z)] (by simp) 2 [] w5 r5 none 0 0 Sl.nil_ (Nat.le_refl _) (Nat.le_refl _)).mono ?_; rintro e w6 ⟨rfl, r6, gr6⟩; rw [HP2.out]; rw [HM2.out] at r6; have hbb6 := below_but hbb5 gr6 hbb5.size (Nat.le_refl _); have k6 := k5.nb gr6 off3; clear r5 hbb5 gr6 k5)
    | (go_at_call 20; refine (llast_any w.heap.size w6.heap.size [(2, Z)] w6 r6).mono ?_; rintro e w7 ⟨L, rfl, hL, hb7⟩; obtain rfl := last_one hL HL2.out; have r7 := (r6.next hb7).up hb7.size; have hbb7 := next hbb6 hb7; have k7 := k6.nx hb7; clear r6 hbb6 k6 hb7 hL)
    | (go_at_call 14; refine (lrkey_any w.heap.size w7.heap.size [(2, Z)] [115, 101, 97, 108] 1 w7 r7 (HT.out.next hbb7)).mono ?_; rintro e w8 ⟨A8, n8, c8, rfl, x8⟩; rw [HK2.out]; have hbb8 := next hbb7 x8.below; have k8 := k7.nx x8.below; clear r7 hbb7 k7 x8)
    | (at_make; refine wpList_make_full _ rfl _ _ 22 rfl w8.heap.size 5 i0 (.int .u8 0) 1 Tryd.underlying22 hi hz0 hz1 .i64 .i64 _ _ 32 rfl rfl rfl rfl (by rw [hz2]; omega) (by unfold maxLen; omega) (Nat.le_refl _) ?_; intro w9 ownw9 grw9; obtain ⟨bw9, hbw9⟩ := made_bl ownw9 grw9; have sw9 := made_sl bw9; rw [← HZ.out] at sw9; clear ownw9 grw9 bw9; have hbb9 := next hbb8 hbw9; have k9 := k8.nx hbw9; clear hbb8 k8 hbw9)
    | (go_at_call 9; refine (rlkey_any Z [115, 101, 97, 108] 1 w9 _ 32 32 sw9 (by intro h; cases h) (by decide)).mono ?_; rintro e w10 ⟨A10, n10, c10, rfl, x10⟩; rw [HE1.out]; have hbb10 := next hbb9 x10.below; have u1 := u8_str (k9.nx x10.below) c3; have u2 := u8_str x10.sl c10; clear hbb9 k9 x10 sw9))
  go_ret
  exact ⟨rfl, hbb10⟩

end Go.Proofs.YtkkpdeembndneaaDoor
