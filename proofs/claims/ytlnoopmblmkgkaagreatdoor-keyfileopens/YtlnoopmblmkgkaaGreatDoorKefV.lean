/- Layer 11, keyfile: the law's own awake. -/
import Derived.Test.YtlnoopmblmkgkaaGreatDoorKefI
import Derived.Test.YtlnoopmblmkgkaaGreatDoorKefJ
import Derived.Test.YtlnoopmblmkgkaaGreatDoorLabV
import Derived.Lib.SlBytesConst
namespace Go.Proofs.YtlnoopmblmkgkaaGreatDoor
set_option maxRecDepth 100000
open Go Go.RowKit
set_option linter.unusedVariables false
set_option linter.unusedSimpArgs false

theorem putL_yes {S X : List UInt8} {r nu : Int} (h : kfit S.length r nu X.length = true) : putL S r nu X = headL S r.toNat nu.toNat X.length ++ X := by unfold putL; rw [if_pos h]

set_option maxHeartbeats 4000000 in
theorem awake11_any (w : World) (hT : Tabs3 w) : Calls Tryz.prog 10 #[] w fun e w' => e = .returned (.bool true) ∧ Below w.heap.size w w' := by
  obtain ⟨i0, hi, hz0, hz1, hz2⟩ := info_parts u8_info
  obtain ⟨Z, hZ⟩ : ∃ Z : List UInt8, Z = List.replicate 32 0 := ⟨_, rfl⟩
  obtain ⟨Y, hY⟩ : ∃ Z : List UInt8, Z = List.replicate 16 0 := ⟨_, rfl⟩
  have hZl : Z.length = 32 := by rw [hZ]; simp
  have hYl : Y.length = 16 := by rw [hY]; simp
  have hP1 : putE [] 1 Z = 0 := by unfold putE; rw [if_pos ⟨by decide, hZl⟩]; rfl
  have hM1 : putM [] 1 Z = [(1, Z)] := by unfold putM; rw [if_pos ⟨by decide, hZl, rfl⟩]; rfl
  have ok : RingOk [(1, Z)] := ⟨by intro x hx; rw [List.mem_singleton.1 hx]; exact ⟨Nat.le_refl _, by show 1 ≤ 64; decide, hZl⟩, by simp⟩
  have hL1 : IsLast [(1, Z)] 1 := ⟨by intro x hx; rw [List.mem_singleton.1 hx]; exact Int.le_refl _, .inr ⟨_, List.mem_singleton.2 rfl, rfl⟩⟩
  have hmk : mkE Y 1 1 [(1, Z)] = 0 := by unfold mkE; rw [textR_len ok, hYl, show 33 * [(1, Z)].length + 16 = 49 from rfl, if_pos (by decide)]
  obtain ⟨hk, hoE, hoM⟩ := made_back (pass := [112]) ok hmk
  have hBl : (mkB [112] Y 1 1 [(1, Z)]).length = 49 := by rw [mkB_len, textR_len ok]; rfl
  have hF : mkF [112] Y 1 1 [(1, Z)] = ⟨Y, 1, 1, mkB [112] Y 1 1 [(1, Z)]⟩ := by unfold mkF; rw [if_pos hmk]
  have hpl := putL_yes hk
  obtain ⟨Bx, hBx⟩ : ∃ b, b = mkB [112] Y 1 1 [(1, Z)] := ⟨_, rfl⟩
  rw [← hBx] at hBl hF hpl hoE hoM
  have HLS : Hid (∀ L, IsLast (opM [112] Y 1 1 Bx) L → L = 1) := by
    unfold Hid
    intro L h
    rw [hoM] at h
    exact same_last (sortR_rising ok).ok ok (sortR_same ok) h hL1
  obtain ⟨PL, hPL⟩ : ∃ p, p = putL Y 1 1 Bx := ⟨_, rfl⟩
  have hPl : PL.length = 82 := by rw [hPL, hpl, List.length_append, headL_len hYl, hBl]
  have hP0 : PL[0]? = some 117 := by rw [hPL, hpl]; rfl
  obtain ⟨P, hPP⟩ : ∃ P : List UInt8, P = [112] := ⟨_, rfl⟩
  obtain ⟨OM, hOM⟩ : ∃ o, o = opM [112] Y 1 1 Bx := ⟨_, rfl⟩
  rw [← hOM] at HLS
  rw [← hPP] at hOM hF hoE
  have HP1 := Lib.hid hP1
  have HM1 := Lib.hid hM1
  have HMK := Lib.hid hmk
  have HF := Lib.hid hF
  have HBL := Lib.hid hBl
  have HYL := Lib.hid hYl
  have HPL : Hid (putL Y 1 1 Bx = PL) := hPL.symm
  have HPLL := Lib.hid hPl
  have HP0 := Lib.hid hP0
  have HOE := Lib.hid hoE
  have HOM : Hid (opM P Y 1 1 Bx = OM) := hOM.symm
  have HZ := Lib.hid hZ
  have HY := Lib.hid hY
  have HPP : Hid ([112] = P) := hPP.symm
  have HT := Lib.hid hT
  clear hZ hY hZl hYl hP1 hM1 ok hL1 hmk hk hoE hoM hBl hF hpl hBx hPL hPl hP0 hPP hOM hT
  go_enter Tryz.func10, Tryz.ntmps10
  go_wp2_with (first
    | (go_at_call 28; refine (lnew_any w).mono ?_; rintro e w1 ⟨rfl, r1, hb1⟩)
    | (at_make; refine wpList_make_full _ rfl _ _ 22 rfl w1.heap.size 5 i0 (.int .u8 0) 1 Tryz.underlying22 hi hz0 hz1 .i64 .i64 _ _ 32 rfl rfl rfl rfl (by rw [hz2]; omega) (by unfold maxLen; omega) (Nat.le_refl _) ?_; intro w2 ownw2 grw2; obtain ⟨bw2, hbw2⟩ := made_bl ownw2 grw2; have sw2 := made_sl bw2; rw [← HZ.out] at sw2; clear ownw2 grw2 bw2; have r2 := (r1.next hbw2).up hbw2.size; have hbb2 := next hb1 hbw2; clear r1 hb1 hbw2)
    | (go_at_call 29; refine (lput_any w.heap.size w2.heap.size [] (by simp) 1 Z w2 r2 _ 32 32 sw2 (Nat.le_refl _) (Nat.le_refl _)).mono ?_; rintro e w3 ⟨rfl, r3, gr3⟩; rw [HP1.out]; rw [HM1.out] at r3; have hbb3 := below_but hbb2 gr3 hbb2.size (Nat.le_refl _))
    | fail)
  clear r2 hbb2 sw2 gr3
  rw [Lib.run_convert_bytes_const w3 22 5 _ 1 1 Tryz.underlying22 Tryz.underlying5]
  obtain ⟨W4, hW4⟩ : ∃ W, W = w3.alloc (.cells (cb [112]).toArray 5 (1, 2)) := ⟨_, rfl⟩
  have b4 : W4.heap[w3.heap.size]? = some (.cells (cb [112]).toArray 5 (1, 2)) := by rw [hW4]; exact heap_alloc_new w3 _
  have hbn4 : Below w3.heap.size w3 W4 := by rw [hW4]; exact (Below.refl _ w3).alloc (Nat.le_refl _) _
  have hz4 : w3.heap.size < W4.heap.size := by rw [hW4]; simp
  change Oper.upon _ _ _ _ _ (Result.andThen (Result.ok _ (w3.alloc (.cells (cb [112]).toArray 5 (1, 2)))) _)
  rw [← hW4]
  clear hW4
  have hb4 := next hbb3 hbn4
  have r4 := (r3.next hbn4).up hbn4.size
  have p4 : By W4 (some ⟨w3.heap.size, 0, none⟩) 1 1 P := by rw [← HPP.out]; exact ⟨sl_marked b4 rfl hz4, rfl, Nat.le_refl _, fun h => by cases h⟩
  clear b4 hbn4 hz4 r3 hbb3
  go_wp2_with (first
    | (at_make; refine wpList_make_full _ rfl _ _ 22 rfl W4.heap.size 5 i0 (.int .u8 0) 1 Tryz.underlying22 hi hz0 hz1 .i64 .i64 _ _ 16 rfl rfl rfl rfl (by rw [hz2]; omega) (by unfold maxLen; omega) (Nat.le_refl _) ?_; intro w5 ownw5 grw5; obtain ⟨bw5, hbw5⟩ := made_bl ownw5 grw5; have sw5 := made_sl bw5; rw [← HY.out] at sw5; clear ownw5 grw5 bw5; have r5 := (r4.next hbw5).up hbw5.size; have hb5 := next hb4 hbw5; have p5 := p4.nx hbw5; clear r4 hb4 hbw5 p4)
    | (go_at_call 13; refine (make_any P Y [(1, Z)] (some ⟨w3.heap.size, 0, none⟩) 1 1 (some ⟨W4.heap.size, 0, none⟩) 16 16 1 1 w.heap.size w5 p5 ⟨sw5, HYL.out.symm, Nat.le_refl _, fun h => by cases h⟩ r5 (by decide) (by decide) (HT.out.next hb5)).mono ?_; rw [HMK.out, HF.out]; rintro e w6 ⟨A, n, c, B, m, d, rfl, hf, hb6⟩; obtain rfl : n = 16 := hf.salt.len.trans HYL.out; obtain rfl : m = 49 := hf.box.len.trans HBL.out; obtain ⟨b7, hbn7, hz7⟩ := put_new w6 nilF (fC A 16 c 1 1 B 49 d) 35 rfl; obtain ⟨W7, hW7⟩ : ∃ W, W = (w6.alloc (.cells nilF.toArray 35)).setCells w6.heap.size 0 (fC A 16 c 1 1 B 49 d) := ⟨_, rfl⟩; rw [← hW7] at b7 hbn7 hz7; have HW7 := Lib.hid hW7; have hf7 := hf.nx hbn7; have hb7 := next (next hb5 hb6) hbn7; have wh7 := b7.whole; clear hW7 r5 p5 sw5 hf hbn7 hz7)
    | (refine wpList_alloc_zero rfl 35 rfl nilF zero_kf ?_)
    | (refine wpList_store_mid rfl 35 _ _ rfl _ _ (fC A 16 c 1 1 B 49 d).toArray rfl rfl (Bl.there_ (Bl.new w6 nilF 35) (by simp [nilF, fC])) size_kf (all_oneCell_toArray (fC_one _ _ _ _ _ _ _ _)) ?_; change wpList _ _ _ _ _ (World.setCells (w6.alloc (.cells nilF.toArray 35)) w6.heap.size 0 (fC A 16 c 1 1 B 49 d)); rw [← HW7.out])
    | (have := mk8; refine wpList_load_mid rfl 35 _ rfl _ _ rfl (fC A 16 c 1 1 B 49 d) _ wh8 Tryz.underlying35 rfl size_kf ?_)
    | (refine wpList_load_mid rfl 35 _ rfl _ _ rfl (fC A 16 c 1 1 B 49 d) _ wh7 Tryz.underlying35 rfl size_kf ?_)
    | (go_at_call 22; refine (put_any11 Y Bx A 16 c 1 1 B 49 d W7 hf7 (by decide) (by decide)).mono ?_; rw [HPL.out, HPLL.out]; rintro e w8 ⟨X8, c8, rfl, x8⟩; have hf8 := hf7.nx x8.below; have hb8 := next hb7 x8.below; have b8 := b7.next x8.below; have wh8 := b8.whole; have y8 := x8.bys; clear x8; have mk8 : True := trivial)
    | fail)
  rw [Lib.run_convert_bytes_const w8 22 5 _ 1 1 Tryz.underlying22 Tryz.underlying5]
  obtain ⟨W9, hW9⟩ : ∃ W, W = w8.alloc (.cells (cb [112]).toArray 5 (1, 2)) := ⟨_, rfl⟩
  have b9 : W9.heap[w8.heap.size]? = some (.cells (cb [112]).toArray 5 (1, 2)) := by rw [hW9]; exact heap_alloc_new w8 _
  have hbn9 : Below w8.heap.size w8 W9 := by rw [hW9]; exact (Below.refl _ w8).alloc (Nat.le_refl _) _
  have hz9 : w8.heap.size < W9.heap.size := by rw [hW9]; simp
  change Oper.upon _ _ _ _ _ (Result.andThen (Result.ok _ (w8.alloc (.cells (cb [112]).toArray 5 (1, 2)))) _)
  rw [← hW9]
  clear hW9
  have hb9 := next hb8 hbn9
  have p9 : By W9 (some ⟨w8.heap.size, 0, none⟩) 1 1 P := by rw [← HPP.out]; exact ⟨sl_marked b9 rfl hz9, rfl, Nat.le_refl _, fun h => by cases h⟩
  have y9 := y8.nx hbn9
  have hf9 := hf8.nx hbn9
  clear b9 hz9 hb8 y8 hf8 hf7 hbn9
  go_wp2_with fail
  refine (kopen_any P Y Bx (some ⟨w8.heap.size, 0, none⟩) 1 1 A 16 c 1 1 B 49 d W9 p9 hf9 (by decide) (by decide) (by decide) (HT.out.next hb9)).mono ?_
  rw [HOE.out, HOM.out]
  rintro e w10 ⟨hbn10, (⟨_, gq, rfl, r10, hgq⟩ | ⟨h0, _⟩)⟩
  · have y10 := y9.nx hbn10
    have hb10 := next hb9 hbn10
    obtain ⟨ad, rfl, hadl, hcl⟩ := y10.sl.2 (by decide)
    have c0 : w10.cell? (ad.add 0) = some (.int .u8 117) := hcl 0 _ (by rw [cb, List.getElem?_map, HP0.out]; rfl)
    have c0' : w10.cell? ad = some (.int .u8 117) := by rw [← add_none ad]; exact c0
    clear hcl y9 y10 hf9 p9 hb9
    go_wp2_with (first
      | (go_at_call 30; refine (llast_any gq w10.heap.size OM w10 r10).mono ?_; rintro e w11 ⟨L, rfl, hL, hb11⟩; obtain rfl := HLS.out _ hL; clear hL)
      | fail)
    go_ret
    exact ⟨rfl, next hb10 hb11⟩
  · exact absurd rfl h0

end Go.Proofs.YtlnoopmblmkgkaaGreatDoor
