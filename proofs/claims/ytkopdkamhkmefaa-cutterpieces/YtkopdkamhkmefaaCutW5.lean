/- The walk of the law CutterPieces. -/
import Derived.Test.YtkopdkamhkmefaaCutQ
namespace Go.Proofs.Ytkopdkamhkmefaa
set_option maxRecDepth 100000
open Go Go.RowKit
set_option linter.unusedVariables false
set_option linter.unusedSimpArgs false

set_option maxRecDepth 100000 in
set_option maxHeartbeats 4000000 in
theorem cutterPieces_walk (v0 : Value) (A1 : Option Addr) (n1 c1 : Nat) (l1 : List UInt8) (a2 : Int) (w : World) (h0 : CutIn w v0) (s1 : InBytes w A1 n1 c1 l1) (w2 : (Lit.int .u8 a2).wf = true) :
    Calls Try.prog 4 #[v0, .slice A1 n1 c1, .int .u8 a2] w fun e w' => e = .returned (.bool true) ∧ Below w.heap.size w w' := by
  obtain ⟨p, k, mn, mx, rfl, hp, hk, _, _⟩ := h0
  obtain ⟨bz0, bz1⟩ := bounds_u8 w2
  obtain ⟨lv, rfl⟩ := Int.eq_ofNat_of_zero_le bz0
  have hlv : lv < 256 := by omega
  obtain ⟨W0, HW0, b0, hb0, hs0⟩ := put_f w (cutC p k mn mx) 24
  have y0 : By w A1 n1 c1 l1 := s1.bys
  have z1 := s1.none_
  have e1 := s1.len
  have AW := Lib.hid awake14_any
  -- the boxes of the bytes and of the number
  obtain ⟨W1, hW1⟩ : ∃ W1, W1 = W0.alloc (.cells #[.slice A1 n1 c1] 25) := ⟨_, rfl⟩
  have d1 : Below W0.heap.size W0 W1 := by rw [hW1]; exact (Below.refl _ W0).alloc (Nat.le_refl _) _
  have hs1 : W1.heap.size = w.heap.size + 2 := by rw [hW1, alloc_size, hs0]
  have bb1 : Bl W1 (w.heap.size + 1) [.slice A1 n1 c1] 25 := by rw [hW1, ← hs0]; exact Bl.new W0 _ _
  obtain ⟨W2, hW2⟩ : ∃ W2, W2 = W1.alloc (.cells #[.int .u8 (lv : Int)] 5) := ⟨_, rfl⟩
  have d2 : Below W1.heap.size W1 W2 := by rw [hW2]; exact (Below.refl _ W1).alloc (Nat.le_refl _) _
  have hs2 : W2.heap.size = w.heap.size + 3 := by rw [hW2, alloc_size, hs1]
  have bl2 : Bl W2 (w.heap.size + 2) [.int .u8 (lv : Int)] 5 := by rw [hW2, ← hs1]; exact Bl.new W1 _ _
  have bb2 := bb1.next d2
  have b2 := (b0.next d1).next d2
  have hbw : Below w.heap.size w W2 := next (next hb0 d1) d2
  have HW1 := Lib.hid hW1
  have HW2 := Lib.hid hW2
  have y2 := y0.nx hbw
  have cb2 : W2.cell? ⟨w.heap.size + 1, 0, none⟩ = some (.slice A1 n1 c1) := bb2.cell 0
  clear hW1 hW2 d1 d2 s1 bb1 b0 hb0 w2
  by_cases hbig : n1 ≤ 600
  · have q1 : ¬ (600 : Int) < (n1 : Int) := by omega
    have HE1 := Lib.hid e1
    clear e1
    rcases hok : cutOk p mn mx with _ | _
    · have HOK := Lib.hid hok
      clear hok
      go_enter Try.func4, Try.ntmps4
      go_wp2_with (first
        | (refine wpList_box_agg rfl 24 _ rfl (cutC p k mn mx) rfl ?_; rw [HW0.out])
        | fail)
      rw [← HW1.out, ← HW2.out]
      refine (own_any l1 W2 _ A1 n1 c1 y2.sl z1 (by omega) (Nat.le_refl _)).mono ?_
      rintro e w3 ⟨X3, d3, rfl, h3⟩
      have x3 := h3.bys
      have b3 := b2.next h3.below
      have bb3 := bb2.next h3.below
      have bl3 := bl2.next h3.below
      have hbw3 := next hbw h3.below
      have y3 := y2.nx h3.below
      clear h3 b2 bb2 bl2 y2 hbw cb2
      go_wp2_with (first
        | (refine wpList_load_mid rfl 24 _ rfl w.heap.size 0 rfl (cutC p k mn mx) _ b3.whole Try.underlying24 rfl size_cut ?_)
        | fail)
      refine (cpieces_bad p k mn mx X3 n1 d3 w3 hp HOK.out).mono ?_
      rintro e w4 ⟨rfl, hb4⟩
      have hnil : ∀ w' : World, (binOp BinOp.eql 37 (.func (.func 23) #[] #[]) .nilFunc).run Try.prog w' = .ok (.bool false) w' := fun _ => by kernel_rfl
      have b4 := b3.next hb4
      have bb4 := bb3.next hb4
      have bl4 := bl3.next hb4
      have x4 := x3.nx hb4
      have y4 := y3.nx hb4
      have hbw4 := next hbw3 hb4
      clear b3 bb3 bl3 x3 y3 hbw3 hb4
      obtain ⟨gw, hgw⟩ : ∃ gw, gw = w4.heap.size := ⟨_, rfl⟩
      obtain ⟨W5, hW5⟩ : ∃ W5, W5 = w4.alloc (.cells #[.slice none 0 0] 28) := ⟨_, rfl⟩
      have d5 : Below w4.heap.size w4 W5 := by rw [hW5]; exact (Below.refl _ w4).alloc (Nat.le_refl _) _
      have bw5 : Bl W5 gw [.slice none 0 0] 28 := by rw [hW5, hgw]; exact Bl.new w4 _ _
      have b5 := b4.next d5
      have HW5 := Lib.hid hW5
      have HGW := Lib.hid hgw
      clear hW5 hgw
      go_wp2_with (first
        | (rw [← HW5.out, ← HGW.out]; refine wpList_load_mid rfl 24 _ rfl w.heap.size 0 rfl (cutC p k mn mx) _ b5.whole Try.underlying24 rfl size_cut ?_)
        | fail)
      refine (rright14_any p k mn mx W5 hp).mono ?_
      rintro e w6 ⟨rfl, hb6⟩
      rw [HOK.out]
      have d6 := next d5 hb6
      have bw6 := bw5.next hb6
      have bb6 := bb4.next d6
      have bl6 := bl4.next d6
      have x6 := x4.nx d6
      have y6 := y4.nx d6
      have hbw6 := next hbw4 d6
      clear b5 hb6 bw5 d5 d6 b4 bb4 bl4 x4 y4 hbw4
      go_wp2_with fail
      obtain ⟨gn, hgn⟩ : ∃ gn, gn = w6.heap.size := ⟨_, rfl⟩
      obtain ⟨WB, hWB⟩ : ∃ W, W = w6.alloc (.cells #[.int .i64 0] 3) := ⟨_, rfl⟩
      obtain ⟨WC, hWC⟩ : ∃ W, W = WB.alloc (.cells #[.int .i64 0] 3) := ⟨_, rfl⟩
      obtain ⟨WF, hWF⟩ : ∃ W, W = WC.alloc (.cells #[.bool true] 4) := ⟨_, rfl⟩
      rw [← hgn, ← hWB, ← hWC, ← hWF]
      have dB : Below w6.heap.size w6 WB := by rw [hWB]; exact (Below.refl _ w6).alloc (Nat.le_refl _) _
      have sB : WB.heap.size = gn + 1 := by rw [hWB, alloc_size, hgn]
      have dC : Below WB.heap.size WB WC := by rw [hWC]; exact (Below.refl _ WB).alloc (Nat.le_refl _) _
      have sC : WC.heap.size = gn + 1 + 1 := by rw [hWC, alloc_size, sB]
      have dF : Below WC.heap.size WC WF := by rw [hWF]; exact (Below.refl _ WC).alloc (Nat.le_refl _) _
      have d6F : Below w6.heap.size w6 WF := next (next dB dC) dF
      have nO : Bl WF (gn + 1 + 1) [.bool true] 4 := by rw [hWF, ← sC]; exact Bl.new WC _ _
      have nN : Bl WF gn [.int .i64 0] 3 := by
        have h5 := Bl.new w6 [.int .i64 0] 3
        rw [← hgn, ← hWB] at h5
        exact (h5.next dC).next dF
      refine (pieces3_any _ WF).mono ?_
      rintro e w8 ⟨rfl, hw8⟩
      have hb8 : Below WF.heap.size WF w8 := by rw [hw8]; exact Below.refl _ _
      have d8 := next d6F hb8
      have hq3 := u8_str (x6.nx d8).sl d3
      have hq4 := u8_str (y6.nx d8).sl c1
      have r1 : w8.cell? ⟨gn + 1 + 1, 0, none⟩ = some (.bool true) := (nO.next hb8).cell 0
      have r2 : w8.cell? ⟨gn, 0, none⟩ = some (.int .i64 0) := (nN.next hb8).cell 0
      have r3 : w8.cell? ⟨gw, 0, none⟩ = some (.slice none 0 0) := (bw6.next d8).cell 0
      have r4 : w8.cell? ⟨w.heap.size + 1 + 1, 0, none⟩ = some (.int .u8 (lv : Int)) := (bl6.next d8).cell 0
      have r5 : w8.cell? ⟨w.heap.size + 1, 0, none⟩ = some (.slice A1 n1 c1) := (bb6.next d8).cell 0
      have HBF := Lib.hid (next hbw6 d8)
      have eM : min (0 : Int) ((lv : Int) + 1) = 0 := by omega
      clear hgn hWB hWC hWF dB sB dC sC dF d6F nO nN hb8 d8 bw6 bb6 bl6 x6 y6 hbw6 hw8
      go_wp2_with (first
        | (go_at_call 8; refine (AW.out _).mono ?_; rintro e w10 ⟨rfl, hb10⟩)
        | fail)
      go_ret
      exact ⟨rfl, next HBF.out hb10⟩
    · obtain ⟨k0, k1, k2, k3⟩ := cutOk_of hok
      obtain ⟨a, rfl⟩ := Int.eq_ofNat_of_zero_le (show 0 ≤ mn by omega)
      obtain ⟨b, rfl⟩ := Int.eq_ofNat_of_zero_le (show 0 ≤ mx by omega)
      obtain ⟨d, hd, hd9, hd53, hdn, hpos⟩ := rolOk_deg k0 hp
      obtain ⟨L, hL⟩ : ∃ L, L = cutL p d k a b l1 := ⟨_, rfl⟩
      have HL := Lib.hid hL
      have HOK := Lib.hid hok
      have HD := Lib.hid hd
      have ha1 : 1 ≤ a := by omega
      have hab : a ≤ b := by omega
      have hb4' : b ≤ 4096 := by omega
      clear hL hok hd hdn k1 k2 k3
      go_enter Try.func4, Try.ntmps4
      go_wp2_with (first
        | (refine wpList_box_agg rfl 24 _ rfl (cutC p k (a : Int) (b : Int)) rfl ?_; rw [HW0.out])
        | fail)
      rw [← HW1.out, ← HW2.out]
      refine (own_any l1 W2 _ A1 n1 c1 y2.sl z1 (by omega) (Nat.le_refl _)).mono ?_
      rintro e w3 ⟨X3, d3, rfl, h3⟩
      have x3 := h3.bys
      have xn3 : ∀ ad, X3 = some ad → W2.heap.size ≤ ad.block := own_new (w' := w3) h3.own
      have xl3 : ∀ ad, X3 = some ad → ad.block < w3.heap.size := fun ad e => by subst e; exact own_lt h3.own rfl
      have b3 := b2.next h3.below
      have bb3 := bb2.next h3.below
      have bl3 := bl2.next h3.below
      have y3 := y2.nx h3.below
      have hbw3 := next hbw h3.below
      have hz3 := h3.below.size
      clear h3 b2 bb2 bl2 y2 hbw cb2
      go_wp2_with (first
        | (refine wpList_load_mid rfl 24 _ rfl w.heap.size 0 rfl (cutC p k (a : Int) (b : Int)) _ b3.whole Try.underlying24 rfl size_cut ?_)
        | fail)
      refine (cpieces_ok p k (a : Int) (b : Int) l1 X3 n1 d3 w3 x3 (by omega) hp HOK.out).mono ?_
      rintro e w4 ⟨gc, gp, Xp, dp, rfl, hgc, hgp, bc4, bp4, ownp, hb4⟩
      have xp4 : Sl w4 w4.heap.size Xp n1 (cb l1) := Sl.own ownp
      have xpl : ∀ ad, Xp = some ad → ad.block < w4.heap.size := fun ad e => by subst e; exact own_lt ownp rfl
      have hcp := own_cap ownp
      have hnp : Xp = none → dp = 0 := own_none ownp
      have hnil : ∀ w' : World, (binOp BinOp.eql 37 (.func (.func 25) #[] #[.pointer (some ⟨gc, 0, none⟩), .pointer (some ⟨gp, 0, none⟩)]) .nilFunc).run Try.prog w' = .ok (.bool false) w' := fun _ => by kernel_rfl
      have b4 := b3.next hb4
      have bb4 := bb3.next hb4
      have bl4 := bl3.next hb4
      have y4 := y3.nx hb4
      have x4 := x3.nx hb4
      have hbw4 := next hbw3 hb4
      have hgp4 := bp4.lt
      have hz4 := hb4.size
      clear b3 bb3 bl3 y3 x3 hbw3 hb4
      obtain ⟨W5, hW5⟩ : ∃ W5, W5 = w4.alloc (.cells #[.slice none 0 0] 28) := ⟨_, rfl⟩
      have d5 : Below w4.heap.size w4 W5 := by rw [hW5]; exact (Below.refl _ w4).alloc (Nat.le_refl _) _
      have bw5 : Bl W5 w4.heap.size [.slice none 0 0] 28 := by rw [hW5]; exact Bl.new w4 _ _
      have hs5 : W5.heap.size = w4.heap.size + 1 := by rw [hW5, alloc_size]
      have b5 := b4.next d5
      have HW5 := Lib.hid hW5
      clear hW5
      go_wp2_with (first
        | (rw [← HW5.out]; refine wpList_load_mid rfl 24 _ rfl w.heap.size 0 rfl (cutC p k (a : Int) (b : Int)) _ b5.whole Try.underlying24 rfl size_cut ?_)
        | fail)
      refine (rright14_any p k (a : Int) (b : Int) W5 hp).mono ?_
      rintro e w6 ⟨rfl, hb6⟩
      rw [HOK.out]
      have b6 := b5.next hb6
      have d6 := d5.trans (hb6.mono d5.size)
      have bw6 := bw5.next hb6
      have bb6 := bb4.next d6
      have cb6 : w6.cell? ⟨w.heap.size + 1, 0, none⟩ = some (.slice A1 n1 c1) := bb6.cell 0
      have y6 := y4.nx d6
      have hz6 := hb6.size
      clear b5 hb6 bw5
      go_wp2_with (first
        | (refine wpList_load_mid rfl 24 _ rfl w.heap.size 0 rfl (cutC p k (a : Int) (b : Int)) _ b6.whole Try.underlying24 rfl size_cut ?_)
        | fail)
      refine (lengths14_any p k a b d l1 w6 A1 n1 c1 y6 (by omega) hp hk HD.out hd53 ha1 hab hb4').mono ?_
      rw [← HL.out]
      rintro e w7 ⟨X7, d7, rfl, own7, hb7⟩
      have bw7 := bw6.next hb7
      have fw7 := bw7.frozen 0
      have cw7 : w7.cell? ⟨w4.heap.size, 0, none⟩ = some (.slice none 0 0) := bw7.cell 0
      go_wp2_with fail
      obtain ⟨gw, hgw⟩ : ∃ gw, gw = w4.heap.size := ⟨_, rfl⟩
      obtain ⟨gn, hgn⟩ : ∃ gn, gn = w7.heap.size := ⟨_, rfl⟩
      obtain ⟨WA, hWA⟩ : ∃ W, W = w7.setCell ⟨gw, 0, none⟩ (.slice X7 L.length d7) := ⟨_, rfl⟩
      obtain ⟨WB, hWB⟩ : ∃ W, W = WA.alloc (.cells #[.int .i64 0] 3) := ⟨_, rfl⟩
      obtain ⟨WC, hWC⟩ : ∃ W, W = WB.alloc (.cells #[.int .i64 0] 3) := ⟨_, rfl⟩
      obtain ⟨WF, hWF⟩ : ∃ W, W = WC.alloc (.cells #[.bool true] 4) := ⟨_, rfl⟩
      rw [← hgw] at bw7 hs5
      rw [← hgw, ← hgn, ← hWA, ← hWB, ← hWC, ← hWF]
      have gA : w7.grownBy WA (some gw) := by rw [hWA]; exact but_setCell (but_refl _ _) 0 _
      have sA : WA.heap.size = gn := by rw [hWA, hgn, heap_size_setCell]
      have dB : Below WA.heap.size WA WB := by rw [hWB]; exact (Below.refl _ WA).alloc (Nat.le_refl _) _
      have sB : WB.heap.size = gn + 1 := by rw [hWB, alloc_size, sA]
      have dC : Below WB.heap.size WB WC := by rw [hWC]; exact (Below.refl _ WB).alloc (Nat.le_refl _) _
      have sC : WC.heap.size = gn + 2 := by rw [hWC, alloc_size, sB]
      have dF : Below WC.heap.size WC WF := by rw [hWF]; exact (Below.refl _ WC).alloc (Nat.le_refl _) _
      have dAF : Below WA.heap.size WA WF := next (next dB dC) dF
      have xl7 : ∀ ad, X7 = some ad → ad.block < gn := fun ad e => by subst e; rw [hgn]; exact own_lt own7 rfl
      have xn7 : ∀ ad, X7 = some ad → w6.heap.size ≤ ad.block := own_new (w' := w7) own7
      have hz7 := hb7.size
      have d7' := d6.trans (hb7.mono d6.size)
      have oaA : 0 < n1 → ∀ ad, A1 = some ad → ad.block < w.heap.size := fun h0 ad e => by
        obtain ⟨ad', e', hb, _⟩ := y0.sl.2 h0
        rw [e] at e'
        injection e' with e'
        subst e'
        exact hb
      have hbA : Below w4.heap.size w4 WA := d7'.grown gA d7'.size (fun j e => by injection e with e; omega)
      have hb4F : Below w4.heap.size w4 WF := hbA.trans (dAF.mono hbA.size)
      have hI : PcI WF (gn + 1 + 1) gn gw (gn + 1) (w.heap.size + 1) (w.heap.size + 1 + 1) X7 d7 L A1 n1 c1 l1 lv 0 0 := by
        refine ⟨?_, ?_, ?_, ?_, bb4.next hb4F, bl4.next hb4F, ?_, y4.nx hb4F⟩
        · rw [hWF, ← sC]; exact Bl.new WC _ _
        · have h5 := Bl.new WA [.int .i64 0] 3
          rw [sA, ← hWB] at h5
          exact (h5.next dC).next dF
        · have h5 := bw7.set 0 (.slice X7 L.length d7)
          rw [← hWA] at h5
          exact h5.next dAF
        · have h5 := Bl.new WB [.int .i64 0] 3
          rw [sB, ← hWC] at h5
          exact h5.next dF
        · exact ((Sl.own own7).nb gA (fun _ ad e => by have := xn7 ad e; omega)).nx dAF
      have hO : PcO (gn + 1 + 1) gn gw (gn + 1) (w.heap.size + 1) (w.heap.size + 1 + 1) X7 A1 n1 := ⟨by omega, by omega, by omega, by omega, by omega, xl7, fun h0 ad e => by have := oaA h0 ad e; omega⟩
      have xF := x4.nx hb4F
      refine (pieces2_any p k a b d l1 gc gp Xp n1 dp WF (gn + 1 + 1) gn gw (gn + 1) (w.heap.size + 1) (w.heap.size + 1 + 1) X7 d7 L A1 c1 lv hp hk HD.out HOK.out hI hO HL.out hlv (by omega) (bc4.next hb4F) (bp4.next hb4F) (xp4.nx hb4F) hcp hnp (by omega) (by omega) (fun ad e => by have := xpl ad e; omega)).mono ?_
      rintro e w8 ⟨rfl, ⟨at8, hI8⟩, hT8⟩
      have xs8 : Sl w8 w8.heap.size X3 n1 (cb l1) := (hT8.sl xF.sl (Nat.le_refl _) (fun _ ad e hm => by have := xl3 ad e; simp at hm; omega)).up hT8.size
      have hq3 := u8_str xs8 d3
      have hq4 := u8_str hI8.sb.sl c1
      obtain ⟨N, hN⟩ : ∃ N, N = min L.length (lv + 1) := ⟨_, rfl⟩
      rw [← hN] at hI8
      have r1 : w8.cell? ⟨gn + 1 + 1, 0, none⟩ = some (.bool true) := hI8.bo.cell 0
      have r2 : w8.cell? ⟨gn, 0, none⟩ = some (.int .i64 (N : Int)) := hI8.bn.cell 0
      have r3 : w8.cell? ⟨gw, 0, none⟩ = some (.slice X7 L.length d7) := hI8.bw.cell 0
      have r4 : w8.cell? ⟨w.heap.size + 1 + 1, 0, none⟩ = some (.int .u8 (lv : Int)) := hI8.bl.cell 0
      have r5 : w8.cell? ⟨w.heap.size + 1, 0, none⟩ = some (.slice A1 n1 c1) := hI8.bb.cell 0
      have hbF : Below w.heap.size w w8 := hT8.below (next hbw4 hb4F) (by have := hb4F.size; have := hbw4.size; omega) (fun j hj => by simp at hj; omega)
      have eM : min (L.length : Int) ((lv : Int) + 1) = (N : Int) := by rw [hN]; omega
      have HBF := Lib.hid hbF
      clear hI8 hT8 hI hO xF hbF hN hb4F hbA d7' xs8 own7 hgw hgn hWA hWB hWC hWF xl7
      go_wp2_with (first
        | (go_at_call 8; refine (AW.out _).mono ?_; rintro e w10 ⟨rfl, hb10⟩)
        | fail)
      go_ret
      exact ⟨rfl, next HBF.out hb10⟩
  · have q1 : (600 : Int) < (n1 : Int) := by omega
    clear e1
    go_enter Try.func4, Try.ntmps4
    go_wp2_with (first
      | (refine wpList_box_agg rfl 24 _ rfl (cutC p k mn mx) rfl ?_; rw [HW0.out])
      | fail)
    rw [← HW1.out, ← HW2.out]
    refine (AW.out _).mono ?_
    rintro e w10 ⟨rfl, hb10⟩
    go_wp2
    go_ret
    exact ⟨rfl, next hbw hb10⟩

end Go.Proofs.Ytkopdkamhkmefaa
