/- Mix, whole, of package cipher and of its reference; the few answers that the document fixes. -/
import Derived.Test.YtnhpamfmbledmaaDoorChaK
import Derived.Test.YtnhpamfmbledmaaDoorChaV
namespace Go.Proofs.YtnhpamfmbledmaaDoor
open Go.RowKit
set_option linter.unusedVariables false
set_option linter.unusedSimpArgs false

theorem mix_any (key nonce b : List UInt8) (f : Nat) (A0 A1 A3 : Option Addr) (n0 n1 n3 c0 c1 c3 : Nat) (w : World) (hf : f < 4294967296) (h0 : Sl w w.heap.size A0 n0 (cb key)) (h1 : Sl w w.heap.size A1 n1 (cb nonce)) (h3 : Sl w w.heap.size A3 n3 (cb b)) (k0 : n0 ≤ c0) (k1 : n1 ≤ c1) (k3 : n3 ≤ c3) (z0 : A0 = none → c0 = 0) (z1 : A1 = none → c1 = 0) (z3 : A3 = none → c3 = 0) (hm : n3 ≤ 1000000000) (hT : TabC w) :
    Calls Tryd.prog 15 #[.slice A0 n0 c0, .slice A1 n1 c1, .int .u32 f, .slice A3 n3 c3] w (RetSl w (mixR key nonce f b) (mixE key nonce f b)) := by
  by_cases hfit : fitK key nonce = true
  · by_cases hcap : blksN b.length ≤ 4294967296 - f
    · have hq : key.length = 32 ∧ nonce.length = 12 := by simpa [fitK] using hfit
      have hn0 : n0 = 32 := by rw [← h0.1, cb_len]; exact hq.1
      have hn1 : n1 = 12 := by rw [← h1.1, cb_len]; exact hq.2
      have hn3 : n3 = b.length := by rw [← h3.1, cb_len]
      subst hn0; subst hn1
      unfold mixR mixE
      rw [if_pos hfit, if_pos hcap, if_pos hfit, if_pos hcap]
      exact mix_main key nonce b f A0 A1 A3 n3 c0 c1 c3 w hf h0 h1 h3 k0 k1 z0 z1 k3 z3 hm (by rw [hn3]; exact hcap) hT
    · exact mix_cap key nonce b f A0 A1 A3 n0 n1 n3 c0 c1 c3 w hf h0 h1 h3 hm hfit hcap
  · exact mix_none key nonce b f A0 A1 A3 n0 n1 n3 c0 c1 c3 w h0 h1 hfit

theorem rmix_any (key nonce b : List UInt8) (f : Nat) (A0 A1 A3 : Option Addr) (n0 n1 n3 c0 c1 c3 : Nat) (w : World) (hf : f < 4294967296) (h0 : Sl w w.heap.size A0 n0 (cb key)) (h1 : Sl w w.heap.size A1 n1 (cb nonce)) (h3 : Sl w w.heap.size A3 n3 (cb b)) (k0 : n0 ≤ c0) (k1 : n1 ≤ c1) (z0 : A0 = none → c0 = 0) (z1 : A1 = none → c1 = 0) (hm : n3 ≤ 1000000000) :
    Calls Tryd.prog 16 #[.slice A0 n0 c0, .slice A1 n1 c1, .int .u32 f, .slice A3 n3 c3] w (RetSl w (mixR key nonce f b) (mixE key nonce f b)) := by
  by_cases hfit : fitK key nonce = true
  · by_cases hcap : blksN b.length ≤ 4294967296 - f
    · have hq : key.length = 32 ∧ nonce.length = 12 := by simpa [fitK] using hfit
      have hn0 : n0 = 32 := by rw [← h0.1, cb_len]; exact hq.1
      have hn1 : n1 = 12 := by rw [← h1.1, cb_len]; exact hq.2
      have hn3 : n3 = b.length := by rw [← h3.1, cb_len]
      subst hn0; subst hn1
      unfold mixR mixE
      rw [if_pos hfit, if_pos hcap, if_pos hfit, if_pos hcap]
      exact rmix_main key nonce b f A0 A1 A3 n3 c0 c1 c3 w hf h0 h1 h3 k0 k1 z0 z1 hm (by rw [hn3]; exact hcap)
    · exact rmix_cap key nonce b f A0 A1 A3 n0 n1 n3 c0 c1 c3 w hf h0 h1 h3 hm hfit hcap
  · exact rmix_none key nonce b f A0 A1 A3 n0 n1 n3 c0 c1 c3 w h0 h1 hfit

def knownK : List UInt8 := (List.range 32).map UInt8.ofNat
def knownN : List UInt8 := [0, 0, 0, 9, 0, 0, 0, 74, 0, 0, 0, 0]
theorem known_fit : fitK knownK knownN = true := by decide
theorem knownK_at (k : Nat) (h : k < 32) : knownK[k]? = some (UInt8.ofNat k) := by simp [knownK, h]
theorem known_fill : Instr.fill (fun j => some (j, 1)) (zeros .u8 12).toArray [(0, .int .u8 0), (1, .int .u8 0), (2, .int .u8 0), (3, .int .u8 9), (4, .int .u8 0), (5, .int .u8 0), (6, .int .u8 0), (7, .int .u8 74), (8, .int .u8 0), (9, .int .u8 0), (10, .int .u8 0), (11, .int .u8 0)] = some (cb knownN).toArray := by rfl

set_option maxRecDepth 100000 in
set_option maxHeartbeats 600000 in
theorem awake5_any (w : World) (hT : TabC w) : Calls Tryd.prog 11 #[] w fun e w' => e = .returned (.bool true) ∧ Below w.heap.size w w' := by
  obtain ⟨K, hK⟩ : ∃ K, K = knownK := ⟨_, rfl⟩
  obtain ⟨N, hN⟩ : ∃ N, N = knownN := ⟨_, rfl⟩
  obtain ⟨B, hB⟩ : ∃ B, B = blkR K N 1 := ⟨_, rfl⟩
  have hfit : fitK K N = true := by rw [hK, hN]; exact known_fit
  have hBc : B = cblk knownK knownN 1 := by rw [hB, blkR, if_pos hfit, hK, hN]
  have HBL : Hid (B.length = 64) := by unfold Hid; rw [hBc, cblk_len]
  have HB0 : Hid (B[0]? = some 16) := by unfold Hid; rw [hBc]; exact blk_known.1
  have HB1 : Hid (B[1]? = some 241) := by unfold Hid; rw [hBc]; exact blk_known.2.1
  have HB7 : Hid (B[7]? = some 21) := by unfold Hid; rw [hBc]; exact blk_known.2.2
  have HE : Hid (blkE K N = 0) := by unfold Hid blkE; rw [if_pos hfit]
  have HKL : Hid (K.length = 32) := by unfold Hid; rw [hK]; rfl
  have HNL : Hid (N.length = 12) := by unfold Hid; rw [hN]; rfl
  have HKA : Hid (∀ k, k < 32 → K[k]? = some (UInt8.ofNat k)) := by unfold Hid; rw [hK]; exact knownK_at
  have hfl := known_fill
  rw [← hN] at hfl
  have HFL := Lib.hid hfl
  have HB := Lib.hid hB
  have HT := Lib.hid hT
  obtain ⟨i0, hi, hz0, hz1, hz2⟩ := info_parts u8_info
  clear hK hN hB hfit hBc hfl hT
  go_enter Tryd.func11, Tryd.ntmps11
  go_wp2_with (at_make; refine wpList_make_part _ rfl _ _ 22 rfl w.heap.size 5 i0 .u8 Tryd.underlying22 hi hz0 hz1 .i64 .i64 _ _ 32 32 rfl rfl rfl rfl (Nat.le_refl _) (by rw [hz2]; omega) (by unfold maxLen; omega) (Nat.le_refl _) ?_; intro w1 hown hgrow)
  have hb1 : Below w.heap.size w w1 := (Below.refl _ w).grown hgrow (Nat.le_refl _) (by simp)
  have bk : Bl w1 w.heap.size (zeros .u8 32) 5 := block_of_own hown
  clear hown hgrow
  go_loopw [8] (fun i wr => ∃ k : Nat, k ≤ 32 ∧ i = .int .i64 k ∧ Bl wr w.heap.size (cb (upTo K k)) 5 ∧ Below w.heap.size w wr) (fun i _ => 32 - (intOf i).toNat)
  case atStart => exact ⟨0, by omega, rfl, by rw [upTo_zero, HKL.out, ← zeros_cb]; exact bk, hb1⟩
  case round =>
    clear bk hb1
    obtain ⟨k, hk, rfl, bk, hb⟩ := hrel
    by_cases hlt : k < 32
    · have HS : Hid (cb (upTo K (k + 1)) = (cb (upTo K k)).set k (.int .u8 (k : Int))) := by
        unfold Hid
        rw [← upTo_set K k _ (HKA.out k hlt), cb_set, bc, UInt8.toNat_ofNat_of_lt' (by simp [UInt8.size]; omega)]
      obtain ⟨u, hc⟩ : ∃ u, wr.cell? ⟨w.heap.size, k, none⟩ = some u := ⟨_, by rw [bk.cell, List.getElem?_eq_getElem (by rw [cb_len, upTo_len _ _ (by rw [HKL.out]; omega), HKL.out]; exact hlt)]⟩
      have hf := bk.frozen k
      have hb2 := bk.set k (.int .u8 (k : Int))
      rw [← HS.out] at hb2
      have HB2 := Lib.hid hb2
      have hki : (k : Int) < 32 := by omega
      clear hb2
      go_wp2
      go_roundw
      case rel => exact ⟨k + 1, by omega, by go_num, HB2.out, hb.setCell (p := ⟨w.heap.size, k, none⟩) (Nat.le_refl _) _⟩
      case measure => simp [intOf]; omega
    · have HK32 : Hid (k = K.length) := (by have := HKL.out; omega : k = K.length)
      rw [HK32.out, upTo_all] at bk
      obtain ⟨w2, hw2⟩ : ∃ x, x = wr := ⟨wr, rfl⟩
      subst hw2
      have bn := Bl.new w2 (cb N) 5
      have hbn : Below w2.heap.size w2 (w2.alloc (.cells (cb N).toArray 5)) := (Below.refl _ w2).alloc (Nat.le_refl _) _
      have hszn : (w2.alloc (.cells (cb N).toArray 5)).heap.size = w2.heap.size + 1 := by simp
      obtain ⟨W3, hW3⟩ : ∃ W, W = w2.alloc (.cells (cb N).toArray 5) := ⟨_, rfl⟩
      rw [← hW3] at bn hbn hszn
      have HW3 := Lib.hid hW3
      have bk3 := bk.next hbn
      have hb3 := next hb hbn
      have hs0 : Sl W3 W3.heap.size (some ⟨w.heap.size, 0, none⟩) 32 (cb K) := (bk3.sl (o := 0) (n := 32) (by rw [List.drop_zero, List.take_of_length_le (by rw [cb_len, HKL.out]; omega)]) (by rw [cb_len, HKL.out]; omega)).up bk3.lt
      have hs1 : Sl W3 W3.heap.size (some ⟨w2.heap.size, 0, none⟩) 12 (cb N) := (bn.sl (o := 0) (n := 12) (by rw [List.drop_zero, List.take_of_length_le (by rw [cb_len, HNL.out]; omega)]) (by rw [cb_len, HNL.out]; omega)).up bn.lt
      clear hW3 bk bn hszn bk3
      go_wp2_with (refine wpList_buildSlice_to rfl 22 12 _ rfl 5 i0 .u8 Tryd.underlying22 hi hz0 hz1 (by omega) (by omega) (cb N) HFL.out ?_; rw [← HW3.out])
      refine (block_any K N 1 _ _ 32 12 32 12 W3 (by omega) hs0 hs1 (Nat.le_refl _) (Nat.le_refl _) (by intro h; cases h) (by intro h; cases h) (HT.out.next hb3)).mono ?_
      rintro e w4 ⟨rfl, hb4⟩
      rw [← HB.out, HE.out]
      have hb5 := next hb3 hb4
      obtain ⟨bb, hbb, hzb⟩ := put_new w4 (zeros .u8 64) (cb B) 25 (by rw [cb_len, HBL.out, zeros_len])
      obtain ⟨W5, hW5⟩ : ∃ W, W = (w4.alloc (.cells (zeros .u8 64).toArray 25)).setCells w4.heap.size 0 (cb B) := ⟨_, rfl⟩
      rw [← hW5] at bb hbb
      have HW5 := Lib.hid hW5
      have q0 : W5.cell? ⟨w4.heap.size, 0, none⟩ = some (.int .u8 16) := by rw [bb.cell, cb, List.getElem?_map, HB0.out]; rfl
      have q1 : W5.cell? ⟨w4.heap.size, 1, none⟩ = some (.int .u8 241) := by rw [bb.cell, cb, List.getElem?_map, HB1.out]; rfl
      have q7 : W5.cell? ⟨w4.heap.size, 7, none⟩ = some (.int .u8 21) := by rw [bb.cell, cb, List.getElem?_map, HB7.out]; rfl
      clear hW5 hs0 hs1 hzb bb
      go_wp2_with (first
        | (refine wpList_alloc_zero rfl 25 rfl (zeros .u8 64) zero_block ?_)
        | (refine wpList_store_mid rfl 25 _ _ rfl _ _ (cb B).toArray rfl rfl (Bl.there_ (Bl.new w4 (zeros .u8 64) 25) (by simp [zeros, cb_len, HBL.out])) (by rw [size_block, List.size_toArray, cb_len, HBL.out]) (all_oneCell_toArray (cb_one _)) ?_; change wpList _ _ _ _ _ (World.setCells (w4.alloc (.cells (zeros .u8 64).toArray 25)) w4.heap.size 0 (cb B)); rw [← HW5.out]))
      go_ret
      exact ⟨rfl, next hb5 hbb⟩

end Go.Proofs.YtnhpamfmbledmaaDoor
