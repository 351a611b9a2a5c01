/- Block, Blocks, mixBlock, blocksFor of package cipher. -/
import Derived.Test.YtnhpamfmbledmaaDoorChaE
import Derived.Laws.ResultCell
namespace Go.Proofs.YtnhpamfmbledmaaDoor
open Go.RowKit
set_option linter.unusedVariables false
set_option linter.unusedSimpArgs false

theorem ret_row_tmp {P : Program} {fn : Func} {R : Ending → World → Prop} {a : Act} {w : World} {p u : Tmp} {ty : TypeId} {g : Nat} {cs : List Value} {t : TypeId} {d : TypeDesc} (hres : fn.results = #[.cell p ty, .tmp u])
    (hp : a.tmps.getD p undef = .pointer (some ⟨g, 0, none⟩)) (hb : Bl w g cs t) (hu : P.underlying ty = some d) (hd : d.isRow = true) (hi : (P.info? ty).map (·.size) = some cs.length)
    (hdf : a.defers = []) (hR : R (.returned (.tuple #[.agg cs.toArray, a.tmps.getD u undef])) w) : bodyPost P fn R .ret a w := by
  refine bodyPost_ret ?_ hdf hR
  rw [results_cell_tmp hres, hp]
  simp only [asAddr, Sem.run_pure, Result.andThen_ok]
  rw [run_loadVar_mid w g 0 ty cs d hb.whole hu hd hi]
  rfl

theorem stb (key nonce : List UInt8) (n : Nat) : blkS ((stOf key nonce 0).set 12 n) = cblk key nonce n := by rw [stOf_set]; rfl

/-- What Block gives. -/
def blkR (key nonce : List UInt8) (n : Nat) : List UInt8 := if fitK key nonce then cblk key nonce n else List.replicate 64 0
def blkE (key nonce : List UInt8) : Int := if fitK key nonce then 0 else 1

set_option maxHeartbeats 600000 in
theorem block_any (key nonce : List UInt8) (n : Nat) (A0 A1 : Option Addr) (n0 n1 c0 c1 : Nat) (w : World) (hn : n < 4294967296) (h0 : Sl w w.heap.size A0 n0 (cb key)) (h1 : Sl w w.heap.size A1 n1 (cb nonce)) (k0 : n0 ≤ c0) (k1 : n1 ≤ c1) (z0 : A0 = none → c0 = 0) (z1 : A1 = none → c1 = 0) (hT : TabC w) :
    Calls Tryd.prog 9 #[.slice A0 n0 c0, .slice A1 n1 c1, .int .u32 n] w fun e w' => e = .returned (.tuple #[.agg (cb (blkR key nonce n)).toArray, .int .i64 (blkE key nonce)]) ∧ Below w.heap.size w w' := by
  have hn0 : n0 = key.length := by rw [← h0.1, cb_len]
  have hn1 : n1 = nonce.length := by rw [← h1.1, cb_len]
  obtain ⟨B, hB⟩ : ∃ B, B = blkR key nonce n := ⟨_, rfl⟩
  have HBL : Hid (B.length = 64) := by unfold Hid; rw [hB]; unfold blkR; split <;> simp [cblk_len]
  rw [← hB]
  obtain ⟨E, hE⟩ : ∃ E, E = blkE key nonce := ⟨_, rfl⟩
  rw [← hE]
  have b0 := Bl.new w (zeros .u8 64) 25
  have hb0 : Below w.heap.size w (w.alloc (.cells (zeros .u8 64).toArray 25)) := (Below.refl _ w).alloc (Nat.le_refl _) _
  have hsz0 : (w.alloc (.cells (zeros .u8 64).toArray 25)).heap.size = w.heap.size + 1 := by simp
  obtain ⟨W0, hW0⟩ : ∃ W, W = w.alloc (.cells (zeros .u8 64).toArray 25) := ⟨_, rfl⟩
  rw [← hW0] at b0 hb0 hsz0
  have HW0 := Lib.hid hW0
  have HSZ0 := Lib.hid hsz0
  have HT := Lib.hid hT
  have HK0 := Lib.hid hn0
  have HK1 := Lib.hid hn1
  have hf := fit_any n0 n1 c0 c1 A0 A1 W0
  by_cases hfit : fitK key nonce = true
  · have HB : Hid (B = cblk key nonce n) := by unfold Hid; rw [hB, blkR, if_pos hfit]
    have HE : Hid (E = 0) := by unfold Hid; rw [hE, blkE, if_pos hfit]
    have hq : n0 = 32 ∧ n1 = 12 := by rw [hn0, hn1]; simpa [fitK] using hfit
    obtain ⟨rfl, rfl⟩ := hq
    have HF : Hid (Calls Tryd.prog 17 #[.slice A0 32 c0, .slice A1 12 c1] W0 fun e w' => e = .returned (.bool true) ∧ W0 = w') := hf
    clear hfit hB hE hn0 hn1 hsz0 hT hf hW0
    go_enter Tryd.func9, Tryd.ntmps9
    go_wp2_with (refine wpList_alloc_zero rfl 25 rfl (zeros .u8 64) zero_block ?_; rw [← HW0.out])
    refine HF.out.mono ?_
    rintro e w' ⟨rfl, rfl⟩
    obtain ⟨s, hs⟩ : ∃ s, s = stOf key nonce 0 := ⟨_, rfl⟩
    have HS := Lib.hid hs
    have HSL : Hid (s.length = 16) := by unfold Hid; rw [hs, stOf_len]
    have HSW : Hid (Wds s) := by unfold Hid; rw [hs]; exact stOf_ok _ _ _ (by decide)
    clear hs
    go_wp2_with fail
    refine (init_any key nonce A0 A1 c0 c1 _ s (h0.nx hb0) (h1.nx hb0) k0 k1 z0 z1 HS.out).mono ?_
    rintro e w2 ⟨rfl, hb2⟩
    have b02 := b0.next hb2
    have hbw2 := next hb0 hb2
    go_wp2_with fail
    refine (bo_any s n _ HSL.out HSW.out hn (HT.out.next hbw2) B (by rw [HB.out, HS.out, stb])).mono ?_
    rintro e w3 ⟨rfl, hb3⟩
    have b03 := b02.next hb3
    have hbw3 := next hbw2 hb3
    clear b02 hbw2 hb2 hb3 b0 hb0
    go_wp2_with (refine wpList_store_mid rfl 25 _ _ rfl _ _ (cb B).toArray rfl rfl (b03.there_ (by simp [zeros, cb_len, HBL.out])) (by rw [size_block, List.size_toArray, cb_len, HBL.out]) (all_oneCell_toArray (cb_one _)) ?_)
    have hfin := b03.over (vs := cb B) (by rw [cb_len, HBL.out, zeros_len])
    exact ret_row_tmp Tryd.results9 rfl hfin Tryd.underlying25 rfl (by rw [size_block, cb_len, HBL.out]) rfl ⟨by rw [HE.out]; rfl, below_setCells hbw3 (Nat.le_refl _) _ _⟩
  · have HB : Hid (cb B = zeros .u8 64) := by unfold Hid; rw [hB, blkR, if_neg hfit, zeros_cb]
    have HE : Hid (E = 1) := by unfold Hid; rw [hE, blkE, if_neg hfit]
    have hq : (n0 == 32 && n1 == 12) = false := by rw [hn0, hn1]; simpa [fitK] using hfit
    rw [hq] at hf
    have HF := Lib.hid hf
    clear hfit hB hE hn0 hn1 hsz0 hT hf hW0 hq
    go_enter Tryd.func9, Tryd.ntmps9
    go_wp2_with (refine wpList_alloc_zero rfl 25 rfl (zeros .u8 64) zero_block ?_; rw [← HW0.out])
    refine HF.out.mono ?_
    rintro e w' ⟨rfl, rfl⟩
    go_wp2_with (first
      | (refine wpList_build_to rfl 25 _ rfl (zeros .u8 64) built_block ?_)
      | (refine wpList_store_mid rfl 25 _ _ rfl _ _ (zeros .u8 64).toArray rfl rfl (b0.there_ (by simp [zeros])) (by rw [size_block, List.size_toArray, zeros_len]) (all_oneCell_toArray (zeros_one _ _)) ?_))
    have hfin := b0.over (vs := zeros .u8 64) rfl
    exact ret_row_tmp Tryd.results9 rfl hfin Tryd.underlying25 rfl (by rw [size_block, zeros_len]) rfl ⟨by rw [HE.out, HB.out]; rfl, below_setCells hb0 (Nat.le_refl _) _ _⟩

theorem bfor_any (n : Nat) (w : World) (hn : n ≤ 9223372036854775807) :
    Calls Tryd.prog 25 #[.int .i64 n] w fun e w' => e = .returned (.int .u64 (blksN n : Nat)) ∧ w = w' := by
  have H : Hid (((n : Int) + 64 - 1) / 64 = ((blksN n : Nat) : Int)) := by unfold Hid blksN; omega
  go_enter Tryd.func25, Tryd.ntmps25
  go_wp2
  go_ret
  exact ⟨ret_int H.out, rfl⟩

end Go.Proofs.YtnhpamfmbledmaaDoor
