/- The schedule of a block, of package digest. -/
import Derived.Test.YtfmbilnbbpbpeaaDoorDigA
import Derived.Test.YtfmbilnbbpbpeaaDoorArr
import Derived.StillTailTactics
import Derived.IntWalk
namespace Go.Proofs.YtfmbilnbbpbpeaaDoor
open Go.RowKit

theorem zero_words : (Tryd.prog.info? 68).map (·.zero) = some (some (.agg (zeros .u32 64).toArray)) := by kernel_rfl
theorem built_words : Tryd.prog.built 68 [] = some (zeros .u32 64).toArray := by kernel_rfl
theorem size_words : (Tryd.prog.info? 68).map (·.size) = some 64 := by kernel_rfl
theorem size_block : (Tryd.prog.info? 41).map (·.size) = some 64 := by kernel_rfl

/-- The words while they are reckoned, t of them so far. -/
def wsTo (b : List UInt8) (t : Nat) : List Value := us (ws b t) ++ zeros .u32 (64 - t)

theorem wsTo_zero (b : List UInt8) : wsTo b 0 = zeros .u32 64 := by simp [wsTo, ws, us]
theorem wsTo_all (b : List UInt8) : wsTo b 64 = us (ws b 64) := by simp [wsTo, zeros]
theorem wsTo_len (b : List UInt8) (t : Nat) (h : t ≤ 64) : (wsTo b t).length = 64 := by simp [wsTo, zeros_len, us_len, ws_len]; omega
theorem wsTo_set (b : List UInt8) (t x : Nat) (h : t < 64) (hx : ws b (t + 1) = ws b t ++ [x]) : (wsTo b t).set t (.int .u32 (x : Int)) = wsTo b (t + 1) := by
  unfold wsTo
  rw [hx, us_append, List.append_assoc, List.set_append_right _ _ (by rw [us_len, ws_len]; omega), us_len, ws_len, Nat.sub_self]
  congr 1
  rw [show 64 - t = (64 - (t + 1)) + 1 by omega, zeros, List.replicate_succ]
  rfl
theorem wsTo_at (b : List UInt8) (t j : Nat) (h : j < t) : (wsTo b t)[j]? = some (.int .u32 ((ws b t).getD j 0 : Nat)) := by
  unfold wsTo
  rw [List.getElem?_append_left (by rw [us_len, ws_len]; exact h), us_at (by rw [ws_len]; exact h)]

theorem sched_start (w : World) (A Z : List Value) (T1 T2 : TypeId) :
    Bl ((((w.alloc (.cells A.toArray T1)).alloc (.cells Z.toArray T2)).alloc (.cells Z.toArray T2)).setCells (w.heap.size + 1 + 1) 0 Z.toArray.toList) w.heap.size A T1 ∧
    Bl ((((w.alloc (.cells A.toArray T1)).alloc (.cells Z.toArray T2)).alloc (.cells Z.toArray T2)).setCells (w.heap.size + 1 + 1) 0 Z.toArray.toList) (w.heap.size + 1) Z T2 ∧
    Bl ((((w.alloc (.cells A.toArray T1)).alloc (.cells Z.toArray T2)).alloc (.cells Z.toArray T2)).setCells (w.heap.size + 1 + 1) 0 Z.toArray.toList) (w.heap.size + 1 + 1) Z T2 ∧
    Below w.heap.size w ((((w.alloc (.cells A.toArray T1)).alloc (.cells Z.toArray T2)).alloc (.cells Z.toArray T2)).setCells (w.heap.size + 1 + 1) 0 Z.toArray.toList) := by
  have e1 : (w.alloc (.cells A.toArray T1)).heap.size = w.heap.size + 1 := by simp
  have e2 : ((w.alloc (.cells A.toArray T1)).alloc (.cells Z.toArray T2)).heap.size = w.heap.size + 1 + 1 := by simp
  have b2 : Bl ((w.alloc (.cells A.toArray T1)).alloc (.cells Z.toArray T2)) (w.heap.size + 1) Z T2 := by rw [← e1]; exact Bl.new _ _ _
  have b3 : Bl (((w.alloc (.cells A.toArray T1)).alloc (.cells Z.toArray T2)).alloc (.cells Z.toArray T2)) (w.heap.size + 1 + 1) Z T2 := by rw [← e2]; exact Bl.new _ _ _
  refine ⟨(((Bl.new w A T1).alloc _).alloc _).sets_other (by omega) _ _, (b2.alloc _).sets_other (by omega) _ _, ?_, below_setCells ((((Below.refl _ w).alloc (Nat.le_refl _) _).alloc (by simp) _).alloc (by simp; omega) _) (by omega) _ _⟩
  have := Bl.sets (w.heap.size + 1 + 1) T2 Z 0 _ _ b3 (by omega)
  simpa [splice] using this

theorem nxt_eq (a b c d : Nat) : ((a : Int) + b + c + d) % 4294967296 = (((a + b + c + d) % 4294967296 : Nat) : Int) := by omega

set_option maxHeartbeats 1000000 in
theorem sched_any (buf : List UInt8) (w : World) (hl : buf.length = 64) :
    Calls Tryd.prog 40 #[.agg (cb buf).toArray] w fun e w' => e = .returned (.agg (us (ws buf 64)).toArray) ∧ Below w.heap.size w w' := by
  have HL := Lib.hid hl
  clear hl
  go_enter Tryd.func40, Tryd.ntmps40
  go_wp2_with (first
    | (refine wpList_alloc_zero rfl 68 rfl (zeros .u32 64) zero_words ?_)
    | (refine wpList_build_to rfl 68 _ rfl (zeros .u32 64) built_words ?_)
    | (refine wpList_store_mid rfl 68 _ _ rfl _ _ (zeros .u32 64).toArray rfl rfl (Bl.there_ (Bl.new _ (zeros .u32 64) 68) (by simp [zeros])) (by rw [size_words, List.size_toArray, zeros_len]) (all_oneCell_toArray (zeros_one _ _)) ?_))
  obtain ⟨b0, b1, b2, hb0⟩ := sched_start w (cb buf) (zeros .u32 64) 41 68
  go_loopw [7] (fun i wr => ∃ k : Nat, k ≤ 16 ∧ i = .int .i64 k ∧ Bl wr w.heap.size (cb buf) 41 ∧ Bl wr (w.heap.size + 1) (zeros .u32 64) 68 ∧ Bl wr (w.heap.size + 1 + 1) (wsTo buf k) 68 ∧ Below w.heap.size w wr) (fun i _ => 16 - (intOf i).toNat)
  case atStart => exact ⟨0, by omega, rfl, b0, b1, by rw [wsTo_zero]; exact b2, hb0⟩
  case round =>
    clear b0 b1 b2 hb0
    obtain ⟨k, hk, rfl, b0, b1, b2, hb⟩ := hrel
    by_cases hlt : k < 16
    · go_wp2_with fail
      rw [run_slice_arr wr 41 5 w.heap.size 0 64 Tryd.underlying41 u8_size .i64 .i64 _ _ (4 * k) (4 * k + 4) (by omega) (by omega) (by omega) (by omega) (by omega)]
      go_wp2_with fail
      have hsl := b0.sl (o := 4 * k) (n := 4) (xs := cb ((buf.drop (4 * k)).take 4)) (cb_slice _ _ _) (by rw [cb_len, HL.out]; omega)
      refine (load_any ((buf.drop (4 * k)).take 4) false _ _ _ _ _ hsl (by decide)).mono ?_
      rintro e w1 ⟨rfl, hD⟩
      have hb1 : Below w.heap.size w w1 := hb.trans (hD.below _)
      have c0 := b0.keep (w' := w1) (by obtain ⟨m, rfl⟩ := hD; rfl)
      have c1 := b1.keep (w' := w1) (by obtain ⟨m, rfl⟩ := hD; rfl)
      have c2 := b2.keep (w' := w1) (by obtain ⟨m, rfl⟩ := hD; rfl)
      have hcell : ∃ u, w1.cell? ⟨w.heap.size + 1 + 1, k, none⟩ = some u := ⟨_, by rw [c2.cell, List.getElem?_eq_getElem (by rw [wsTo_len _ _ (by omega)]; omega)]⟩
      obtain ⟨u, hcell⟩ := hcell
      have hfr := c2.frozen k
      have HS : Hid ((wsTo buf k).set k (.int .u32 (wd buf k : Int)) = wsTo buf (k + 1)) := wsTo_set buf k _ (by omega) (ws_low buf k hlt)
      have HW : Hid (loadV ((buf.drop (4 * k)).take 4) false = wd buf k) := (rfl : _ = _)
      rw [HW.out]
      have d2 := Lib.hid (c2.set k (.int .u32 (wd buf k : Int)))
      clear hD hsl b0 b1 b2 hb c2
      go_wp2
      go_roundw
      case rel => exact ⟨k + 1, by omega, by go_num, c0.set_other _ _ (by simp; omega), c1.set_other _ _ (by simp), by rw [← HS.out]; exact d2.out, hb1.setCell (by simp; omega) _⟩
      case measure => simp [intOf]; omega
    · have HK : Hid (k = 16) := (by omega : k = 16)
      go_wp2
      go_loopw [5] (fun i wr => ∃ k : Nat, 16 ≤ k ∧ k ≤ 64 ∧ i = .int .i64 k ∧ Bl wr (w.heap.size + 1) (zeros .u32 64) 68 ∧ Bl wr (w.heap.size + 1 + 1) (wsTo buf k) 68 ∧ Below w.heap.size w wr) (fun i _ => 64 - (intOf i).toNat)
      case atStart => exact ⟨16, by omega, by omega, rfl, b1, by rw [← HK.out]; exact b2, hb⟩
      case round =>
        clear b0 b1 b2 hb
        obtain ⟨t, ht16, ht, rfl, b1, b2, hb⟩ := hrel
        by_cases hlt2 : t < 64
        · have hwl := ws_lt buf t
          obtain ⟨p, hp⟩ : ∃ p, p = (ws buf t).getD (t - 2) 0 := ⟨_, rfl⟩
          obtain ⟨q, hq⟩ : ∃ q, q = (ws buf t).getD (t - 7) 0 := ⟨_, rfl⟩
          obtain ⟨r, hr⟩ : ∃ r, r = (ws buf t).getD (t - 15) 0 := ⟨_, rfl⟩
          obtain ⟨z, hz⟩ : ∃ z, z = (ws buf t).getD (t - 16) 0 := ⟨_, rfl⟩
          have lp : p < 4294967296 := by rw [hp]; exact getD_lt32 hwl _
          have lq : q < 4294967296 := by rw [hq]; exact getD_lt32 hwl _
          have lr : r < 4294967296 := by rw [hr]; exact getD_lt32 hwl _
          have lz : z < 4294967296 := by rw [hz]; exact getD_lt32 hwl _
          have i2 : ((t : Int) - 2).toNat = t - 2 := by omega
          have i7 : ((t : Int) - 7).toNat = t - 7 := by omega
          have i15 : ((t : Int) - 15).toNat = t - 15 := by omega
          have i16 : ((t : Int) - 16).toNat = t - 16 := by omega
          have cp : wr.cell? ⟨w.heap.size + 1 + 1, t - 2, none⟩ = some (.int .u32 (p : Int)) := by rw [b2.cell, wsTo_at buf t _ (by omega), hp]
          have cq : wr.cell? ⟨w.heap.size + 1 + 1, t - 7, none⟩ = some (.int .u32 (q : Int)) := by rw [b2.cell, wsTo_at buf t _ (by omega), hq]
          have cr : wr.cell? ⟨w.heap.size + 1 + 1, t - 15, none⟩ = some (.int .u32 (r : Int)) := by rw [b2.cell, wsTo_at buf t _ (by omega), hr]
          have cz : wr.cell? ⟨w.heap.size + 1 + 1, t - 16, none⟩ = some (.int .u32 (z : Int)) := by rw [b2.cell, wsTo_at buf t _ (by omega), hz]
          have hfr := b2.frozen t
          have hcell : ∃ u, wr.cell? ⟨w.heap.size + 1 + 1, t, none⟩ = some u := ⟨_, by rw [b2.cell, List.getElem?_eq_getElem (by rw [wsTo_len _ _ (by omega)]; omega)]⟩
          obtain ⟨u, hcell⟩ := hcell
          have HX : Hid (nxt (ws buf t) t = (ss1 p + q + ss0 r + z) % 4294967296) := by unfold Hid nxt; rw [hp, hq, hr, hz]
          clear hp hq hr hz hwl
          have n2 : (0 : Int) ≤ (t : Int) - 2 := by omega
          have n7 : (0 : Int) ≤ (t : Int) - 7 := by omega
          have n15 : (0 : Int) ≤ (t : Int) - 15 := by omega
          have n16 : (0 : Int) ≤ (t : Int) - 16 := by omega
          have s2 : (2 : Int) ≤ (t : Int) := by omega
          have s7 : (7 : Int) ≤ (t : Int) := by omega
          have s15 : (15 : Int) ≤ (t : Int) := by omega
          have s16 : (16 : Int) ≤ (t : Int) := by omega
          have m2 : (t : Int) - 2 < 64 := by omega
          have m7 : (t : Int) - 7 < 64 := by omega
          have m15 : (t : Int) - 15 < 64 := by omega
          have m16 : (t : Int) - 16 < 64 := by omega
          have x2 : IntKind.i64.wrap ((t : Int) - 2) = (t : Int) - 2 := IntWalk.i64_in _ (by omega)
          have x7 : IntKind.i64.wrap ((t : Int) - 7) = (t : Int) - 7 := IntWalk.i64_in _ (by omega)
          have x15 : IntKind.i64.wrap ((t : Int) - 15) = (t : Int) - 15 := IntWalk.i64_in _ (by omega)
          have x16 : IntKind.i64.wrap ((t : Int) - 16) = (t : Int) - 16 := IntWalk.i64_in _ (by omega)
          go_wp2_with fail
          refine wp_region_still_tail 23 (by kernel_rfl) (by kernel_rfl) ?_
          simp only [List.take_succ_cons, List.take_zero, List.drop_succ_cons, List.drop_zero]
          repeat still_step
          still_call (still_of (ss1_any p _ lp))
          repeat still_step
          still_call (still_of (ss0_any r _ lr))
          repeat still_step
          refine wpStill_nil ?_
          have HT := Lib.hid (b2.set t (.int .u32 (nxt (ws buf t) t : Nat)))
          have HS : Hid ((wsTo buf t).set t (.int .u32 (nxt (ws buf t) t : Nat)) = wsTo buf (t + 1)) := wsTo_set buf t _ (by omega) (ws_high buf t ht16)
          go_wp2
          go_roundw
          case rel =>
            rw [nxt_eq, ← HX.out]
            exact ⟨t + 1, by omega, by omega, by go_num, (b1.set_other _ _ (by simp)).drew, by rw [← HS.out]; exact HT.out.drew, (hb.setCell (by simp; omega) _).drew⟩
          case measure => simp [intOf]; omega
        · have HK2 : Hid (t = 64) := (by omega : t = 64)
          have HT := Lib.hid b2
          clear b2
          go_wp2_with (first
            | (refine wpList_load_mid rfl 68 _ rfl _ _ rfl (us (ws buf 64)) _ ?_ Tryd.underlying68 rfl (by rw [size_words, us_len, ws_len]) ?_; (have := HT.out.whole; rw [HK2.out, wsTo_all] at this; exact this))
            | (refine wpList_store_mid rfl 68 _ _ rfl _ _ (us (ws buf 64)).toArray rfl rfl (b1.there_ (by simp [zeros, us_len, ws_len])) (by rw [size_words, List.size_toArray, us_len, ws_len]) (all_oneCell_toArray (us_one _)) ?_))
          have hc := Bl.sets (w.heap.size + 1) 68 (us (ws buf 64)) 0 _ _ b1 (by simp [zeros_len, us_len, ws_len])
          have he : splice (zeros .u32 64) 0 (us (ws buf 64)) = us (ws buf 64) := by simp [splice, zeros, us_len, ws_len]
          rw [he] at hc
          exact ret_row Tryd.results40 rfl hc Tryd.underlying68 rfl (by rw [size_words, us_len, ws_len]) rfl ⟨rfl, below_setCells hb (by omega) _ _⟩

end Go.Proofs.YtfmbilnbbpbpeaaDoor

