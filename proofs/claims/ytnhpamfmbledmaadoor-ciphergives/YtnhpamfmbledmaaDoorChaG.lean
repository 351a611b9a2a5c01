/- Blocks and mixBlock of package cipher. -/
import Derived.Test.YtnhpamfmbledmaaDoorChaF
namespace Go.Proofs.YtnhpamfmbledmaaDoor
open Go.RowKit
set_option linter.unusedVariables false
set_option linter.unusedSimpArgs false

/-- What Blocks gives where key and nonce may be. -/
def RetSeq (w : World) (key nonce : List UInt8) (f : Nat) (e : Ending) (w' : World) : Prop := ∃ gF gS, e = .returned (.func (.func 24) #[] #[.pointer (some ⟨gF, 0, none⟩), .pointer (some ⟨gS, 0, none⟩)]) ∧ w.heap.size ≤ gF ∧ gF < gS ∧
  Bl w' gF [.int .u32 (f : Int)] 23 ∧ Bl w' gS (us (stOf key nonce 0)) 47 ∧ Below w.heap.size w w'

set_option maxHeartbeats 600000 in
theorem blocks_any (key nonce : List UInt8) (f : Nat) (A0 A1 : Option Addr) (c0 c1 : Nat) (w : World) (h0 : Sl w w.heap.size A0 32 (cb key)) (h1 : Sl w w.heap.size A1 12 (cb nonce)) (k0 : 32 ≤ c0) (k1 : 12 ≤ c1) (z0 : A0 = none → c0 = 0) (z1 : A1 = none → c1 = 0) :
    Calls Tryd.prog 13 #[.slice A0 32 c0, .slice A1 12 c1, .int .u32 f] w (RetSeq w key nonce f) := by
  have b0 := Bl.new w [.int .u32 (f : Int)] 23
  have hb0 : Below w.heap.size w (w.alloc (.cells [Value.int .u32 (f : Int)].toArray 23)) := (Below.refl _ w).alloc (Nat.le_refl _) _
  have hsz0 : (w.alloc (.cells [Value.int .u32 (f : Int)].toArray 23)).heap.size = w.heap.size + 1 := by simp
  obtain ⟨W0, hW0⟩ : ∃ W, W = w.alloc (.cells [Value.int .u32 (f : Int)].toArray 23) := ⟨_, rfl⟩
  rw [← hW0] at b0 hb0 hsz0
  have HW0 := Lib.hid hW0
  have HSZ0 := Lib.hid hsz0
  have HF : Hid (Calls Tryd.prog 17 #[.slice A0 32 c0, .slice A1 12 c1] W0 fun e w' => e = .returned (.bool true) ∧ W0 = w') := fit_any 32 12 c0 c1 A0 A1 W0
  clear hsz0 hW0
  go_enter Tryd.func13, Tryd.ntmps13
  go_wp2_with fail
  rw [← HW0.out]
  refine HF.out.mono ?_
  rintro e w' ⟨rfl, rfl⟩
  obtain ⟨s, hs⟩ : ∃ s, s = stOf key nonce 0 := ⟨_, rfl⟩
  have HS := Lib.hid hs
  have HSL : Hid (s.length = 16) := by unfold Hid; rw [hs, stOf_len]
  clear hs
  go_wp2_with fail
  refine (init_any key nonce A0 A1 c0 c1 _ s (h0.nx hb0) (h1.nx hb0) k0 k1 z0 z1 HS.out).mono ?_
  rintro e w2 ⟨rfl, hb2⟩
  have b02 := b0.next hb2
  have hbw2 := next hb0 hb2
  obtain ⟨bs, hb3, hz3⟩ := put_new w2 (zeros .u32 16) (us s) 47 (by rw [us_len, HSL.out, zeros_len])
  have b03 := b02.next hb3
  have hbw3 := next hbw2 hb3
  have hlt : w.heap.size < w2.heap.size := by have h1 := hb2.size; have h2 := HSZ0.out; omega
  have hmk : Hid (∀ w', (Instr.makeFunc (.func 24) #[] #[.pointer (some ⟨w.heap.size, 0, none⟩), .pointer (some ⟨w2.heap.size, 0, none⟩)]).run Tryd.prog w' = .ok (.func (.func 24) #[] #[.pointer (some ⟨w.heap.size, 0, none⟩), .pointer (some ⟨w2.heap.size, 0, none⟩)]) w') := fun _ => rfl
  clear b02 hbw2 hb2 b0 hb0
  go_wp2_with (first
    | (refine wpList_alloc_zero rfl 47 rfl (zeros .u32 16) zero_16 ?_)
    | (refine wpList_store_mid rfl 47 _ _ rfl _ _ (us s).toArray rfl rfl (Bl.there_ (Bl.new w2 (zeros .u32 16) 47) (by simp [zeros, us_len, HSL.out])) (by rw [size_16, List.size_toArray, us_len, HSL.out]) (all_oneCell_toArray (us_one _)) ?_))
  go_ret
  exact ⟨w.heap.size, w2.heap.size, rfl, Nat.le_refl _, hlt, b03, by rw [← HS.out]; exact bs, hbw3⟩

theorem blocks_none (n m f : Nat) (A0 A1 : Option Addr) (c0 c1 : Nat) (w : World) (hq : (n == 32 && m == 12) = false) :
    Calls Tryd.prog 13 #[.slice A0 n c0, .slice A1 m c1, .int .u32 f] w fun e w' => e = .returned (.func (.func 23) #[] #[]) ∧ Below w.heap.size w w' := by
  have hf := fit_any n m c0 c1 A0 A1 (w.alloc (.cells #[Value.int .u32 (f : Int)] 23))
  rw [hq] at hf
  have HF := Lib.hid hf
  clear hf hq
  go_enter Tryd.func13, Tryd.ntmps13
  go_wp2_with fail
  refine HF.out.mono ?_
  rintro e w' ⟨rfl, rfl⟩
  go_wp2
  go_ret
  exact ⟨rfl, (Below.refl _ w).alloc (Nat.le_refl _) _⟩

theorem xl_take_len (l b : List UInt8) (t : Nat) (hl : t ≤ l.length) (hb : t ≤ b.length) : (xl (l.take t) (b.take t)).length = t := by simp [xl]; omega
theorem xl_take_at (l b : List UInt8) (t k : Nat) (hl : t ≤ l.length) (hb : t ≤ b.length) (hk : k < t) : (xl (l.take t) (b.take t))[k]? = some (l[k]'(by omega) ^^^ b[k]'(by omega)) := by
  simp [xl, List.getElem?_zipWith, List.getElem?_take, hk, show k < l.length by omega, show k < b.length by omega]
theorem cb_take_succ (z : List UInt8) (k : Nat) (b : UInt8) (h : z[k]? = some b) : cb (z.take (k + 1)) = cb (z.take k) ++ [bc b] := by
  obtain ⟨hk, e⟩ := List.getElem?_eq_some_iff.1 h
  rw [List.take_succ_eq_append_getElem hk, cb_append, e]
  rfl

set_option maxHeartbeats 600000 in
theorem mixb_any (gm off n c : Nat) (cs : List Value) (T : TypeId) (l blk : List UInt8) (A : Option Addr) (m c' B t : Nat) (w : World) (hg : Bl w gm cs T) (hfit : off + n ≤ cs.length) (h : Sl w B A m (cb l)) (hB : B ≤ w.heap.size) (ho : Off gm m A) (hb : blk.length = 64) (hmn : m ≤ n) (hm : m ≤ 1000000000000) (ht : t = min m 64) :
    Calls Tryd.prog 26 #[.slice (some ⟨gm, off, none⟩) n c, .slice A m c', .agg (cb blk).toArray] w fun e w' => e = .returned (.int .i64 (t : Nat)) ∧ Bl w' gm (splice cs off (cb (xl (l.take t) (blk.take t)))) T ∧ w.grownBy w' (some gm) := by
  have hml : m = l.length := by rw [← h.1, cb_len]
  have htm : t ≤ m ∧ t ≤ 64 := by omega
  obtain ⟨htm, ht64⟩ := htm
  obtain ⟨z, hz⟩ : ∃ z, z = xl (l.take t) (blk.take t) := ⟨_, rfl⟩
  have HZL : Hid (z.length = t) := by unfold Hid; rw [hz]; exact xl_take_len l blk t (by omega) (by omega)
  have HZA : Hid (∀ k, k < t → ∃ x y : UInt8, l[k]? = some x ∧ blk[k]? = some y ∧ z[k]? = some (x ^^^ y)) := fun k hk => ⟨_, _, List.getElem?_eq_getElem (by omega), List.getElem?_eq_getElem (by omega), by rw [hz]; exact xl_take_at l blk t k (by omega) (by omega) hk⟩
  rw [← hz]
  have HML := Lib.hid hml
  have HBL := Lib.hid hb
  have HFIT := Lib.hid hfit
  have hgl := hg.lt
  have bb := Bl.new w (cb blk) 25
  have hg0 := hg.alloc (.cells (cb blk).toArray 25)
  have hgr0 : w.grownBy (w.alloc (.cells (cb blk).toArray 25)) (some gm) := but_below ((Below.refl _ w).alloc (Nat.le_refl _) _)
  have hmin : (if (64 : Int) < (m : Int) then (64 : Int) else (m : Int)) = (t : Int) := by split <;> omega
  clear hml hb hfit hz ht
  go_enter Tryd.func26, Tryd.ntmps26
  go_wp2_with (refine wpList_box_agg rfl 25 _ rfl (cb blk) rfl ?_)
  go_loopw [13] (fun i wr => ∃ k : Nat, k ≤ t ∧ i = .int .i64 k ∧ Bl wr gm (splice cs off (cb (z.take k))) T ∧ Bl wr w.heap.size (cb blk) 25 ∧ w.grownBy wr (some gm)) (fun i _ => t - (intOf i).toNat)
  case atStart => exact ⟨0, by omega, rfl, by rw [List.take_zero, show cb [] = [] from rfl, splice_nil]; exact hg0, bb, hgr0⟩
  case round =>
    clear bb hg0 hgr0
    obtain ⟨k, hk, rfl, bm, bb, hgr⟩ := hrel
    by_cases hlt : k < t
    · obtain ⟨x, y, hx, hy, hzk⟩ := HZA.out k hlt
      obtain ⟨hkl, ex⟩ := List.getElem?_eq_some_iff.1 hx
      have hsl := sl_off h hgr hB ho
      obtain ⟨ad, hA, hbl, hc1⟩ := hsl.byte (j := k) hkl
      rw [ex] at hc1
      have hc2 := bb.cell k
      rw [cb, List.getElem?_map, hy] at hc2
      have hc2' : wr.cell? ⟨w.heap.size, k, none⟩ = some (.int .u8 (y.toNat : Int)) := hc2
      obtain ⟨C, hC⟩ : ∃ C, C = splice cs off (cb (z.take k)) := ⟨_, rfl⟩
      have hzt : (cb (z.take k)).length = k := by rw [cb_len, List.length_take, HZL.out]; omega
      have hcl : C.length = cs.length := by rw [hC, splice_len _ _ _ (by rw [hzt]; have := HFIT.out; omega)]
      have HS : Hid (C.set (off + k) (bc (x ^^^ y)) = splice cs off (cb (z.take (k + 1)))) := by
        unfold Hid
        have := splice_snoc cs (cb (z.take k)) off (bc (x ^^^ y)) (by rw [hzt]; have := HFIT.out; omega)
        rw [hzt, ← hC] at this
        rw [this, cb_take_succ z k _ hzk]
      rw [← hC] at bm
      obtain ⟨u, hcm⟩ : ∃ u, wr.cell? ⟨gm, off + k, none⟩ = some u := ⟨_, by rw [bm.cell, List.getElem?_eq_getElem (by rw [hcl]; have := HFIT.out; omega)]⟩
      have hf := bm.frozen (off + k)
      have hx1 := x.toNat_lt
      have hy1 := y.toNat_lt
      have HX := Lib.hid (byte_xor2 x y)
      have hi0 : (0 : Int) ≤ (k : Int) := by omega
      have hi1 : (k : Int) < 64 := by omega
      have hi2 : (k : Int) < (m : Int) := by omega
      have hi3 : (k : Int) < (n : Int) := by omega
      have d1 := Lib.hid (bm.set (off + k) (bc (x ^^^ y)))
      have hne : gm ≠ w.heap.size := by omega
      clear hc2 hx hy hzk ex hC hzt hcl hsl hbl hmin
      subst hA
      go_wp2
      go_still_tail 11, (by kernel_rfl)
      go_wp2
      go_roundw
      case rel =>
        rw [HX.out]
        exact ⟨k + 1, by omega, by go_num, by rw [← HS.out]; exact d1.out.drew, (bb.set_other _ _ (Ne.symm hne)).drew, but_drewN (but_setCell hgr _ _) 1⟩
      case measure => simp [intOf]; omega
    · have HK : Hid (k = t) := (by omega : k = t)
      rw [HK.out, List.take_of_length_le (by rw [HZL.out]; omega)] at bm
      go_wp2
      go_ret
      exact ⟨rfl, bm, hgr⟩

end Go.Proofs.YtnhpamfmbledmaaDoor
