/- block of package stretch. -/
import Derived.Test.YtfmbilnbbpbpeaaDoorMacE
import Derived.Test.YtfmbilnbbpbpeaaDoorDigY
import Derived.Test.YtfmbilnbbpbpeaaDoorStr
namespace Go.Proofs.YtfmbilnbbpbpeaaDoor
open Go.RowKit
set_option linter.unusedVariables false
set_option linter.unusedSimpArgs false

/-- A new variable of many cells that is written whole. -/
theorem put_new (w : World) (z xs : List Value) (t : TypeId) (h : xs.length = z.length) :
    Bl ((w.alloc (.cells z.toArray t)).setCells w.heap.size 0 xs) w.heap.size xs t ∧ Below w.heap.size w ((w.alloc (.cells z.toArray t)).setCells w.heap.size 0 xs) ∧ ((w.alloc (.cells z.toArray t)).setCells w.heap.size 0 xs).heap.size = w.heap.size + 1 :=
  ⟨(Bl.new w z t).over h, below_setCells ((Below.refl _ w).alloc (Nat.le_refl _) _) (Nat.le_refl _) _ _, by rw [size_setCells]; simp⟩
theorem list_two_n {w : World} {A A' : Option Addr} {n n' c c' : Nat} {l l' : List UInt8} (t : TypeId) (hn : n = l.length) (hn' : n' = l'.length) (hs : Sl w w.heap.size A n (cb l)) (hc : n ≤ c) (hz : A = none → c = 0) (hs' : Sl w w.heap.size A' n' (cb l')) (hc' : n' ≤ c') (hz' : A' = none → c' = 0) :
    Parts (w.alloc (.cells #[.slice A n c, .slice A' n' c'] t)) (w.alloc (.cells #[.slice A n c, .slice A' n' c'] t)).heap.size (some ⟨w.heap.size, 0, none⟩) 2 [l, l'] ∧ Below w.heap.size w (w.alloc (.cells #[.slice A n c, .slice A' n' c'] t)) := by
  subst hn; subst hn'
  exact list_two t hs hc hz hs' hc' hz'
theorem list_one_m {w : World} {A : Option Addr} {n c : Nat} {l : List UInt8} (t : TypeId) (hn : n = l.length) (hs : Sl w w.heap.size A n (cb l)) (hc : n ≤ c) (hz : A = none → c = 0) :
    Parts (w.alloc (.cells #[.slice A n c] t)) (w.alloc (.cells #[.slice A n c] t)).heap.size (some ⟨w.heap.size, 0, none⟩) 1 [l] ∧ Below w.heap.size w (w.alloc (.cells #[.slice A n c] t)) := by
  subst hn
  exact list_one t hs hc hz
theorem byte_xor2 (x p : UInt8) : bits BinOp.xor IntKind.u8 (x.toNat : Int) (p.toNat : Int) = ((x ^^^ p).toNat : Int) := by
  rw [u8_xor_nat _ _ x.toNat_lt p.toNat_lt, UInt8.toNat_xor]
theorem xh_cells {wr : World} {g : Nat} {t : TypeId} {a b : List UInt8} {k : Nat} (h : Bl wr g (cb (xh a b k)) t) (hl : b.length = a.length) (hk : k < a.length) : Bl (wr.setCell ⟨g, k, none⟩ (.int .u8 (bits BinOp.xor IntKind.u8 (a[k].toNat : Int) ((b[k]'(by omega)).toNat : Int)))) g (cb (xh a b (k + 1))) t := by
  have := h.set k (bc (a[k] ^^^ b[k]'(by omega)))
  rw [← cb_set, xh_next hl k hk] at this
  rw [byte_xor2]
  exact this
theorem zero_32 : (Tryd.prog.info? 38).map (·.zero) = some (some (.agg (zeros .u8 32).toArray)) := by kernel_rfl
theorem size_32 : (Tryd.prog.info? 38).map (·.size) = some 32 := by kernel_rfl

set_option maxRecDepth 100000 in
set_option maxHeartbeats 1000000 in
theorem sblock_any (gk : Nat) (key salt : List UInt8) (r x : Nat) (w : World) (B : Nat) (A : Option Addr) (n c : Nat) (hk : Ky w gk key) (h : Sl w B A n (cb salt)) (hc : n ≤ c) (hA : A = none → c = 0) (hB : B ≤ w.heap.size) (hT : Tabs w) (hn : n ≤ 1000000) (hr : r ≤ 4095) :
    Calls Tryd.prog 15 #[.pointer (some ⟨gk, 0, none⟩), .slice A n c, .int .i64 (r + 1 : Nat), .int .u32 x] w fun e w' => e = .returned (.agg (cb (tm key (salt ++ stored x false) r)).toArray) ∧ Below w.heap.size w w' := by
  have hnl : n = salt.length := by rw [← h.1, cb_len]
  have HT := Lib.hid hT
  clear hT
  obtain ⟨s, hs⟩ : ∃ s, s = salt ++ stored x false := ⟨_, rfl⟩
  have HS : Hid ([salt, stored x false].flatten = s) := by unfold Hid; rw [hs]; simp
  have HSL : Hid (s.length = n + 4) := by unfold Hid; rw [hs, List.length_append, stored_len, hnl]
  have HST := Lib.hid (stored_len x false)
  rw [← hs]
  have HNL := Lib.hid hnl
  clear hs hnl
  obtain ⟨b0, hb0⟩ : Bl (w.alloc (.cells (zeros .u8 32).toArray 38)) w.heap.size (zeros .u8 32) 38 ∧ Below w.heap.size w (w.alloc (.cells (zeros .u8 32).toArray 38)) := ⟨Bl.new _ _ _, (Below.refl _ w).alloc (Nat.le_refl _) _⟩
  obtain ⟨W0, hW0⟩ : ∃ W, W = w.alloc (.cells (zeros .u8 32).toArray 38) := ⟨_, rfl⟩
  rw [← hW0] at b0 hb0
  have HW0 := Lib.hid hW0
  clear hW0
  go_enter Tryd.func15, Tryd.ntmps15
  go_wp2_with (refine wpList_alloc_zero rfl 38 rfl (zeros .u8 32) zero_32 ?_; rw [← HW0.out])
  refine (store_any x false _).mono ?_
  rintro e w1 ⟨A1, c1, rfl, h1⟩
  have hb1 := next hb0 h1.below
  have b01 := b0.next h1.below
  have x1 := h1.sl
  have f1 := h1.none_
  have g1 := own_cap h1.own
  have y1 := (h.up hB).below hb1
  clear h1 b0 hb0
  go_wp2_with fail
  obtain ⟨hp, hbp⟩ := list_two_n 22 HNL.out HST.out.symm (y1.up hb1.size) hc hA x1 g1 f1
  have hb2 := next hb1 hbp
  have b02 := b01.next hbp
  clear hbp b01 x1 f1 g1 y1 hb1
  refine (ktag_any gk key _ _ _ _ _ _ (hk.next hb2) hp (Nat.le_refl _) (by omega) (HT.out.next hb2) (by rw [HS.out, HSL.out]; omega)).mono ?_
  rintro e w3 ⟨rfl, hb⟩
  rw [HS.out, ← um_zero]
  have hb3 := next hb2 hb
  have b03 := b02.next hb
  clear hb b02 hb2 hp
  have HU0 := Lib.hid (um_len key s 0)
  have hut : um key s 0 = tm key s 0 := rfl
  obtain ⟨U0, hU0⟩ : ∃ U, U = um key s 0 := ⟨_, rfl⟩
  rw [← hU0] at HU0 hut ⊢
  have HUT := Lib.hid hut
  have HUU := Lib.hid hU0
  clear hut hU0
  obtain ⟨bu, hb4, hz4⟩ := put_new w3 (zeros .u8 32) (cb U0) 49 (by rw [cb_len, HU0.out, zeros_len])
  obtain ⟨W4, hW4⟩ : ∃ W, W = (w3.alloc (.cells (zeros .u8 32).toArray 49)).setCells w3.heap.size 0 (cb U0) := ⟨_, rfl⟩
  rw [← hW4] at bu hb4 hz4
  obtain ⟨bt, hb5, hz5⟩ := put_new W4 (zeros .u8 32) (cb U0) 49 (by rw [cb_len, HU0.out, zeros_len])
  obtain ⟨W5, hW5⟩ : ∃ W, W = (W4.alloc (.cells (zeros .u8 32).toArray 49)).setCells W4.heap.size 0 (cb U0) := ⟨_, rfl⟩
  rw [← hW5] at bt hb5 hz5
  have HW4 := Lib.hid hW4
  have HW5 := Lib.hid hW5
  have HB4 := Lib.hid bu
  have bu5 := bu.next hb5
  have b05 := (b03.next hb4).next hb5
  have hb6 := next (next hb3 hb4) hb5
  have hwz := b03.lt
  have HZ4 := Lib.hid hz4
  have HZ5 := Lib.hid hz5
  clear hz4 hz5 hW4 hW5 b03 hb3 hb4 hb5 bu
  go_wp2_with (first
    | (refine wpList_alloc_zero rfl 49 rfl (zeros .u8 32) zero_sum ?_)
    | (refine wpList_store_mid rfl 49 _ _ rfl _ _ (cb U0).toArray rfl rfl (Bl.there_ (Bl.new w3 (zeros .u8 32) 49) (by simp [zeros, cb_len, HU0.out])) (by rw [size_sum, List.size_toArray, cb_len, HU0.out]) (all_oneCell_toArray (cb_one _)) ?_; change wpList _ _ _ _ _ (World.setCells (w3.alloc (.cells (zeros .u8 32).toArray 49)) w3.heap.size 0 (cb U0)); rw [← HW4.out])
    | (refine wpList_load_mid rfl 49 _ rfl _ _ rfl (cb U0) _ HB4.out.whole Tryd.underlying49 rfl (by rw [size_sum, cb_len, HU0.out]) ?_)
    | (refine wpList_store_mid rfl 49 _ _ rfl _ _ (cb U0).toArray rfl rfl (Bl.there_ (Bl.new W4 (zeros .u8 32) 49) (by simp [zeros, cb_len, HU0.out])) (by rw [size_sum, List.size_toArray, cb_len, HU0.out]) (all_oneCell_toArray (cb_one _)) ?_; change wpList _ _ _ _ _ (World.setCells (W4.alloc (.cells (zeros .u8 32).toArray 49)) W4.heap.size 0 (cb U0)); rw [← HW5.out]))
  obtain ⟨gu, hgu⟩ : ∃ g, g = w3.heap.size := ⟨_, rfl⟩
  obtain ⟨gt, hgt⟩ : ∃ g, g = W4.heap.size := ⟨_, rfl⟩
  have hne : gu < gt := by rw [hgu, hgt, HZ4.out]; omega
  have hwu : w.heap.size < gu := by rw [hgu]; exact hwz
  rw [← hgu, ← hgt]
  rw [← hgu] at bu5
  rw [← hgt] at bt
  clear hgu hgt hwz HZ4 HZ5
  go_loopw [21] (fun i wr => ∃ k : Nat, k ≤ r ∧ i = .int .i64 k ∧ Bl wr gu (cb (um key s k)) 49 ∧ Bl wr gt (cb (tm key s k)) 49 ∧ Bl wr w.heap.size (zeros .u8 32) 38 ∧ Below w.heap.size w wr) (fun i _ => r - (intOf i).toNat)
  case atStart => exact ⟨0, by omega, rfl, by rw [← HUU.out]; exact bu5, by rw [← HUT.out]; exact bt, b05, hb6⟩
  case round =>
    clear bu5 bt b05 hb6
    obtain ⟨k, hk2, rfl, bu, bt, b0, hb⟩ := hrel
    obtain ⟨T, hT⟩ : ∃ T, T = tm key s k := ⟨_, rfl⟩
    have HTL : Hid (T.length = 32) := by unfold Hid; rw [hT, tm_len]
    rw [← hT] at bt
    by_cases hlt : k < r
    · obtain ⟨U, hU⟩ : ∃ U, U = um key s k := ⟨_, rfl⟩
      obtain ⟨V, hV⟩ : ∃ V, V = um key s (k + 1) := ⟨_, rfl⟩
      have HUL : Hid (U.length = 32) := by unfold Hid; rw [hU, um_len]
      have HVL : Hid (V.length = 32) := by unfold Hid; rw [hV, um_len]
      have HUV : Hid (hmac key U = V) := by unfold Hid; rw [hV, hU, um_succ]
      have HX : Hid (xl T V = tm key s (k + 1)) := by unfold Hid; rw [hT, hV, tm_succ]
      have HVV := Lib.hid hV
      rw [← hU] at bu
      clear hU hV hT
      have hsl : Sl wr (gu + 1) (some ⟨gu, 0, none⟩) 32 (cb U) := bu.sl (o := 0) (n := 32) (by rw [List.drop_zero, List.take_of_length_le (by rw [cb_len, HUL.out]; omega)]) (by rw [cb_len, HUL.out]; omega)
      have hlg := bu.lt
      have hbz := hb.size
      go_wp2_with fail
      obtain ⟨hp, hbp⟩ := list_one_m 22 HUL.out.symm (hsl.up (by omega)) (Nat.le_refl 32) (by intro h; cases h)
      have hbq := hb.trans (hbp.mono hb.size)
      refine (ktag_any gk key [U] _ _ _ _ _ (hk.next hbq) hp (Nat.le_refl _) (by omega) (HT.out.next hbq) (by simp [HUL.out])).mono ?_
      rintro e w5 ⟨rfl, hb5⟩
      rw [show [U].flatten = U by simp, HUV.out]
      have bu5 := (bu.next hbp).next hb5
      have bt5 := (bt.next hbp).next hb5
      have b05 := (b0.next hbp).next hb5
      have hbw5 := next hbq hb5
      have bu6 := bu5.over (vs := cb V) (by rw [cb_len, cb_len, HUL.out, HVL.out])
      have bt6 := bt5.sets_other (g := gu) (by omega) 0 (cb V)
      have b06 := b05.sets_other (g := gu) (by omega) 0 (cb V)
      have hbw6 := below_setCells hbw5 (show w.heap.size ≤ gu by omega) 0 (cb V)
      obtain ⟨W6, hW6⟩ : ∃ W, W = w5.setCells gu 0 (cb V) := ⟨_, rfl⟩
      rw [← hW6] at bu6 bt6 b06 hbw6
      have HW6 := Lib.hid hW6
      have HB5 := Lib.hid bu5
      clear hW6 hsl hp hbp hbq hb5 bt5 b05 hbw5 bu5 bu bt b0 hb
      go_wp2_with (refine wpList_store_mid rfl 49 _ _ rfl _ _ (cb V).toArray rfl rfl (HB5.out.there_ (by simp [cb_len, HUL.out, HVL.out])) (by rw [size_sum, List.size_toArray, cb_len, HVL.out]) (all_oneCell_toArray (cb_one _)) ?_; change wpList _ _ _ _ _ (World.setCells w5 gu 0 (cb V)); rw [← HW6.out])
      clear HB5 HW6
      go_loopw [27] (fun i wr => ∃ j : Nat, j ≤ 32 ∧ i = .int .i64 j ∧ Bl wr gu (cb V) 49 ∧ Bl wr gt (cb (xh T V j)) 49 ∧ Bl wr w.heap.size (zeros .u8 32) 38 ∧ Below w.heap.size w wr) (fun i _ => 32 - (intOf i).toNat)
      case atStart => exact ⟨0, by omega, rfl, bu6, by rw [xh_zero]; exact bt6, b06, hbw6⟩
      case round =>
        clear bu6 bt6 b06 hbw6
        obtain ⟨j, hj, rfl, bu, bt, b0, hb⟩ := hrel
        by_cases hjl : j < 32
        · have hc1 := bt.cell j
          rw [cb, List.getElem?_map, xh_at (by rw [HTL.out, HVL.out]) j (by rw [HTL.out]; exact hjl)] at hc1
          have hc1' : wr.cell? ⟨gt, j, none⟩ = some (.int .u8 (((T[j]'(by rw [HTL.out]; exact hjl)).toNat : Nat) : Int)) := hc1
          have hc2 := bu.cell j
          rw [cb_at (by rw [HVL.out]; exact hjl)] at hc2
          have hf := bt.frozen j
          have hx1 := (T[j]'(by rw [HTL.out]; exact hjl)).toNat_lt
          have hx2 := (V[j]'(by rw [HVL.out]; exact hjl)).toNat_lt
          have hi0 : (0 : Int) ≤ (j : Int) := by omega
          have hi1 : (j : Int) < 32 := by omega
          clear hc1
          go_wp2
          go_still_tail 8, (by kernel_rfl)
          go_wp2
          go_roundw
          case rel => exact ⟨j + 1, by omega, by go_num, (bu.set_other _ _ (by simp; omega)).drew, (xh_cells bt (by rw [HTL.out, HVL.out]) (by rw [HTL.out]; exact hjl)).drew, (b0.set_other _ _ (by simp; omega)).drew, (hb.setCell (by simp; omega) _).drew⟩
          case measure => simp [intOf]; omega
        · have HJ : Hid (j = T.length) := (by have := HTL.out; omega : j = T.length)
          rw [HJ.out, xh_all (by rw [HTL.out, HVL.out]), HX.out] at bt
          rw [HVV.out] at bu
          go_wp2
          go_roundw
          case rel => exact ⟨k + 1, by omega, by go_num, bu, bt, b0, hb⟩
          case measure => simp [intOf]; omega
    · have HK : Hid (k = r) := (by omega : k = r)
      rw [HK.out] at hT
      have HTT := Lib.hid hT
      clear hT
      have HB := Lib.hid bt
      go_wp2_with (first
        | (refine wpList_load_mid rfl 49 _ rfl _ _ rfl (cb T) _ HB.out.whole Tryd.underlying49 rfl (by rw [size_sum, cb_len, HTL.out]) ?_)
        | (refine wpList_store_mid rfl 38 _ _ rfl _ _ (cb T).toArray rfl rfl (b0.there_ (by simp [zeros, cb_len, HTL.out])) (by rw [size_32, List.size_toArray, cb_len, HTL.out]) (all_oneCell_toArray (cb_one _)) ?_))
      have hfin := b0.over (vs := cb T) (by rw [cb_len, HTL.out, zeros_len])
      exact ret_row Tryd.results15 rfl hfin Tryd.underlying38 rfl (by rw [size_32, cb_len, HTL.out]) rfl ⟨by rw [HTT.out], below_setCells hb (Nat.le_refl _) _ _⟩

end Go.Proofs.YtfmbilnbbpbpeaaDoor

