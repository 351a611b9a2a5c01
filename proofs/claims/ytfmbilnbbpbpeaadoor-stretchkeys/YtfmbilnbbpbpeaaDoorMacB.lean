/- behind, New and the tags of package mac. -/
import Derived.Test.YtfmbilnbbpbpeaaDoorMacA
namespace Go.Proofs.YtfmbilnbbpbpeaaDoor
open Go.RowKit
set_option linter.unusedVariables false
set_option linter.unusedSimpArgs false

/-- How a block stands when its first k bytes have been exclusive-ored. -/
def half (p : UInt8) (b : List UInt8) (k : Nat) : List UInt8 := kx p (b.take k) ++ b.drop k
theorem half_len (p : UInt8) (b : List UInt8) (k : Nat) : (half p b k).length = b.length := by simp [half, kx]; omega
theorem half_zero (p : UInt8) (b : List UInt8) : half p b 0 = b := by simp [half, kx]
theorem half_all (p : UInt8) (b : List UInt8) : half p b b.length = kx p b := by simp [half]
theorem half_at (p : UInt8) (b : List UInt8) (k : Nat) (h : k < b.length) : (half p b k)[k]? = some b[k] := by
  unfold half
  rw [List.getElem?_append_right (by simp [kx]; omega)]
  have : (kx p (b.take k)).length = k := by simp [kx]; omega
  rw [this, Nat.sub_self, List.getElem?_drop, Nat.add_zero, List.getElem?_eq_getElem h]
theorem half_next (p : UInt8) (b : List UInt8) (k : Nat) (h : k < b.length) : (half p b k).set k (b[k] ^^^ p) = half p b (k + 1) := by
  unfold half
  have hl : (kx p (b.take k)).length = k := by simp [kx]; omega
  rw [List.set_append_right _ _ (by omega), hl, Nat.sub_self, kx_take p b k h, List.drop_eq_getElem_cons h, List.set_cons_zero, List.append_assoc]
  rfl

theorem byte_xor (x p : UInt8) : bits BinOp.xor IntKind.u8 (x.toNat : Int) (p.toNat : Int) = ((x ^^^ p).toNat : Int) := by
  rw [u8_xor_nat _ _ x.toNat_lt p.toNat_lt, UInt8.toNat_xor]
theorem half_cells {w wr : World} {g : Nat} {t : TypeId} {p : UInt8} {b : List UInt8} {k : Nat} (h : Bl wr g (cb (half p b k)) t) (hk : k < b.length) : Bl (wr.setCell ⟨g, k, none⟩ (.int .u8 (bits BinOp.xor IntKind.u8 (b[k].toNat : Int) (p.toNat : Int)))) g (cb (half p b (k + 1))) t := by
  have := h.set k (bc (b[k] ^^^ p))
  rw [← cb_set, half_next p b k hk] at this
  rw [byte_xor]
  exact this

set_option maxRecDepth 100000 in
set_option maxHeartbeats 600000 in
theorem behind_any (b : List UInt8) (p : UInt8) (w : World) (hb : b.length = 64) (hT : Tabs w) :
    Calls Tryd.prog 19 #[.agg (cb b).toArray, .int .u8 (p.toNat : Int)] w fun e w' => ∃ C, e = .returned (.agg C.toArray) ∧ StC (kx p b) C ∧ Below w.heap.size w w' := by
  have HT := Lib.hid hT
  have HB := Lib.hid hb
  clear hT hb
  have hz := stc_len ⟨0, 0, 0, 0, 0, 0, 0, 0⟩ (List.replicate 64 0) 0 (by simp)
  obtain ⟨Z, hZ⟩ : ∃ Z, Z = stc ⟨0, 0, 0, 0, 0, 0, 0, 0⟩ (List.replicate 64 0) 0 := ⟨_, rfl⟩
  have hzs := zero_state
  rw [← hZ] at hz hzs
  have HZ := Lib.hid hz
  have HZS := Lib.hid hzs
  clear hZ hz hzs
  have b0 : Bl ((w.alloc (.cells (cb b).toArray 41)).alloc (.cells Z.toArray 45)) w.heap.size (cb b) 41 := (Bl.new w _ _).alloc _
  have b1 : Bl ((w.alloc (.cells (cb b).toArray 41)).alloc (.cells Z.toArray 45)) (w.heap.size + 1) Z 45 := by rw [← alloc_size w (.cells (cb b).toArray 41)]; exact Bl.new _ _ _
  have hb0 : Below w.heap.size w ((w.alloc (.cells (cb b).toArray 41)).alloc (.cells Z.toArray 45)) := ((Below.refl _ w).alloc (Nat.le_refl _) _).alloc (by simp) _
  go_enter Tryd.func19, Tryd.ntmps19
  go_wp2_with (refine wpList_alloc_zero rfl 45 rfl Z HZS.out ?_)
  go_loopw [7] (fun i wr => ∃ k : Nat, k ≤ 64 ∧ i = .int .i64 k ∧ Bl wr w.heap.size (cb (half p b k)) 41 ∧ Bl wr (w.heap.size + 1) Z 45 ∧ Below w.heap.size w wr) (fun i _ => 64 - (intOf i).toNat)
  case atStart => exact ⟨0, by omega, rfl, by rw [half_zero]; exact b0, b1, hb0⟩
  case round =>
    clear b0 b1 hb0
    obtain ⟨k, hk, rfl, b0, b1, hb⟩ := hrel
    by_cases hlt : k < 64
    · have hc := b0.cell k
      rw [cb, List.getElem?_map, half_at p b k (by rw [HB.out]; exact hlt)] at hc
      have hc' : wr.cell? ⟨w.heap.size, k, none⟩ = some (.int .u8 (((b[k]'(by rw [HB.out]; exact hlt)).toNat : Nat) : Int)) := hc
      have hf := b0.frozen k
      have hx1 := (b[k]'(by rw [HB.out]; exact hlt)).toNat_lt
      have hx2 := p.toNat_lt
      clear hc
      go_wp2
      go_roundw
      case rel => exact ⟨k + 1, by omega, by go_num, half_cells (w := w) b0 (by rw [HB.out]; exact hlt), b1.set_other _ _ (by simp), hb.setCell (by simp) _⟩
      case measure => simp [intOf]; omega
    · have HK : Hid (k = b.length) := (by have := HB.out; omega : k = b.length)
      rw [HK.out, half_all] at b0
      have HKL : Hid ((kx p b).length = 64) := by unfold Hid; rw [kx_len, HB.out]
      have hT1 := HT.out.next hb
      have hsz := b1.lt
      go_wp2_with fail
      refine (new_any _ hT1).mono ?_
      rintro e w1 ⟨gs, rfl, hgs, hst, hb1⟩
      have b01 := b0.next hb1
      have b11 := b1.next hb1
      have hbw1 := hb.trans (hb1.mono hb.size)
      have hT2 := HT.out.next hbw1
      have hsl : Sl w1 (w.heap.size + 1) (some ⟨w.heap.size, 0, none⟩) 64 (cb (kx p b)) := b01.sl (o := 0) (n := 64) (by rw [List.drop_zero, List.take_of_length_le (by rw [cb_len, HKL.out]; omega)]) (by rw [cb_len, HKL.out]; omega)
      have h2g : 2 ≤ gs := by have := HT.out.size; omega
      have hoff : Off gs 64 (some ⟨w.heap.size, 0, none⟩) := hsl.off (by omega)
      have hsz1 := b11.lt
      clear b0 b1 b01 hb hT1 hb1
      go_wp2_with fail
      refine (add_any gs [] (kx p b) _ _ _ _ 64 hst hsl (by omega) hoff (by omega) (by simp) hT2 h2g (by rw [HKL.out]; simp)).mono ?_
      rintro e w2 ⟨rfl, hst2, hg2, hT3⟩
      rw [List.nil_append] at hst2
      obtain ⟨C, hC, hbC⟩ := hst2.cells
      have HCL := Lib.hid hC.len
      have HCO := Lib.hid hC.one
      have HC := Lib.hid hC
      have b12 := b11.grown hg2 (by simp; omega)
      have hbw2 := below_but hbw1 hg2 (by omega) (by omega)
      clear hst hsl hoff hT2 hT3 hst2 hg2 hC b11 hbw1
      go_wp2_with (first
        | (refine wpList_load_mid rfl 45 _ rfl _ _ rfl C _ hbC.whole Tryd.underlying45 rfl (by rw [size_state, HCL.out]) ?_)
        | (refine wpList_store_mid rfl 45 _ _ rfl _ _ C.toArray rfl rfl (b12.there_ (by simp [HCL.out, HZ.out])) (by rw [size_state, List.size_toArray, HCL.out]) (all_oneCell_toArray HCO.out) ?_))
      have hfin := b12.over (vs := C) (by rw [HCL.out, HZ.out])
      exact ret_row Tryd.results19 rfl hfin Tryd.underlying45 rfl (by rw [size_state, HCL.out]) rfl ⟨C, rfl, HC.out, below_setCells hbw2 (by omega) _ _⟩

end Go.Proofs.YtfmbilnbbpbpeaaDoor

