/- Numbers as digits, and the one-time tag of the document over Nat and bytes. No program is named here. -/
import Derived.Test.YtlnoopmblmkgkaaGreatDoorLG
import Derived.IntWalk
namespace Go.Proofs.YtlnoopmblmkgkaaGreatDoor
set_option maxRecDepth 100000
open Go.RowKit
set_option linter.unusedVariables false
set_option linter.unusedSimpArgs false

/-- Two lists put together element by element, the first k elements done. -/
def hyb (f : Nat → Nat → Nat) (x y : List Nat) (k : Nat) : List Nat := List.zipWith f (x.take k) (y.take k) ++ x.drop k
theorem hyb_zero (f : Nat → Nat → Nat) (x y : List Nat) : hyb f x y 0 = x := by simp [hyb]
section
variable {f : Nat → Nat → Nat} {x y : List Nat} (h : y.length = x.length)
include h
theorem hyb_len (k : Nat) : (hyb f x y k).length = x.length := by simp [hyb, h]; omega
theorem hyb_all : hyb f x y x.length = List.zipWith f x y := by
  unfold hyb
  rw [List.take_length, ← h, List.take_length, h]
  simp
theorem hyb_at (k : Nat) (hk : k < x.length) : (hyb f x y k)[k]? = some x[k] := by
  have hl : (List.zipWith f (x.take k) (y.take k)).length = k := by simp [h]; omega
  unfold hyb
  rw [List.getElem?_append_right (by omega), hl, Nat.sub_self, List.getElem?_drop, Nat.add_zero, List.getElem?_eq_getElem hk]
theorem hyb_next (k : Nat) (hk : k < x.length) : (hyb f x y k).set k (f x[k] (y[k]'(by omega))) = hyb f x y (k + 1) := by
  have hl : (List.zipWith f (x.take k) (y.take k)).length = k := by simp [h]; omega
  have hx : List.zipWith f (x.take (k + 1)) (y.take (k + 1)) = List.zipWith f (x.take k) (y.take k) ++ [f x[k] (y[k]'(by omega))] := by
    rw [List.take_succ_eq_append_getElem hk, List.take_succ_eq_append_getElem (by omega), List.zipWith_append (by simp; omega)]
    rfl
  unfold hyb
  rw [List.set_append_right _ _ (by omega), hl, Nat.sub_self, hx, List.drop_eq_getElem_cons hk, List.set_cons_zero, List.append_assoc]
  rfl
end

/-- Limbs of 26 bits. -/
def nv (x : List Nat) : Nat := bv 67108864 x
/-- Five limbs below m. -/
structure Lim (m : Nat) (x : List Nat) : Prop where
  len : x.length = 5
  lt : ∀ d ∈ x, d < m
theorem Lim.five {m : Nat} {x : List Nat} (h : Lim m x) : ∃ a b c d e, x = [a, b, c, d, e] ∧ a < m ∧ b < m ∧ c < m ∧ d < m ∧ e < m := by
  obtain ⟨hl, hb⟩ := h
  match x, hl with
  | [a, b, c, d, e], _ => exact ⟨a, b, c, d, e, rfl, hb a (by simp), hb b (by simp), hb c (by simp), hb d (by simp), hb e (by simp)⟩
theorem Lim.at_ {m : Nat} {x : List Nat} (h : Lim m x) (k : Nat) (hk : k < x.length) : x[k] < m := h.lt _ (List.getElem_mem _)
theorem Lim.up {m n : Nat} {x : List Nat} (h : Lim m x) (hm : m ≤ n) : Lim n x := ⟨h.len, fun d hd => Nat.lt_of_lt_of_le (h.lt d hd) hm⟩
theorem lim_five {m a b c d e : Nat} (h1 : a < m) (h2 : b < m) (h3 : c < m) (h4 : d < m) (h5 : e < m) : Lim m [a, b, c, d, e] := ⟨rfl, by simp; exact ⟨h1, h2, h3, h4, h5⟩⟩
theorem nv_five (a b c d e : Nat) : nv [a, b, c, d, e] = a + 67108864 * b + 4503599627370496 * c + 302231454903657293676544 * d + 20282409603651670423947251286016 * e := by
  simp only [nv, bv]; omega

/-- 2^130 - 5. -/
def pN : Nat := 1361129467683753853853498429727072845819
theorem mod_of (x z c : Nat) (h : x = z + c * pN) : x % pN = z % pN := by rw [h, Nat.add_mul_mod_self_right]

/-- A carry's step: the limbs done, one more, and what is carried. -/
theorem car_step (done : List Nat) (x : List Nat) (k c : Nat) (hl : done.length = k) (hk : k < x.length) (h : bv 67108864 done + 67108864 ^ k * c = bv 67108864 (x.take k)) :
    bv 67108864 (done ++ [(x[k] + c) % 67108864]) + 67108864 ^ (k + 1) * ((x[k] + c) / 67108864) = bv 67108864 (x.take (k + 1)) := by
  rw [bv_take _ _ _ hk, bv_snoc, hl, ← h, Nat.pow_succ, Nat.mul_assoc, Nat.add_assoc, ← Nat.mul_add, Nat.add_assoc, ← Nat.mul_add]
  congr 2
  omega

theorem and26 (n : Nat) (h : n < 18446744073709551616) : bits BinOp.and IntKind.u64 (n : Int) 67108863 = ((n % 67108864 : Nat) : Int) := by
  have := u64_and_nat n 67108863 h (by decide)
  rw [show ((67108863 : Nat) : Int) = 67108863 from rfl] at this
  rw [this, Nat.and_two_pow_sub_one_eq_mod n 26]

theorem put_at (done x : List Nat) (k t : Nat) (hl : done.length = k) (hk : k < x.length) : (done ++ x.drop k).set k t = (done ++ [t]) ++ x.drop (k + 1) := by
  rw [List.set_append_right _ _ (by omega), hl, Nat.sub_self, List.drop_eq_getElem_cons hk, List.set_cons_zero, List.append_assoc]
  rfl

/-- What is carried. -/
theorem carry_bound {x z : List Nat} {c m : Nat} (h : nv z + c * 1361129467683753853853498429727072845824 = nv x) (hx : nv x < m * 1361129467683753853853498429727072845824) : c < m := by
  rcases Nat.lt_or_ge c m with h1 | h1
  · exact h1
  · have := Nat.mul_le_mul_right 1361129467683753853853498429727072845824 h1; omega

end Go.Proofs.YtlnoopmblmkgkaaGreatDoor

namespace Go.Proofs.YtlnoopmblmkgkaaGreatDoor
set_option maxRecDepth 100000
open Go.RowKit
set_option linter.unusedVariables false
set_option linter.unusedSimpArgs false

theorem zero_num : (Tryz.prog.info? 163).map (·.zero) = some (some (.agg (zeros .u64 5).toArray)) := by kernel_rfl
theorem size_num : (Tryz.prog.info? 163).map (·.size) = some 5 := by kernel_rfl

set_option maxHeartbeats 600000 in
theorem carried_any (x : List Nat) (w : World) (hx : Lim 4611686018427387904 x) :
    Calls Tryz.prog 152 #[.agg (wq x).toArray] w fun e w' => ∃ (z : List Nat) (c : Nat), e = .returned (.tuple #[.agg (wq z).toArray, .int .u64 (c : Int)]) ∧ Lim 67108864 z ∧ nv z + c * 1361129467683753853853498429727072845824 = nv x ∧ Below w.heap.size w w' := by
  have HX := Lib.hid hx
  have HXL := Lib.hid hx.len
  clear hx
  obtain ⟨b0, b1, hsz, hb0⟩ := two_new w (wq x) (zeros .u64 5) 163 163
  obtain ⟨W0, hW0⟩ : ∃ W, W = (w.alloc (.cells (wq x).toArray 163)).alloc (.cells (zeros .u64 5).toArray 163) := ⟨_, rfl⟩
  rw [← hW0] at b0 b1 hsz hb0
  have HW0 := Lib.hid hW0
  clear hW0 hsz
  go_enter Tryz.func152, Tryz.ntmps152
  go_wp2_with (first
    | (refine wpList_box_agg rfl 163 _ rfl (wq x) rfl ?_)
    | (refine wpList_alloc_zero rfl 163 rfl (zeros .u64 5) zero_num ?_; rw [← HW0.out]))
  go_loopw [4, 6] (fun c i wr => ∃ (k d : Nat) (done : List Nat), k ≤ 5 ∧ i = .int .i64 k ∧ c = .int .u64 (d : Int) ∧ done.length = k ∧ (∀ e ∈ done, e < 67108864) ∧ bv 67108864 done + 67108864 ^ k * d = bv 67108864 (x.take k) ∧ d < 4611686018427387904 ∧ Bl wr w.heap.size (wq (done ++ x.drop k)) 163 ∧ Bl wr (w.heap.size + 1) (zeros .u64 5) 163 ∧ Below w.heap.size w wr) (fun _ i _ => 5 - (intOf i).toNat)
  case atStart => exact ⟨0, 0, [], by omega, rfl, rfl, rfl, by simp, by simp [bv], by omega, by simpa using b0, b1, hb0⟩
  case round =>
    clear b0 b1 hb0
    obtain ⟨k, d, done, hk, rfl, rfl, hdl, hdd, hdv, hd, b0, b1, hb⟩ := hrel
    by_cases hlt : k < 5
    · have HKX : Hid (k < x.length) := (by rw [HXL.out]; exact hlt)
      obtain ⟨a, ha⟩ : ∃ a, a = x[k]'HKX.out := ⟨_, rfl⟩
      have hal : a < 4611686018427387904 := by rw [ha]; exact HX.out.at_ k _
      obtain ⟨t, ht⟩ : ∃ t, t = a + d := ⟨_, rfl⟩
      have HST := Lib.hid (car_step done x k d hdl HKX.out hdv)
      rw [← ha, ← ht] at HST
      have hc : wr.cell? ⟨w.heap.size, k, none⟩ = some (.int .u64 (a : Int)) := by
        rw [b0.cell, wq_at (by simp [hdl]; have := HXL.out; omega)]
        congr 3
        rw [ha, List.getElem_append_right (by omega)]
        simp [hdl]
      have hf := b0.frozen k
      have e1 : IntKind.u64.wrap ((a : Int) + (d : Int)) = (t : Int) := by rw [ht]; exact (IntWalk.u64_in _ (by omega)).trans (by omega)
      have htl : t < 9223372036854775808 := by omega
      have e2 := and26 t (by omega)
      have HBL := Lib.hid b0
      have HDL := Lib.hid hdl
      have HDD := Lib.hid hdd
      have hi0 : (0 : Int) ≤ (k : Int) := by omega
      have hi1 : (k : Int) < 5 := by omega
      clear hdv hdl hdd ha ht b0
      go_wp2
      go_roundw
      case rel =>
        refine ⟨k + 1, t / 67108864, done ++ [t % 67108864], by omega, by go_num, by go_num, by simp [HDL.out], ?_, HST.out, by omega, ?_, (b1.set_other _ _ (by simp)).set_other _ _ (by simp), (hb.setCell (by simp) _).setCell (by simp) _⟩
        · intro e he
          rcases List.mem_append.1 he with h1 | h1
          · exact HDD.out e h1
          · rw [List.mem_singleton.1 h1]; omega
        · have h2 := (HBL.out.set k (.int .u64 (t : Int))).set k (.int .u64 ((t % 67108864 : Nat) : Int))
          rw [List.set_set, wq_set, put_at done x k _ HDL.out HKX.out] at h2
          exact h2
      case measure => simp [intOf]; omega
    · have HK : Hid (k = 5) := (by omega : k = 5)
      have HDK : Hid (done.length = 5) := (by unfold Hid; omega)
      have hz : done ++ x.drop k = done := by rw [List.drop_of_length_le (by rw [HXL.out]; omega), List.append_nil]
      rw [hz] at b0
      have HB := Lib.hid b0
      have HV : Hid (nv done + d * 1361129467683753853853498429727072845824 = nv x) := by
        unfold Hid nv
        rw [HK.out, List.take_of_length_le (by rw [HXL.out]; omega)] at hdv
        rw [← hdv]
        omega
      clear hz hdv b0
      go_wp2_with (first
        | (refine wpList_load_mid rfl 163 _ rfl _ _ rfl (wq done) _ HB.out.whole Tryz.underlying163 rfl (by rw [size_num, wq_len, HDK.out]) ?_)
        | (refine wpList_store_mid rfl 163 _ _ rfl _ _ (wq done).toArray rfl rfl (b1.there_ (by simp [zeros, wq_len, HDK.out])) (by rw [size_num, List.size_toArray, wq_len, HDK.out]) (all_oneCell_toArray (wq_one _)) ?_))
      have hfin := b1.over (vs := wq done) (by rw [wq_len, HDK.out, zeros_len])
      exact ret_row_tmp Tryz.results152 rfl hfin Tryz.underlying163 rfl (by rw [size_num, wq_len, HDK.out]) rfl ⟨done, d, rfl, ⟨HDK.out, hdd⟩, HV.out, below_setCells hb (by omega) _ _⟩

theorem addL_lim {m n : Nat} {x y : List Nat} (hx : Lim m x) (hy : Lim n y) : Lim (m + n) (List.zipWith (· + ·) x y) := by
  obtain ⟨a, b, c, d, e, rfl, h1, h2, h3, h4, h5⟩ := hx.five
  obtain ⟨a', b', c', d', e', rfl, k1, k2, k3, k4, k5⟩ := hy.five
  exact lim_five (Nat.add_lt_add h1 k1) (Nat.add_lt_add h2 k2) (Nat.add_lt_add h3 k3) (Nat.add_lt_add h4 k4) (Nat.add_lt_add h5 k5)
theorem addL_nv {m n : Nat} {x y : List Nat} (hx : Lim m x) (hy : Lim n y) : nv (List.zipWith (· + ·) x y) = nv x + nv y := by
  have := bv_zip 67108864 (· + ·) 1 1 (fun s t => by simp) x y (by rw [hx.len, hy.len])
  simpa [nv] using this

set_option maxHeartbeats 600000 in
theorem plus_any (x y : List Nat) (w : World) (hx : Lim 4611686018427387904 x) (hy : Lim 4611686018427387904 y) :
    Calls Tryz.prog 135 #[.agg (wq x).toArray, .agg (wq y).toArray] w fun e w' => e = .returned (.agg (wq (List.zipWith (· + ·) x y)).toArray) ∧ Below w.heap.size w w' := by
  have HX := Lib.hid hx
  have HY := Lib.hid hy
  have HXL := Lib.hid hx.len
  have HYL := Lib.hid hy.len
  clear hx hy
  obtain ⟨Z, hZ⟩ : ∃ Z, Z = List.zipWith (· + ·) x y := ⟨_, rfl⟩
  rw [← hZ]
  have HZL : Hid (Z.length = 5) := by unfold Hid; rw [hZ]; simp [HXL.out, HYL.out]
  have HZ := Lib.hid hZ
  clear hZ
  obtain ⟨b0, b1, b2, hsz, hb0⟩ := three_new w (wq x) (wq y) (zeros .u64 5) 163 163 163
  obtain ⟨W0, hW0⟩ : ∃ W, W = ((w.alloc (.cells (wq x).toArray 163)).alloc (.cells (wq y).toArray 163)).alloc (.cells (zeros .u64 5).toArray 163) := ⟨_, rfl⟩
  rw [← hW0] at b0 b1 b2 hsz hb0
  have HW0 := Lib.hid hW0
  clear hW0 hsz
  go_enter Tryz.func135, Tryz.ntmps135
  go_wp2_with (first
    | (refine wpList_box_agg rfl 163 _ rfl (wq x) rfl ?_)
    | (refine wpList_box_agg rfl 163 _ rfl (wq y) rfl ?_)
    | (refine wpList_alloc_zero rfl 163 rfl (zeros .u64 5) zero_num ?_; rw [← HW0.out]))
  go_loopw [6] (fun i wr => ∃ (k : Nat), k ≤ 5 ∧ i = .int .i64 k ∧ Bl wr w.heap.size (wq (hyb (· + ·) x y k)) 163 ∧ Bl wr (w.heap.size + 1) (wq y) 163 ∧ Bl wr (w.heap.size + 2) (zeros .u64 5) 163 ∧ Below w.heap.size w wr) (fun i _ => 5 - (intOf i).toNat)
  case atStart => exact ⟨0, by omega, rfl, by rw [hyb_zero]; exact b0, b1, b2, hb0⟩
  case round =>
    clear b0 b1 b2 hb0
    obtain ⟨k, hk, rfl, b0, b1, b2, hb⟩ := hrel
    have HYX : Hid (y.length = x.length) := (by unfold Hid; rw [HXL.out, HYL.out])
    by_cases hlt : k < 5
    · have HKX : Hid (k < x.length) := (by rw [HXL.out]; exact hlt)
      have HKY : Hid (k < y.length) := (by rw [HYL.out]; exact hlt)
      obtain ⟨a, ha⟩ : ∃ a, a = x[k]'HKX.out := ⟨_, rfl⟩
      obtain ⟨b, hbd⟩ : ∃ b, b = y[k]'HKY.out := ⟨_, rfl⟩
      have hal : a < 4611686018427387904 := by rw [ha]; exact HX.out.at_ k _
      have hbl : b < 4611686018427387904 := by rw [hbd]; exact HY.out.at_ k _
      have hc : wr.cell? ⟨w.heap.size, k, none⟩ = some (.int .u64 (a : Int)) := by
        rw [b0.cell, wq, List.getElem?_map, hyb_at HYX.out k HKX.out, ← ha]; rfl
      have hc2 : wr.cell? ⟨w.heap.size + 1, k, none⟩ = some (.int .u64 (b : Int)) := by rw [b1.cell, wq_at HKY.out, ← hbd]
      have hf := b0.frozen k
      have HN := Lib.hid (hyb_next (f := (· + ·)) HYX.out k HKX.out)
      rw [← ha, ← hbd] at HN
      obtain ⟨t, ht⟩ : ∃ t, t = a + b := ⟨_, rfl⟩
      have e1 : IntKind.u64.wrap ((a : Int) + (b : Int)) = (t : Int) := by rw [ht]; exact (IntWalk.u64_in _ (by omega)).trans (by omega)
      have HT := Lib.hid ht
      have hi0 : (0 : Int) ≤ (k : Int) := by omega
      have hi1 : (k : Int) < 5 := by omega
      clear ha hbd ht
      go_wp2
      go_still_tail 8, (by kernel_rfl)
      go_wp2
      go_roundw
      case rel =>
        refine ⟨k + 1, by omega, by go_num, ?_, (b1.set_other _ _ (by simp)).drew, (b2.set_other _ _ (by simp)).drew, (hb.setCell (by simp) _).drew⟩
        have h2 := (b0.set k (.int .u64 (t : Int))).drew
        rw [wq_set, HT.out, HN.out] at h2
        rw [HT.out]
        exact h2
      case measure => simp [intOf]; omega
    · have HK : Hid (k = x.length) := (by have := HXL.out; omega : k = x.length)
      rw [HK.out, hyb_all HYX.out, ← HZ.out] at b0
      have HB := Lib.hid b0
      clear b0
      go_wp2_with (first
        | (refine wpList_load_mid rfl 163 _ rfl _ _ rfl (wq Z) _ HB.out.whole Tryz.underlying163 rfl (by rw [size_num, wq_len, HZL.out]) ?_)
        | (refine wpList_store_mid rfl 163 _ _ rfl _ _ (wq Z).toArray rfl rfl (b2.there_ (by simp [zeros, wq_len, HZL.out])) (by rw [size_num, List.size_toArray, wq_len, HZL.out]) (all_oneCell_toArray (wq_one _)) ?_))
      have hfin := b2.over (vs := wq Z) (by rw [wq_len, HZL.out, zeros_len])
      exact ret_row Tryz.results135 rfl hfin Tryz.underlying163 rfl (by rw [size_num, wq_len, HZL.out]) rfl ⟨rfl, below_setCells hb (by omega) _ _⟩

set_option maxHeartbeats 600000 in
theorem folded_any (x : List Nat) (w : World) (hx : Lim 4611686018427387904 x) :
    Calls Tryz.prog 171 #[.agg (wq x).toArray] w fun e w' => ∃ (z : List Nat) (c : Nat), e = .returned (.agg (wq z).toArray) ∧ Lim (67108864 + 5 * c) z ∧ nv x = nv z + c * pN ∧ nv z < 1361129467683753853853498429727072845824 + 5 * c ∧ c * 1361129467683753853853498429727072845824 ≤ nv x ∧ Below w.heap.size w w' := by
  have HX := Lib.hid hx
  have HXL := Lib.hid hx.len
  clear hx
  obtain ⟨b0, b1, hsz, hb0⟩ := two_new w (wq x) (zeros .u64 5) 163 163
  obtain ⟨W0, hW0⟩ : ∃ W, W = (w.alloc (.cells (wq x).toArray 163)).alloc (.cells (zeros .u64 5).toArray 163) := ⟨_, rfl⟩
  rw [← hW0] at b0 b1 hsz hb0
  have HW0 := Lib.hid hW0
  have HB0 := Lib.hid b0
  clear hW0 hsz
  go_enter Tryz.func171, Tryz.ntmps171
  go_wp2_with (first
    | (refine wpList_box_agg rfl 163 _ rfl (wq x) rfl ?_)
    | (refine wpList_alloc_zero rfl 163 rfl (zeros .u64 5) zero_num ?_; rw [← HW0.out])
    | (refine wpList_load_mid rfl 163 _ rfl _ _ rfl (wq x) _ HB0.out.whole Tryz.underlying163 rfl (by rw [size_num, wq_len, HXL.out]) ?_))
  refine (carried_any x W0 HX.out).mono ?_
  rintro e w1 ⟨z, c, rfl, hz, hv, hb1⟩
  have HZ := Lib.hid hz
  have HZL := Lib.hid hz.len
  have HV := Lib.hid hv
  have hcb : c < 274877906944 := by
    refine carry_bound hv ?_
    obtain ⟨a, b, c', d, e, rfl, h1, h2, h3, h4, h5⟩ := HX.out.five
    rw [nv_five]
    omega
  obtain ⟨d0, z1, z2, z3, z4, hze, hd0⟩ : ∃ d0 z1 z2 z3 z4, z = [d0, z1, z2, z3, z4] ∧ d0 < 67108864 := by
    obtain ⟨a, b, c', d, e, rfl, h1, h2, h3, h4, h5⟩ := hz.five
    exact ⟨a, b, c', d, e, rfl, h1⟩
  have b01 := b0.next hb1
  have b11 := b1.next hb1
  have hbw := next hb0 hb1
  have b02 := b01.over (vs := wq z) (by rw [wq_len, wq_len, HXL.out, HZL.out])
  have b12 := b11.sets_other (g := w.heap.size) (by omega) 0 (wq z)
  have hbw2 := below_setCells hbw (show w.heap.size ≤ w.heap.size from Nat.le_refl _) 0 (wq z)
  obtain ⟨W2, hW2⟩ : ∃ W, W = w1.setCells w.heap.size 0 (wq z) := ⟨_, rfl⟩
  rw [← hW2] at b02 b12 hbw2
  have HW2 := Lib.hid hW2
  have HB1 := Lib.hid b01
  obtain ⟨t, ht⟩ : ∃ t, t = d0 + 5 * c := ⟨_, rfl⟩
  have hc0 : W2.cell? ⟨w.heap.size, 0, none⟩ = some (.int .u64 (d0 : Int)) := by rw [b02.cell, hze]; rfl
  have hf0 := b02.frozen 0
  have e0 : IntKind.u64.wrap (5 * (c : Int)) = 5 * (c : Int) := IntWalk.u64_in _ (by omega)
  have e1 : IntKind.u64.wrap ((d0 : Int) + 5 * (c : Int)) = (t : Int) := by rw [ht]; exact (IntWalk.u64_in _ (by omega)).trans (by omega)
  have b03 := b02.set 0 (.int .u64 (t : Int))
  rw [wq_set] at b03
  have b13 := b12.set_other ⟨w.heap.size, 0, none⟩ (.int .u64 (t : Int)) (by simp)
  have hbw3 := hbw2.setCell (p := ⟨w.heap.size, 0, none⟩) (Nat.le_refl _) (.int .u64 (t : Int))
  obtain ⟨Y, hY⟩ : ∃ Y, Y = z.set 0 t := ⟨_, rfl⟩
  rw [← hY] at b03
  have HYZ : Hid (Lim (67108864 + 5 * c) Y ∧ nv x = nv Y + c * pN ∧ nv Y < 1361129467683753853853498429727072845824 + 5 * c ∧ c * 1361129467683753853853498429727072845824 ≤ nv x) := by
    unfold Hid
    obtain ⟨a, b, c', d, e, h0, h1, h2, h3, h4, h5⟩ := HZ.out.five
    rw [hze] at h0
    injection h0 with q0 h0; injection h0 with q1 h0; injection h0 with q2 h0; injection h0 with q3 h0; injection h0 with q4 _
    subst q0; subst q1; subst q2; subst q3; subst q4
    have hv2 := HV.out
    rw [hze, nv_five] at hv2
    rw [hY, hze, List.set_cons_zero, nv_five]
    unfold pN
    refine ⟨lim_five (by omega) (by omega) (by omega) (by omega) (by omega), by omega, by omega, by omega⟩
  have HYL : Hid (Y.length = 5) := HYZ.out.1.len
  have HB3 := Lib.hid b03
  clear hW2 b01 b11 hbw b0 b1 hb0 hb1 HB0 hz hv hze ht hY b02 b12 b03 hcb
  go_wp2_with (first
    | (refine wpList_store_mid rfl 163 _ _ rfl _ _ (wq z).toArray rfl rfl (HB1.out.there_ (by simp [wq_len, HXL.out, HZL.out])) (by rw [size_num, List.size_toArray, wq_len, HZL.out]) (all_oneCell_toArray (wq_one _)) ?_; change wpList _ _ _ _ _ (World.setCells w1 w.heap.size 0 (wq z)); rw [← HW2.out])
    | (refine wpList_load_mid rfl 163 _ rfl _ _ rfl (wq Y) _ HB3.out.whole Tryz.underlying163 rfl (by rw [size_num, wq_len, HYL.out]) ?_)
    | (refine wpList_store_mid rfl 163 _ _ rfl _ _ (wq Y).toArray rfl rfl (b13.there_ (by simp [zeros, wq_len, HYL.out])) (by rw [size_num, List.size_toArray, wq_len, HYL.out]) (all_oneCell_toArray (wq_one _)) ?_))
  have hfin := b13.over (vs := wq Y) (by rw [wq_len, HYL.out, zeros_len])
  exact ret_row Tryz.results171 rfl hfin Tryz.underlying163 rfl (by rw [size_num, wq_len, HYL.out]) rfl ⟨Y, c, rfl, HYZ.out.1, HYZ.out.2.1, HYZ.out.2.2.1, HYZ.out.2.2.2, below_setCells hbw3 (by omega) _ _⟩

end Go.Proofs.YtlnoopmblmkgkaaGreatDoor

namespace Go.Proofs.YtlnoopmblmkgkaaGreatDoor
set_option maxRecDepth 100000
open Go.RowKit
set_option linter.unusedVariables false
set_option linter.unusedSimpArgs false

theorem zero_wide : (Tryz.prog.info? 206).map (·.zero) = some (some (.agg (zeros .u64 10).toArray)) := by kernel_rfl
theorem size_wide : (Tryz.prog.info? 206).map (·.size) = some 10 := by kernel_rfl
theorem built_wide : Tryz.prog.built 206 [] = some (zeros .u64 10).toArray := by kernel_rfl
theorem built_num : Tryz.prog.built 163 [] = some (zeros .u64 5).toArray := by kernel_rfl

/-- How the product stands: i limbs of x done, and of the next one j limbs of y. -/
structure Wid5 (x y : List Nat) (i j : Nat) (W : List Nat) : Prop where
  len : W.length = 10
  val : bv 67108864 W = bv 67108864 (x.take i) * bv 67108864 y + 67108864 ^ i * (x.getD i 0 * bv 67108864 (y.take j))
  le : ∀ d ∈ W, d ≤ (5 * i + j) * 18014398509481984
theorem wide_start (x y : List Nat) : Wid5 x y 0 0 (List.replicate 10 0) := ⟨rfl, by rw [bv_zeros]; simp [bv], fun d hd => by rw [List.eq_of_mem_replicate hd]; omega⟩
theorem Wid5.at_ {x y W : List Nat} {i j : Nat} (h : Wid5 x y i j W) (k : Nat) (hk : k < W.length) : W[k] ≤ (5 * i + j) * 18014398509481984 := h.le _ (List.getElem_mem _)
theorem Wid5.step {x y W : List Nat} {i j : Nat} (h : Wid5 x y i j W) (hi : i < x.length) (hj : j < y.length) (hk : i + j < W.length) (hx : x[i] < 268435456) (hy : y[j] < 67108864) :
    Wid5 x y i (j + 1) (W.set (i + j) (W[i + j] + x[i] * y[j])) := by
  have hm : x[i] * y[j] ≤ 18014398509481984 := Nat.le_trans (Nat.mul_le_mul (Nat.le_of_lt hx) (Nat.le_of_lt hy)) (by omega)
  refine ⟨by rw [List.length_set, h.len], ?_, fun d hd => ?_⟩
  · rw [bv_add_set _ _ _ _ hk, h.val, bv_take _ _ _ hj, List.getD_eq_getElem?_getD, List.getElem?_eq_getElem hi, Option.getD_some, Nat.mul_add, Nat.mul_add, Nat.pow_add, Nat.add_assoc]
    congr 2
    rw [Nat.mul_assoc]
    congr 1
    rw [Nat.mul_left_comm]
  · rcases List.mem_or_eq_of_mem_set hd with h1 | h1
    · exact Nat.le_trans (h.le d h1) (Nat.mul_le_mul_right _ (by omega))
    · rw [h1]; exact Nat.le_trans (Nat.add_le_add (h.at_ (i + j) hk) hm) (Nat.le_of_eq (Nat.succ_mul (5 * i + j) 18014398509481984).symm)
theorem Wid5.row {x y W : List Nat} {i : Nat} (h : Wid5 x y i 5 W) (hi : i < x.length) (hy : y.length = 5) : Wid5 x y (i + 1) 0 W := by
  refine ⟨h.len, ?_, fun d hd => by have := h.le d hd; omega⟩
  rw [h.val, show y.take 5 = y from List.take_of_length_le (by omega), bv_take _ _ _ hi, List.getD_eq_getElem?_getD, List.getElem?_eq_getElem hi, Option.getD_some, Nat.add_mul, Nat.mul_assoc]
  simp [bv]
theorem Wid5.done {x y W : List Nat} (h : Wid5 x y 5 0 W) (hx : x.length = 5) : nv W = nv x * nv y := by
  have := h.val
  rw [show x.take 5 = x from List.take_of_length_le (by omega)] at this
  simpa [nv, bv] using this

/-- The upper half counts five times. -/
def halves (W : List Nat) : List Nat := List.zipWith (fun s t => s + 5 * t) (W.take 5) (W.drop 5)
theorem halves_len {W : List Nat} (h : W.length = 10) : (halves W).length = 5 := by simp [halves, h]
theorem halves_at {W : List Nat} (h : W.length = 10) (k : Nat) (hk : k < 5) : (halves W)[k]'(by rw [halves_len h]; exact hk) = W[k] + 5 * W[5 + k] := by simp [halves]
theorem halves_nv {W : List Nat} (h : W.length = 10) : nv W = nv (halves W) + nv (W.drop 5) * pN := by
  have h1 := bv_zip 67108864 (fun s t => s + 5 * t) 1 5 (fun s t => by simp) (W.take 5) (W.drop 5) (by simp [h])
  have h2 := bv_split 67108864 W 5 (by omega)
  unfold nv halves
  rw [h1, h2]
  unfold pN
  omega
theorem halves_lim {x y W : List Nat} (h : Wid5 x y 5 0 W) : Lim 2702159776422297601 (halves W) := by
  refine ⟨halves_len h.len, fun d hd => ?_⟩
  obtain ⟨k, hk, rfl⟩ := List.getElem_of_mem hd
  rw [halves_len h.len] at hk
  rw [halves_at h.len k hk]
  have h1 := h.at_ k (by rw [h.len]; omega)
  have h2 := h.at_ (5 + k) (by rw [h.len]; omega)
  omega

set_option maxRecDepth 100000 in
set_option maxHeartbeats 1000000 in
theorem times_any (x y : List Nat) (w : World) (hx : Lim 268435456 x) (hy : Lim 67108864 y) :
    Calls Tryz.prog 151 #[.agg (wq x).toArray, .agg (wq y).toArray] w fun e w' => ∃ z, e = .returned (.agg (wq z).toArray) ∧ Lim 67108869 z ∧ nv z % pN = (nv x * nv y) % pN ∧ Below w.heap.size w w' := by
  have HX := Lib.hid hx
  have HY := Lib.hid hy
  have HXL := Lib.hid hx.len
  have HYL := Lib.hid hy.len
  clear hx hy
  obtain ⟨b0, b1, b2, hsz, hb0⟩ := three_new w (wq x) (wq y) (zeros .u64 5) 163 163 163
  obtain ⟨W0, hW0⟩ : ∃ W, W = ((w.alloc (.cells (wq x).toArray 163)).alloc (.cells (wq y).toArray 163)).alloc (.cells (zeros .u64 5).toArray 163) := ⟨_, rfl⟩
  rw [← hW0] at b0 b1 b2 hsz hb0
  have HW0 := Lib.hid hW0
  obtain ⟨b3, hb1, hz1⟩ := put_new W0 (zeros .u64 10) (zeros .u64 10) 206 rfl
  obtain ⟨W1, hW1⟩ : ∃ W, W = (W0.alloc (.cells (zeros .u64 10).toArray 206)).setCells W0.heap.size 0 (zeros .u64 10) := ⟨_, rfl⟩
  rw [← hW1] at b3 hb1 hz1
  have HW1 := Lib.hid hW1
  replace b0 := b0.next hb1
  replace b1 := b1.next hb1
  replace b2 := b2.next hb1
  replace hb0 := next hb0 hb1
  rw [hsz] at b3
  have HSZ := Lib.hid hsz
  clear hW0 hsz hW1 hz1 hb1
  go_enter Tryz.func151, Tryz.ntmps151
  go_wp2_with (first
    | (refine wpList_box_agg rfl 163 _ rfl (wq x) rfl ?_)
    | (refine wpList_box_agg rfl 163 _ rfl (wq y) rfl ?_)
    | (refine wpList_alloc_zero rfl 163 rfl (zeros .u64 5) zero_num ?_; rw [← HW0.out])
    | (refine wpList_build_to rfl 206 _ rfl (zeros .u64 10) built_wide ?_)
    | (refine wpList_alloc_zero rfl 206 rfl (zeros .u64 10) zero_wide ?_)
    | (refine wpList_store_mid rfl 206 _ _ rfl _ _ (zeros .u64 10).toArray rfl rfl (Bl.there_ (Bl.new W0 (zeros .u64 10) 206) (by simp [zeros])) (by rw [size_wide, List.size_toArray, zeros_len]) (all_oneCell_toArray (zeros_one _ _)) ?_; change wpList _ _ _ _ _ (World.setCells (W0.alloc (.cells (zeros .u64 10).toArray 206)) W0.heap.size 0 (zeros .u64 10)); rw [← HW1.out]))
  rw [HSZ.out]
  clear HW0 HW1 HSZ
  obtain ⟨g, hg⟩ : ∃ g, g = w.heap.size := ⟨_, rfl⟩
  have HG := Lib.hid hg
  rw [← hg] at b0 b1 b2 b3 ⊢
  clear hg
  go_loopw [11] (fun i wr => ∃ (n : Nat) (W : List Nat), n ≤ 5 ∧ i = .int .i64 n ∧ Wid5 x y n 0 W ∧ Bl wr g (wq x) 163 ∧ Bl wr (g + 1) (wq y) 163 ∧ Bl wr (g + 2) (zeros .u64 5) 163 ∧ Bl wr (g + 3) (wq W) 206 ∧ Below w.heap.size w wr) (fun i _ => 5 - (intOf i).toNat)
  case atStart => exact ⟨0, _, by omega, rfl, wide_start x y, b0, b1, b2, by rw [wq_zeros]; exact b3, hb0⟩
  case round =>
    clear b0 b1 b2 b3 hb0
    obtain ⟨i, W, hi, rfl, hW, b0, b1, b2, b3, hb⟩ := hrel
    by_cases hil : i < 5
    · have HIX : Hid (i < x.length) := (by rw [HXL.out]; exact hil)
      obtain ⟨a, ha⟩ : ∃ a, a = x[i]'HIX.out := ⟨_, rfl⟩
      have hal : a < 268435456 := by rw [ha]; exact HX.out.at_ i _
      have HA := Lib.hid ha
      have hi0 : (0 : Int) ≤ (i : Int) := by omega
      have hi1 : (i : Int) < 5 := by omega
      clear ha
      go_wp2
      go_loopw [14] (fun t wr => ∃ (j : Nat) (W : List Nat), j ≤ 5 ∧ t = .int .i64 j ∧ Wid5 x y i j W ∧ Bl wr g (wq x) 163 ∧ Bl wr (g + 1) (wq y) 163 ∧ Bl wr (g + 2) (zeros .u64 5) 163 ∧ Bl wr (g + 3) (wq W) 206 ∧ Below w.heap.size w wr) (fun t _ => 5 - (intOf t).toNat)
      case atStart => exact ⟨0, W, by omega, rfl, hW, b0, b1, b2, b3, hb⟩
      case round =>
        clear hW b0 b1 b2 b3 hb
        obtain ⟨j, V, hj, rfl, hV, b0, b1, b2, b3, hb⟩ := hrel
        by_cases hjl : j < 5
        · have HJY : Hid (j < y.length) := (by rw [HYL.out]; exact hjl)
          have HVL := Lib.hid hV.len
          have HIJ : Hid (i + j < V.length) := (by unfold Hid; rw [HVL.out]; omega)
          obtain ⟨b, hbd⟩ : ∃ b, b = y[j]'HJY.out := ⟨_, rfl⟩
          have hbl : b < 67108864 := by rw [hbd]; exact HY.out.at_ j _
          obtain ⟨v, hv⟩ : ∃ v, v = V[i + j]'HIJ.out := ⟨_, rfl⟩
          have hvl : v ≤ 25 * 18014398509481984 := by rw [hv]; exact Nat.le_trans (hV.at_ _ _) (Nat.mul_le_mul_right _ (by omega))
          obtain ⟨m, hm⟩ : ∃ m, m = a * b := ⟨_, rfl⟩
          have hml : m ≤ 18014398509481984 := by rw [hm]; exact Nat.le_trans (Nat.mul_le_mul (Nat.le_of_lt hal) (Nat.le_of_lt hbl)) (by omega)
          have HST : Hid (Wid5 x y i (j + 1) (V.set (i + j) (v + m))) := by
            unfold Hid
            have := hV.step HIX.out HJY.out HIJ.out (by rw [← HA.out]; exact hal) (by rw [← hbd]; exact hbl)
            rw [← HA.out, ← hbd, ← hv, ← hm] at this
            exact this
          have hc1 : wr.cell? ⟨g, i, none⟩ = some (.int .u64 (a : Int)) := by rw [b0.cell, wq_at HIX.out, ← HA.out]
          have hc2 : wr.cell? ⟨g + 1, j, none⟩ = some (.int .u64 (b : Int)) := by rw [b1.cell, wq_at HJY.out, ← hbd]
          have hc3 : wr.cell? ⟨g + 3, i + j, none⟩ = some (.int .u64 (v : Int)) := by rw [b3.cell, wq_at HIJ.out, ← hv]
          have hf := b3.frozen (i + j)
          have e1 : IntKind.u64.wrap ((a : Int) * (b : Int)) = (m : Int) := by
            have hq : (a : Int) * (b : Int) = (m : Int) := by rw [hm]; exact (Int.natCast_mul a b).symm
            rw [hq]; exact IntWalk.u64_in _ (by omega)
          obtain ⟨t, ht⟩ : ∃ t, t = v + m := ⟨_, rfl⟩
          have e2 : IntKind.u64.wrap ((v : Int) + (m : Int)) = (t : Int) := by rw [ht]; exact (IntWalk.u64_in _ (by omega)).trans (by omega)
          rw [← ht] at HST
          have hj0 : (0 : Int) ≤ (j : Int) := by omega
          have hj1 : (j : Int) < 5 := by omega
          obtain ⟨s, hs⟩ : ∃ s, s = i + j := ⟨_, rfl⟩
          rw [← hs] at hc3 hf HST
          have e0 : IntKind.i64.wrap ((i : Int) + (j : Int)) = (s : Int) := by rw [hs]; exact (IntWalk.i64_in _ (by omega)).trans (by omega)
          have hs0 : (0 : Int) ≤ (s : Int) := by omega
          have hs1 : (s : Int) < 10 := by omega
          clear hs
          have HV := Lib.hid hV
          clear hV hbd hv hm ht
          go_wp2
          go_still_tail 14, (by kernel_rfl)
          go_wp2
          go_roundw
          case rel =>
            refine ⟨j + 1, V.set s t, by omega, by go_num, HST.out, (b0.set_other _ _ (by simp)).drew, (b1.set_other _ _ (by simp)).drew, (b2.set_other _ _ (by simp)).drew, ?_, (hb.setCell (by simp; have := HG.out; omega) _).drew⟩
            have h2 := (b3.set s (.int .u64 (t : Int))).drew
            rw [wq_set] at h2
            exact h2
          case measure => simp [intOf]; omega
        · have HJ : Hid (j = 5) := (by omega : j = 5)
          have HR : Hid (Wid5 x y (i + 1) 0 V) := by unfold Hid; rw [HJ.out] at hV; exact hV.row HIX.out HYL.out
          clear hV
          go_wp2
          go_roundw
          case rel => exact ⟨i + 1, V, by omega, by go_num, HR.out, b0, b1, b2, b3, hb⟩
          case measure => simp [intOf]; omega
    · have HI : Hid (i = 5) := (by omega : i = 5)
      rw [HI.out] at hW
      have HWV := Lib.hid (hW.done HXL.out)
      have HWL := Lib.hid hW.len
      have HHN := Lib.hid (halves_nv hW.len)
      have HHL := Lib.hid (halves_lim hW)
      have HHA : Hid (∀ k (hk : k < 5), (halves W)[k]'(by rw [halves_len hW.len]; exact hk) = W[k]'(by rw [hW.len]; omega) + 5 * W[5 + k]'(by rw [hW.len]; omega)) := fun k hk => halves_at hW.len k hk
      have HWB : Hid (∀ k (hk : k < W.length), W[k] ≤ 450359962737049600) := fun k hk => Nat.le_trans (hW.at_ k hk) (by omega)
      obtain ⟨U, hU⟩ : ∃ U, U = halves W := ⟨_, rfl⟩
      have HUL : Hid (U.length = 5) := by unfold Hid; rw [hU]; exact halves_len hW.len
      have HUA : Hid (∀ k (hk : k < U.length), U[k] = W[k]'(by rw [HWL.out]; have := HUL.out; omega) + 5 * W[5 + k]'(by rw [HWL.out]; have := HUL.out; omega)) := by
        subst hU
        exact fun k hk => HHA.out k (by have := HUL.out; omega)
      rw [← hU] at HHN HHL
      clear hU hW HHA
      obtain ⟨b4, hb1, hz1⟩ := put_new wr (zeros .u64 5) (zeros .u64 5) 163 rfl
      obtain ⟨W1, hW1⟩ : ∃ W, W = (wr.alloc (.cells (zeros .u64 5).toArray 163)).setCells wr.heap.size 0 (zeros .u64 5) := ⟨_, rfl⟩
      rw [← hW1] at b4 hb1 hz1
      have HW1 := Lib.hid hW1
      have hlt3 := b3.lt
      replace b2 := b2.next hb1
      replace b3 := b3.next hb1
      replace hb := next hb hb1
      obtain ⟨gp, hgp⟩ : ∃ g, g = wr.heap.size := ⟨_, rfl⟩
      have HGP := Lib.hid hgp
      rw [← hgp] at b4 hlt3
      clear hW1 hz1 hb1 b0 b1 hgp
      go_wp2_with (first
        | (refine wpList_build_to rfl 163 _ rfl (zeros .u64 5) built_num ?_)
        | (refine wpList_alloc_zero rfl 163 rfl (zeros .u64 5) zero_num ?_)
        | (refine wpList_store_mid rfl 163 _ _ rfl _ _ (zeros .u64 5).toArray rfl rfl (Bl.there_ (Bl.new wr (zeros .u64 5) 163) (by simp [zeros])) (by rw [size_num, List.size_toArray, zeros_len]) (all_oneCell_toArray (zeros_one _ _)) ?_; change wpList _ _ _ _ _ (World.setCells (wr.alloc (.cells (zeros .u64 5).toArray 163)) wr.heap.size 0 (zeros .u64 5)); rw [← HW1.out]))
      rw [← HGP.out]
      clear HGP HW1
      go_loopw [34] (fun t wr => ∃ (k : Nat), k ≤ 5 ∧ t = .int .i64 k ∧ Bl wr (g + 2) (zeros .u64 5) 163 ∧ Bl wr (g + 3) (wq W) 206 ∧ Bl wr gp (wq (U.take k ++ (List.replicate 5 0).drop k)) 163 ∧ Below w.heap.size w wr) (fun t _ => 5 - (intOf t).toNat)
      case atStart => exact ⟨0, by omega, rfl, b2, b3, by rw [List.take_zero, List.nil_append, List.drop_zero, wq_zeros]; exact b4, hb⟩
      case round =>
        clear b2 b3 b4 hb
        obtain ⟨k, hk, rfl, b2, b3, b4, hb⟩ := hrel
        by_cases hkl : k < 5
        · have HKU : Hid (k < U.length) := (by rw [HUL.out]; exact hkl)
          have HK1 : Hid (k < W.length) := (by unfold Hid; rw [HWL.out]; omega)
          have HK2 : Hid (5 + k < W.length) := (by unfold Hid; rw [HWL.out]; omega)
          obtain ⟨a, ha⟩ : ∃ a, a = W[k]'HK1.out := ⟨_, rfl⟩
          obtain ⟨b, hbd⟩ : ∃ b, b = W[5 + k]'HK2.out := ⟨_, rfl⟩
          have hal : a ≤ 450359962737049600 := by rw [ha]; exact HWB.out k _
          have hbl : b ≤ 450359962737049600 := by rw [hbd]; exact HWB.out _ _
          obtain ⟨t, ht⟩ : ∃ t, t = a + 5 * b := ⟨_, rfl⟩
          have HT : Hid (t = U[k]'HKU.out) := by unfold Hid; rw [HUA.out k HKU.out, ← ha, ← hbd, ht]
          obtain ⟨s, hs⟩ : ∃ s, s = 5 + k := ⟨_, rfl⟩
          have hc1 : wr.cell? ⟨g + 3, k, none⟩ = some (.int .u64 (a : Int)) := by rw [b3.cell, wq_at HK1.out, ← ha]
          have hc2 : wr.cell? ⟨g + 3, s, none⟩ = some (.int .u64 (b : Int)) := by rw [hs, b3.cell, wq_at HK2.out, ← hbd]
          have hc3 : ∃ u, wr.cell? ⟨gp, k, none⟩ = some u := ⟨_, by rw [b4.cell, List.getElem?_eq_getElem (by rw [wq_len, List.length_append, List.length_take, HUL.out]; simp; omega)]⟩
          obtain ⟨u, hc3⟩ := hc3
          have hf := b4.frozen k
          have e0 : IntKind.i64.wrap (5 + (k : Int)) = (s : Int) := by rw [hs]; exact (IntWalk.i64_in _ (by omega)).trans (by omega)
          have e1 : IntKind.u64.wrap (5 * (b : Int)) = 5 * (b : Int) := IntWalk.u64_in _ (by omega)
          have e2 : IntKind.u64.wrap ((a : Int) + 5 * (b : Int)) = (t : Int) := by rw [ht]; exact (IntWalk.u64_in _ (by omega)).trans (by omega)
          have hi0 : (0 : Int) ≤ (k : Int) := by omega
          have hi1 : (k : Int) < 10 := by omega
          have hi2 : (k : Int) < 5 := by omega
          have hs0 : (0 : Int) ≤ (s : Int) := by omega
          have hs1 : (s : Int) < 10 := by omega
          clear ha hbd ht hs
          go_wp2
          go_still_tail 11, (by kernel_rfl)
          go_wp2
          go_roundw
          case rel =>
            refine ⟨k + 1, by omega, by go_num, (b2.set_other _ _ (by simp; omega)).drew, (b3.set_other _ _ (by simp; omega)).drew, ?_, (hb.setCell (by simp; have := HG.out; omega) _).drew⟩
            have h2 := (b4.set k (.int .u64 (t : Int))).drew
            rw [wq_set, put_at (U.take k) (List.replicate 5 0) k t (by rw [List.length_take, HUL.out]; omega) (by simp; omega), HT.out, ← List.take_succ_eq_append_getElem HKU.out] at h2
            rw [HT.out]
            exact h2
          case measure => simp [intOf]; omega
        · have HK : Hid (k = 5) := (by omega : k = 5)
          have hz : U.take k ++ (List.replicate 5 0).drop k = U := by rw [HK.out, List.take_of_length_le (by rw [HUL.out]; omega)]; simp
          rw [hz] at b4
          have HB := Lib.hid b4
          clear hz b4
          go_wp2_with (first
            | (refine wpList_load_mid rfl 163 _ rfl _ _ rfl (wq U) _ HB.out.whole Tryz.underlying163 rfl (by rw [size_num, wq_len, HUL.out]) ?_))
          refine (folded_any U wr (HHL.out.up (by omega))).mono ?_
          rintro e w1 ⟨z1, c1, rfl, hl1, hv1, hv1', hc1, hb1⟩
          have hc1l : c1 < 137438953472 := by
            obtain ⟨q0, q1, q2, q3, q4, hq, h1, h2, h3, h4, h5⟩ := HHL.out.five
            rw [hq, nv_five] at hc1
            omega
          replace b2 := b2.next hb1
          replace hb := next hb hb1
          have HV1 := Lib.hid hv1
          clear hv1 hc1 hb1 b3
          go_wp2_with fail
          refine (folded_any z1 w1 (hl1.up (by omega))).mono ?_
          rintro e w2 ⟨z2, c2, rfl, hl2, hv2, hv2', hc2, hb2⟩
          have hc2l : c2 ≤ 1 := by omega
          replace b2 := b2.next hb2
          replace hb := next hb hb2
          have HL2 : Hid (Lim 67108869 z2) := hl2.up (by omega)
          have HZL := Lib.hid HL2.out.len
          have HM : Hid (nv z2 % pN = (nv x * nv y) % pN) := by
            unfold Hid
            rw [← HWV.out, mod_of _ _ _ HHN.out, mod_of _ _ _ HV1.out, mod_of _ _ _ hv2]
          clear hv2 hc2 hb2 hl2 hl1 hv1' hv2'
          go_wp2_with (refine wpList_store_mid rfl 163 _ _ rfl _ _ (wq z2).toArray rfl rfl (b2.there_ (by simp [zeros, wq_len, HZL.out])) (by rw [size_num, List.size_toArray, wq_len, HZL.out]) (all_oneCell_toArray (wq_one _)) ?_)
          have hfin := b2.over (vs := wq z2) (by rw [wq_len, HZL.out, zeros_len])
          exact ret_row Tryz.results151 rfl hfin Tryz.underlying163 rfl (by rw [size_num, wq_len, HZL.out]) rfl ⟨z2, rfl, HL2.out, HM.out, below_setCells hb (by have := HG.out; omega) _ _⟩

end Go.Proofs.YtlnoopmblmkgkaaGreatDoor

namespace Go.Proofs.YtlnoopmblmkgkaaGreatDoor
set_option maxRecDepth 100000
open Go.RowKit
set_option linter.unusedVariables false
set_option linter.unusedSimpArgs false

theorem built_five : Tryz.prog.built 163 [(0, .int .u64 5)] = some (wq [5, 0, 0, 0, 0]).toArray := by kernel_rfl

set_option maxRecDepth 100000 in
set_option maxHeartbeats 1000000 in
theorem reduced_any (x : List Nat) (w : World) (hx : Lim 67108869 x) :
    Calls Tryz.prog 136 #[.agg (wq x).toArray] w fun e w' => ∃ z, e = .returned (.agg (wq z).toArray) ∧ Lim 67108869 z ∧ nv z = nv x % pN ∧ Below w.heap.size w w' := by
  have HX := Lib.hid hx
  have HXL := Lib.hid hx.len
  clear hx
  obtain ⟨b0, b1, hsz, hb0⟩ := two_new w (wq x) (zeros .u64 5) 163 163
  obtain ⟨W0, hW0⟩ : ∃ W, W = (w.alloc (.cells (wq x).toArray 163)).alloc (.cells (zeros .u64 5).toArray 163) := ⟨_, rfl⟩
  rw [← hW0] at b0 b1 hsz hb0
  have HW0 := Lib.hid hW0
  have HB0 := Lib.hid b0
  clear hW0 hsz
  obtain ⟨F, hF⟩ : ∃ F, F = [5, 0, 0, 0, 0] := ⟨_, rfl⟩
  have HBU := Lib.hid built_five
  rw [← hF] at HBU
  have HFL : Hid (Lim 6 F) := by unfold Hid; rw [hF]; exact lim_five (by omega) (by omega) (by omega) (by omega) (by omega)
  have HFV : Hid (nv F = 5) := by unfold Hid; rw [hF, nv_five]
  clear hF
  go_enter Tryz.func136, Tryz.ntmps136
  go_wp2_with (first
    | (refine wpList_box_agg rfl 163 _ rfl (wq x) rfl ?_)
    | (refine wpList_alloc_zero rfl 163 rfl (zeros .u64 5) zero_num ?_; rw [← HW0.out])
    | (refine wpList_load_mid rfl 163 _ rfl _ _ rfl (wq x) _ HB0.out.whole Tryz.underlying163 rfl (by rw [size_num, wq_len, HXL.out]) ?_)
    | (refine wpList_build_to rfl 163 _ rfl (wq F) HBU.out ?_))
  refine (plus_any x F W0 (HX.out.up (by omega)) (HFL.out.up (by omega))).mono ?_
  rintro e w1 ⟨rfl, hb1⟩
  obtain ⟨X5, hX5⟩ : ∃ X, X = List.zipWith (· + ·) x F := ⟨_, rfl⟩
  rw [← hX5]
  have HL5 : Hid (Lim 67108875 X5) := by unfold Hid; rw [hX5]; exact addL_lim HX.out HFL.out
  have HV5 : Hid (nv X5 = nv x + 5) := by unfold Hid; rw [hX5, addL_nv HX.out HFL.out, HFV.out]
  clear hX5
  replace b0 := b0.next hb1
  replace b1 := b1.next hb1
  replace hb0 := next hb0 hb1
  clear hb1 HB0 HBU
  go_wp2_with fail
  refine (carried_any X5 w1 (HL5.out.up (by omega))).mono ?_
  rintro e w2 ⟨M, c, rfl, hM, hv, hb2⟩
  have HM := Lib.hid hM
  have HML := Lib.hid hM.len
  replace b0 := b0.next hb2
  replace b1 := b1.next hb2
  replace hb0 := next hb0 hb2
  have HR : Hid ((c = 0 ∧ nv x = nv x % pN) ∨ (c = 1 ∧ nv M = nv x % pN)) := by
    unfold Hid
    have h1 := HV5.out
    obtain ⟨q0, q1, q2, q3, q4, hq, h2, h3, h4, h5, h6⟩ := HX.out.five
    have h7 : nv x < 1361129467683753853853498429727072845824 + 1361129467683753853853498429727072845824 - 10 := by rw [hq, nv_five]; omega
    have h8 : nv M < 1361129467683753853853498429727072845824 := by
      obtain ⟨m0, m1, m2, m3, m4, hm, k2, k3, k4, k5, k6⟩ := hM.five
      rw [hm, nv_five]; omega
    have h9 : c < 2 := carry_bound hv (by rw [h1]; omega)
    rcases (show c = 0 ∨ c = 1 by omega) with rfl | rfl
    · exact .inl ⟨rfl, (Nat.mod_eq_of_lt (by unfold pN; omega)).symm⟩
    · refine .inr ⟨rfl, ?_⟩
      have h10 : nv x = nv M + 1 * pN := by unfold pN; omega
      rw [mod_of _ _ _ h10]
      exact (Nat.mod_eq_of_lt (by unfold pN; omega)).symm
  clear hM hv hb2
  obtain ⟨b3, hb3, hz3⟩ := put_new w2 (zeros .u64 5) (wq M) 163 (by rw [wq_len, HML.out, zeros_len])
  obtain ⟨W3, hW3⟩ : ∃ W, W = (w2.alloc (.cells (zeros .u64 5).toArray 163)).setCells w2.heap.size 0 (wq M) := ⟨_, rfl⟩
  rw [← hW3] at b3 hb3 hz3
  have HW3 := Lib.hid hW3
  have hg2 := b1.lt
  replace b0 := b0.next hb3
  replace b1 := b1.next hb3
  replace hb0 := next hb0 hb3
  obtain ⟨gm, hgm⟩ : ∃ g, g = w2.heap.size := ⟨_, rfl⟩
  have HGM := Lib.hid hgm
  rw [← hgm] at b3 hg2
  clear hW3 hb3 hz3 hgm
  go_wp2_with (first
    | (refine wpList_alloc_zero rfl 163 rfl (zeros .u64 5) zero_num ?_)
    | (refine wpList_store_mid rfl 163 _ _ rfl _ _ (wq M).toArray rfl rfl (Bl.there_ (Bl.new w2 (zeros .u64 5) 163) (by simp [zeros, wq_len, HML.out])) (by rw [size_num, List.size_toArray, wq_len, HML.out]) (all_oneCell_toArray (wq_one _)) ?_; change wpList _ _ _ _ _ (World.setCells (w2.alloc (.cells (zeros .u64 5).toArray 163)) w2.heap.size 0 (wq M)); rw [← HW3.out]))
  rw [← HGM.out]
  clear HGM HW3
  obtain ⟨Y, hY⟩ : ∃ Y, Y = if c = 0 then x else M := ⟨_, rfl⟩
  have HYL : Hid (Y.length = 5) := by unfold Hid; rw [hY]; split; exact HXL.out; exact HML.out
  have HYB : Hid (Lim 67108869 Y) := by unfold Hid; rw [hY]; split; exact HX.out; exact HM.out.up (by omega)
  have HYV : Hid (nv Y = nv x % pN) := by
    unfold Hid; rw [hY]
    rcases HR.out with ⟨h1, h2⟩ | ⟨h1, h2⟩
    · rw [if_pos h1]; exact h2
    · rw [if_neg (by omega)]; exact h2
  have HYA : Hid (∀ k (h : k < 5), pick (c : Int) ((x[k]'(by rw [HXL.out]; exact h) : Nat) : Int) ((M[k]'(by rw [HML.out]; exact h) : Nat) : Int) = ((Y[k]'(by rw [HYL.out]; exact h) : Nat) : Int)) := by
    unfold Hid
    intro k h
    unfold pick
    subst hY
    by_cases h0 : c = 0
    · simp [h0]
    · simp [h0]
  have hcl : c ≤ 1 := by rcases HR.out with ⟨h1, _⟩ | ⟨h1, _⟩ <;> omega
  clear hY HR
  go_loopw [13] (fun i wr => ∃ (k : Nat), k ≤ 5 ∧ i = .int .i64 k ∧ Bl wr w.heap.size (wq (Y.take k ++ x.drop k)) 163 ∧ Bl wr (w.heap.size + 1) (zeros .u64 5) 163 ∧ Bl wr gm (wq M) 163 ∧ Below w.heap.size w wr) (fun i _ => 5 - (intOf i).toNat)
  case atStart => exact ⟨0, by omega, rfl, by simpa using b0, b1, b3, hb0⟩
  case round =>
    clear b0 b1 b3 hb0
    obtain ⟨k, hk, rfl, b0, b1, b3, hb⟩ := hrel
    by_cases hlt : k < 5
    · have HKX : Hid (k < x.length) := (by rw [HXL.out]; exact hlt)
      have HKM : Hid (k < M.length) := (by rw [HML.out]; exact hlt)
      have HKY : Hid (k < Y.length) := (by rw [HYL.out]; exact hlt)
      obtain ⟨a, ha⟩ : ∃ a, a = x[k]'HKX.out := ⟨_, rfl⟩
      obtain ⟨m, hm⟩ : ∃ m, m = M[k]'HKM.out := ⟨_, rfl⟩
      obtain ⟨y, hy⟩ : ∃ y, y = Y[k]'HKY.out := ⟨_, rfl⟩
      have HP := Lib.hid (HYA.out k hlt)
      rw [← ha, ← hm, ← hy] at HP
      have hal : a < 67108869 := by rw [ha]; exact HX.out.at_ k _
      have hml : m < 67108864 := by rw [hm]; exact HM.out.at_ k _
      have hyl : y < 67108869 := by rw [hy]; exact HYB.out.at_ k _
      have HYY := Lib.hid hy
      replace b0 := b0.drew
      replace b1 := b1.drew
      replace b3 := b3.drew
      replace hb := hb.drew
      obtain ⟨W4, hW4⟩ : ∃ W, W = wr.drew := ⟨_, rfl⟩
      rw [← hW4] at b0 b1 b3 hb
      have HW4 := Lib.hid hW4
      have hc1 : ∀ w', Bl w' w.heap.size (wq (Y.take k ++ x.drop k)) 163 → w'.cell? ⟨w.heap.size, k, none⟩ = some (.int .u64 (a : Int)) := by
        intro w' h
        have hdl : (Y.take k).length = k := by rw [List.length_take, HYL.out]; omega
        rw [h.cell, wq_at (by rw [List.length_append, hdl, List.length_drop, HXL.out]; omega)]
        congr 3
        rw [ha, List.getElem_append_right (by omega)]
        simp [hdl]
      have hc2 : ∀ w', Bl w' gm (wq M) 163 → w'.cell? ⟨gm, k, none⟩ = some (.int .u64 (m : Int)) := by
        intro w' h
        rw [h.cell, wq_at HKM.out, hm]
      obtain ⟨S, hSd⟩ : ∃ S : World → Prop, S = fun w' => Bl w' w.heap.size (wq (Y.take k ++ x.drop k)) 163 ∧ Bl w' gm (wq M) 163 := ⟨_, rfl⟩
      have hS : S W4 := by rw [hSd]; exact ⟨b0, b3⟩
      have HS1 : Hid (∀ w', S w' → w'.cell? ⟨w.heap.size, k, none⟩ = some (.int .u64 (a : Int))) := by unfold Hid; intro w' h; rw [hSd] at h; exact hc1 w' h.1
      have HS2 : Hid (∀ w', S w' → w'.cell? ⟨gm, k, none⟩ = some (.int .u64 (m : Int))) := by unfold Hid; intro w' h; rw [hSd] at h; exact hc2 w' h.2
      have hi0 : (0 : Int) ≤ (k : Int) := by omega
      have hi1 : (k : Int) < 5 := by omega
      clear hc1 hc2 hSd hW4 ha hm hy
      go_wp2_with fail
      refine wp_region_K 14 S (by kernel_rfl) (by rw [← HW4.out]; exact hS) (fun _ => ?_)
      rw [← HW4.out]
      refine wpAnyK_take0 (i := 0) (v := (.int .i64 (k : Int))) rfl (by kernel_rfl) (by kernel_rfl) (by kernel_rfl) (by kernel_rfl) (fun _ _ _ h => h) (Or.inl ⟨by rfl, fun _ => by go_simp⟩) hS ?_
      simp only [List.getElem_toArray, List.getElem_cons_succ, List.getElem_cons_zero, Act.put, List.setIfInBounds_toArray, List.set_cons_zero, List.set_cons_succ]
      refine wpAnyK_take0 (i := 1) (v := (.int .u64 (c : Int))) rfl (by kernel_rfl) (by kernel_rfl) (by kernel_rfl) (by kernel_rfl) (fun _ _ _ h => h) (Or.inl ⟨by rfl, fun _ => by go_simp⟩) hS ?_
      simp only [List.getElem_toArray, List.getElem_cons_succ, List.getElem_cons_zero, Act.put, List.setIfInBounds_toArray, List.set_cons_zero, List.set_cons_succ]
      refine wpAnyK_take0 (i := 2) (v := (.int .u32 (c : Int))) rfl (by kernel_rfl) (by kernel_rfl) (by kernel_rfl) (by kernel_rfl) (fun _ _ _ h => h) (Or.inl ⟨by rfl, fun _ => by go_simp; exact IntWalk.u32_in _ (by omega)⟩) hS ?_
      simp only [List.getElem_toArray, List.getElem_cons_succ, List.getElem_cons_zero, Act.put, List.setIfInBounds_toArray, List.set_cons_zero, List.set_cons_succ]
      refine wpAnyK_take0 (i := 3) (v := (.int .i64 (k : Int))) rfl (by kernel_rfl) (by kernel_rfl) (by kernel_rfl) (by kernel_rfl) (fun _ _ _ h => h) (Or.inl ⟨by rfl, fun _ => by go_simp⟩) hS ?_
      simp only [List.getElem_toArray, List.getElem_cons_succ, List.getElem_cons_zero, Act.put, List.setIfInBounds_toArray, List.set_cons_zero, List.set_cons_succ]
      refine wpAnyK_take0 (i := 4) (v := (.pointer (some ⟨w.heap.size, k, none⟩))) rfl (by kernel_rfl) (by kernel_rfl) (by kernel_rfl) (by kernel_rfl) (fun _ _ _ h => h) (Or.inl ⟨by rfl, fun _ => by go_simp⟩) hS ?_
      simp only [List.getElem_toArray, List.getElem_cons_succ, List.getElem_cons_zero, Act.put, List.setIfInBounds_toArray, List.set_cons_zero, List.set_cons_succ]
      refine wpAnyK_take (i := 5) (v := (.int .u64 (a : Int))) rfl (by kernel_rfl) (by kernel_rfl) (by kernel_rfl) (by kernel_rfl) (fun _ _ _ h => h) (Or.inl ⟨by rfl, fun w9 hw9 => by have hq9 := HS1.out w9 hw9; go_simp⟩) hS ?_
      simp only [List.getElem_toArray, List.getElem_cons_succ, List.getElem_cons_zero, Act.put, List.setIfInBounds_toArray, List.set_cons_zero, List.set_cons_succ]
      refine wpAnyK_take0 (i := 6) (v := (.int .u32 (a : Int))) rfl (by kernel_rfl) (by kernel_rfl) (by kernel_rfl) (by kernel_rfl) (fun _ _ _ h => h) (Or.inl ⟨by rfl, fun _ => by go_simp; exact IntWalk.u32_in _ (by omega)⟩) hS ?_
      simp only [List.getElem_toArray, List.getElem_cons_succ, List.getElem_cons_zero, Act.put, List.setIfInBounds_toArray, List.set_cons_zero, List.set_cons_succ]
      refine wpAnyK_take0 (i := 7) (v := (.int .i64 (k : Int))) rfl (by kernel_rfl) (by kernel_rfl) (by kernel_rfl) (by kernel_rfl) (fun _ _ _ h => h) (Or.inl ⟨by rfl, fun _ => by go_simp⟩) hS ?_
      simp only [List.getElem_toArray, List.getElem_cons_succ, List.getElem_cons_zero, Act.put, List.setIfInBounds_toArray, List.set_cons_zero, List.set_cons_succ]
      refine wpAnyK_take0 (i := 8) (v := (.pointer (some ⟨gm, k, none⟩))) rfl (by kernel_rfl) (by kernel_rfl) (by kernel_rfl) (by kernel_rfl) (fun _ _ _ h => h) (Or.inl ⟨by rfl, fun _ => by go_simp⟩) hS ?_
      simp only [List.getElem_toArray, List.getElem_cons_succ, List.getElem_cons_zero, Act.put, List.setIfInBounds_toArray, List.set_cons_zero, List.set_cons_succ]
      refine wpAnyK_take (i := 9) (v := (.int .u64 (m : Int))) rfl (by kernel_rfl) (by kernel_rfl) (by kernel_rfl) (by kernel_rfl) (fun _ _ _ h => h) (Or.inl ⟨by rfl, fun w9 hw9 => by have hq9 := HS2.out w9 hw9; go_simp⟩) hS ?_
      simp only [List.getElem_toArray, List.getElem_cons_succ, List.getElem_cons_zero, Act.put, List.setIfInBounds_toArray, List.set_cons_zero, List.set_cons_succ]
      refine wpAnyK_take0 (i := 10) (v := (.int .u32 (m : Int))) rfl (by kernel_rfl) (by kernel_rfl) (by kernel_rfl) (by kernel_rfl) (fun _ _ _ h => h) (Or.inl ⟨by rfl, fun _ => by go_simp; exact IntWalk.u32_in _ (by omega)⟩) hS ?_
      simp only [List.getElem_toArray, List.getElem_cons_succ, List.getElem_cons_zero, Act.put, List.setIfInBounds_toArray, List.set_cons_zero, List.set_cons_succ]
      refine wpAnyK_one (i := 11) (by kernel_rfl) rfl (by decide) (by rfl) (fun K hK => ?_)
      simp only [List.getElem_toArray, List.getElem_cons_succ, List.getElem_cons_zero, Act.put, List.setIfInBounds_toArray, List.set_cons_zero, List.set_cons_succ]
      go_simp
      refine (choose_any (c : Int) (a : Int) (m : Int) _ (by omega) (by omega) (by omega) (by omega) (by omega) (by omega)).mono ?_
      rintro e w' ⟨rfl, rfl⟩
      rw [HP.out]
      refine hK.out _ _ hS ?_
      clear hK K
      refine wpAnyK_take0 (i := 12) (v := (.int .u64 (y : Int))) rfl (by kernel_rfl) (by kernel_rfl) (by kernel_rfl) (by kernel_rfl) (fun _ _ _ h => h) (Or.inl ⟨by rfl, fun _ => by go_simp; exact IntWalk.u64_in _ (by omega)⟩) hS ?_
      simp only [List.getElem_toArray, List.getElem_cons_succ, List.getElem_cons_zero, Act.put, List.setIfInBounds_toArray, List.set_cons_zero, List.set_cons_succ]
      refine wpAnyK_take0 (i := 13) (v := (.pointer (some ⟨w.heap.size, k, none⟩))) rfl (by kernel_rfl) (by kernel_rfl) (by kernel_rfl) (by kernel_rfl) (fun _ _ _ h => h) (Or.inl ⟨by rfl, fun _ => by go_simp⟩) hS ?_
      simp only [List.getElem_toArray, List.getElem_cons_succ, List.getElem_cons_zero, Act.put, List.setIfInBounds_toArray, List.set_cons_zero, List.set_cons_succ]
      have hc1 := HS1.out _ hS
      have hf1 := b0.frozen k
      refine wpAnyK_K (by kernel_rfl) rfl (by rfl) (fun K hK => ?_)
      simp only [List.getElem_toArray, List.getElem_cons_succ, List.getElem_cons_zero, Act.put, List.setIfInBounds_toArray, List.set_cons_zero, List.set_cons_succ]
      go_simp
      refine hK.out _ _ ?_
      clear hK K hc1 hf1
      refine wpAny_done (by kernel_rfl) ?_ _
      go_wp2
      go_roundw
      case rel =>
        refine ⟨k + 1, by omega, by go_num, ?_, b1.set_other _ _ (by simp), b3.set_other _ _ (by simp; omega), hb.setCell (by simp) _⟩
        have h2 := b0.set k (.int .u64 (y : Int))
        rw [wq_set, put_at (Y.take k) x k y (by rw [List.length_take, HYL.out]; omega) HKX.out, HYY.out, ← List.take_succ_eq_append_getElem HKY.out] at h2
        rw [HYY.out]
        exact h2
      case measure => simp [intOf]; omega
    · have HK : Hid (k = 5) := (by omega : k = 5)
      have hz : Y.take k ++ x.drop k = Y := by rw [HK.out, List.take_of_length_le (by rw [HYL.out]; omega), List.drop_of_length_le (by rw [HXL.out]; omega), List.append_nil]
      rw [hz] at b0
      have HB := Lib.hid b0
      clear b0 hz
      go_wp2_with (first
        | (refine wpList_load_mid rfl 163 _ rfl _ _ rfl (wq Y) _ HB.out.whole Tryz.underlying163 rfl (by rw [size_num, wq_len, HYL.out]) ?_)
        | (refine wpList_store_mid rfl 163 _ _ rfl _ _ (wq Y).toArray rfl rfl (b1.there_ (by simp [zeros, wq_len, HYL.out])) (by rw [size_num, List.size_toArray, wq_len, HYL.out]) (all_oneCell_toArray (wq_one _)) ?_))
      have hfin := b1.over (vs := wq Y) (by rw [wq_len, HYL.out, zeros_len])
      exact ret_row Tryz.results136 rfl hfin Tryz.underlying163 rfl (by rw [size_num, wq_len, HYL.out]) rfl ⟨Y, rfl, HYB.out, HYV.out, below_setCells hb (by omega) _ _⟩

end Go.Proofs.YtlnoopmblmkgkaaGreatDoor

namespace Go.Proofs.YtlnoopmblmkgkaaGreatDoor
set_option maxRecDepth 100000
open Go.RowKit
set_option linter.unusedVariables false
set_option linter.unusedSimpArgs false

/-- Bytes as numbers, and what they are worth, the lowest first. -/
def nb (l : List UInt8) : List Nat := l.map UInt8.toNat
def lv (l : List UInt8) : Nat := bv 256 (nb l)
theorem nb_len (l : List UInt8) : (nb l).length = l.length := by simp [nb]
theorem nb_lt (l : List UInt8) : ∀ d ∈ nb l, d < 256 := by
  intro d hd
  obtain ⟨b, _, rfl⟩ := List.mem_map.1 hd
  exact b.toNat_lt
theorem nb_append (a b : List UInt8) : nb (a ++ b) = nb a ++ nb b := by simp [nb]
theorem lv_append (a b : List UInt8) : lv (a ++ b) = lv a + 256 ^ a.length * lv b := by unfold lv; rw [nb_append, bv_append, nb_len]
theorem lv_lt (l : List UInt8) : lv l < 256 ^ l.length := by have := bv_lt (by decide) (nb l) (nb_lt l); rwa [nb_len] at this
theorem lv_zeros (n : Nat) : lv (List.replicate n 0) = 0 := by
  unfold lv nb
  rw [List.map_replicate]
  exact bv_zeros 256 n
theorem lv_val (l : List UInt8) : val l.reverse = lv l := by
  induction l with
  | nil => rfl
  | cons b r ih => rw [List.reverse_cons, val_snoc, ih]; simp only [lv, nb, List.map_cons, bv]; omega
theorem bv_mid (x : List Nat) (h : ∀ d ∈ x, d < 256) (f n : Nat) (hf : f + n ≤ x.length) : bv 256 ((x.drop f).take n) = bv 256 x / 256 ^ f % 256 ^ n := by
  have h1 := bv_split 256 x f (by omega)
  have h2 := bv_split 256 (x.drop f) n (by rw [List.length_drop]; omega)
  have k1 := bv_lt (b := 256) (by decide) (x.take f) (fun d hd => h d (List.mem_of_mem_take hd))
  have k2 := bv_lt (b := 256) (by decide) ((x.drop f).take n) (fun d hd => h d (List.mem_of_mem_drop (List.mem_of_mem_take hd)))
  rw [List.length_take, Nat.min_eq_left (by omega)] at k1
  rw [List.length_take, List.length_drop, Nat.min_eq_left (by omega)] at k2
  rw [h1, Nat.add_mul_div_left _ _ (Nat.pow_pos (by decide)), Nat.div_eq_of_lt k1, Nat.zero_add, h2, Nat.add_mul_mod_self_left, Nat.mod_eq_of_lt k2]
theorem load_mid (l : List UInt8) (f : Nat) (h : f + 4 ≤ l.length) : loadV ((l.drop f).take 4) true = lv l / 256 ^ f % 4294967296 := by
  unfold loadV
  rw [if_pos (by rw [List.length_take, List.length_drop]; omega), if_pos rfl, lv_val]
  unfold lv
  rw [show nb ((l.drop f).take 4) = ((nb l).drop f).take 4 by simp [nb], bv_mid _ (nb_lt l) _ _ (by rw [nb_len]; exact h)]

/-- The limbs of a number below 2^130. -/
def limbs (v : Nat) : List Nat := (List.range 5).map fun k => v / 67108864 ^ k % 67108864
theorem limbs_len (v : Nat) : (limbs v).length = 5 := by simp [limbs]
theorem limbs_at (v k : Nat) (h : k < (limbs v).length) : (limbs v)[k] = v / 67108864 ^ k % 67108864 := by simp [limbs]
theorem limbs_lim (v : Nat) : Lim 67108864 (limbs v) := ⟨limbs_len v, fun d hd => by
  obtain ⟨k, _, rfl⟩ := List.mem_map.1 hd
  exact Nat.mod_lt _ (by decide)⟩
theorem limbs_nv (v : Nat) (h : v < 1361129467683753853853498429727072845824) : nv (limbs v) = v := by
  have e : limbs v = [v % 67108864, v / 67108864 % 67108864, v / 4503599627370496 % 67108864, v / 302231454903657293676544 % 67108864, v / 20282409603651670423947251286016 % 67108864] := by
    simp [limbs, List.range, List.range.loop]
  rw [e, nv_five]
  omega
theorem limb_eq (v k : Nat) (h : k < 5) : v / 256 ^ (26 * k / 8) % 4294967296 / 2 ^ (26 * k % 8) % 67108864 = v / 67108864 ^ k % 67108864 := by
  rcases (show k = 0 ∨ k = 1 ∨ k = 2 ∨ k = 3 ∨ k = 4 by omega) with rfl | rfl | rfl | rfl | rfl
  all_goals first | (simp; done) | (simp; omega)

theorem zero_17 : (Tryz.prog.info? 166).map (·.zero) = some (some (.agg (zeros .u8 17).toArray)) := by kernel_rfl
theorem size_17 : (Tryz.prog.info? 166).map (·.size) = some 17 := by kernel_rfl
theorem built_17 : Tryz.prog.built 166 [] = some (zeros .u8 17).toArray := by kernel_rfl

/-- Bytes followed by noughts, 17 in all. -/
def wid (l : List UInt8) : List UInt8 := l ++ List.replicate (17 - l.length) 0
theorem wid_len (l : List UInt8) (h : l.length ≤ 17) : (wid l).length = 17 := by simp [wid]; omega
theorem wid_lv (l : List UInt8) : lv (wid l) = lv l := by unfold wid; rw [lv_append, lv_zeros]; simp
theorem wid_splice (l : List UInt8) (h : l.length ≤ 17) : splice (zeros .u8 17) 0 (cb l) = cb (wid l) := by
  unfold splice wid zeros
  rw [cb_append, cb_zeros, List.take_zero, List.nil_append, List.drop_replicate, cb_len, Nat.zero_add]

set_option maxHeartbeats 600000 in
theorem widened_any (l : List UInt8) (w : World) (B : Nat) (A : Option Addr) (n c : Nat) (h : Sl w B A n (cb l)) (hB : B ≤ w.heap.size) (hn : n ≤ 17) :
    Calls Tryz.prog 129 #[.slice A n c] w fun e w' => e = .returned (.agg (cb (wid l)).toArray) ∧ Below w.heap.size w w' := by
  have hnl : n = l.length := by rw [← h.1, cb_len]
  obtain ⟨L, hL⟩ : ∃ L, L = wid l := ⟨_, rfl⟩
  have HLL : Hid (L.length = 17) := by unfold Hid; rw [hL]; exact wid_len l (by omega)
  have b0 := Bl.new w (zeros .u8 17) 166
  have hb0 : Below w.heap.size w (w.alloc (.cells (zeros .u8 17).toArray 166)) := (Below.refl _ w).alloc (Nat.le_refl _) _
  have hz0 : (w.alloc (.cells (zeros .u8 17).toArray 166)).heap.size = w.heap.size + 1 := by simp
  obtain ⟨W0, hW0⟩ : ∃ W, W = w.alloc (.cells (zeros .u8 17).toArray 166) := ⟨_, rfl⟩
  rw [← hW0] at b0 hb0 hz0
  have HW0 := Lib.hid hW0
  obtain ⟨b1, hb1, hz1⟩ := put_new W0 (zeros .u8 17) (zeros .u8 17) 166 rfl
  obtain ⟨W1, hW1⟩ : ∃ W, W = (W0.alloc (.cells (zeros .u8 17).toArray 166)).setCells W0.heap.size 0 (zeros .u8 17) := ⟨_, rfl⟩
  rw [← hW1] at b1 hb1 hz1
  have HW1 := Lib.hid hW1
  rw [hz0] at b1
  replace b0 := b0.next hb1
  replace hb0 := next hb0 hb1
  have hs1 := h.below (hb0.mono hB)
  obtain ⟨w2, hcp, b2, hg2⟩ := run_copy_but (P := Tryz.prog) W1 22 22 3 5 Tryz.underlying22 u8_size (w.heap.size + 1) 0 17 17 _ A n c (cb l) hs1 _ _ b1 (by simp [zeros]) (cb_one _)
  rw [List.take_of_length_le (by rw [cb_len, ← hnl]; exact hn), wid_splice l (by omega), ← hL] at b2
  replace b0 := b0.grown hg2 (by simp)
  replace hb0 := below_but hb0 hg2 hb0.size (by omega)
  have HCP := Lib.hid hcp
  have HZ0 := Lib.hid hz0
  have HB2 := Lib.hid b2
  rw [← hL]
  clear hL hcp hW0 hW1 hz0 hz1 hb1 b1 hs1 hg2 b2 hnl
  go_enter Tryz.func129, Tryz.ntmps129
  go_wp2_with (first
    | (refine wpList_build_to rfl 166 _ rfl (zeros .u8 17) built_17 ?_)
    | (refine wpList_alloc_zero rfl 166 rfl (zeros .u8 17) zero_17 ?_; try rw [← HW0.out])
    | (refine wpList_store_mid rfl 166 _ _ rfl _ _ (zeros .u8 17).toArray rfl rfl (Bl.there_ (Bl.new W0 (zeros .u8 17) 166) (by simp [zeros])) (by rw [size_17, List.size_toArray, zeros_len]) (all_oneCell_toArray (zeros_one _ _)) ?_; change wpList _ _ _ _ _ (World.setCells (W0.alloc (.cells (zeros .u8 17).toArray 166)) W0.heap.size 0 (zeros .u8 17)); rw [← HW1.out, HZ0.out]))
  rw [HCP.out]
  go_wp2_with (first
    | (refine wpList_load_mid rfl 166 _ rfl _ _ rfl (cb L) _ HB2.out.whole Tryz.underlying166 rfl (by rw [size_17, cb_len, HLL.out]) ?_)
    | (refine wpList_store_mid rfl 166 _ _ rfl _ _ (cb L).toArray rfl rfl (b0.there_ (by simp [zeros, cb_len, HLL.out])) (by rw [size_17, List.size_toArray, cb_len, HLL.out]) (all_oneCell_toArray (cb_one _)) ?_))
  have hfin := b0.over (vs := cb L) (by rw [cb_len, HLL.out, zeros_len])
  exact ret_row Tryz.results129 rfl hfin Tryz.underlying166 rfl (by rw [size_17, cb_len, HLL.out]) rfl ⟨rfl, below_setCells hb0 (Nat.le_refl _) _ _⟩

set_option maxRecDepth 100000 in
set_option maxHeartbeats 1000000 in
theorem numberOf_any (l : List UInt8) (w : World) (hl : l.length = 17) (L : List Nat) (hL : L = limbs (lv l)) :
    Calls Tryz.prog 128 #[.agg (cb l).toArray] w fun e w' => e = .returned (.agg (wq L).toArray) ∧ Below w.heap.size w w' := by
  have HL := Lib.hid hL
  have HLL : Hid (L.length = 5) := by unfold Hid; rw [hL, limbs_len]
  have HH := Lib.hid hl
  clear hL
  obtain ⟨b0, b1, hsz, hb0⟩ := two_new w (cb l) (zeros .u64 5) 166 163
  obtain ⟨W0, hW0⟩ : ∃ W, W = (w.alloc (.cells (cb l).toArray 166)).alloc (.cells (zeros .u64 5).toArray 163) := ⟨_, rfl⟩
  rw [← hW0] at b0 b1 hsz hb0
  have HW0 := Lib.hid hW0
  obtain ⟨b2, hb1, hz1⟩ := put_new W0 (zeros .u64 5) (zeros .u64 5) 163 rfl
  obtain ⟨W1, hW1⟩ : ∃ W, W = (W0.alloc (.cells (zeros .u64 5).toArray 163)).setCells W0.heap.size 0 (zeros .u64 5) := ⟨_, rfl⟩
  rw [← hW1] at b2 hb1 hz1
  have HW1 := Lib.hid hW1
  rw [hsz] at b2
  replace b0 := b0.next hb1
  replace b1 := b1.next hb1
  replace hb0 := next hb0 hb1
  have HSZ := Lib.hid hsz
  clear hW0 hW1 hsz hz1 hb1 hl
  go_enter Tryz.func128, Tryz.ntmps128
  go_wp2_with (first
    | (refine wpList_box_agg rfl 166 _ rfl (cb l) rfl ?_)
    | (refine wpList_build_to rfl 163 _ rfl (zeros .u64 5) built_num ?_)
    | (refine wpList_alloc_zero rfl 163 rfl (zeros .u64 5) zero_num ?_; try rw [← HW0.out])
    | (refine wpList_store_mid rfl 163 _ _ rfl _ _ (zeros .u64 5).toArray rfl rfl (Bl.there_ (Bl.new W0 (zeros .u64 5) 163) (by simp [zeros])) (by rw [size_num, List.size_toArray, zeros_len]) (all_oneCell_toArray (zeros_one _ _)) ?_; change wpList _ _ _ _ _ (World.setCells (W0.alloc (.cells (zeros .u64 5).toArray 163)) W0.heap.size 0 (zeros .u64 5)); rw [← HW1.out]))
  rw [HSZ.out]
  clear HW0 HW1 HSZ
  go_loopw [10] (fun i wr => ∃ (k : Nat), k ≤ 5 ∧ i = .int .i64 k ∧ Bl wr w.heap.size (cb l) 166 ∧ Bl wr (w.heap.size + 1) (zeros .u64 5) 163 ∧ Bl wr (w.heap.size + 2) (wq (L.take k ++ (List.replicate 5 0).drop k)) 163 ∧ Below w.heap.size w wr) (fun i _ => 5 - (intOf i).toNat)
  case atStart => exact ⟨0, by omega, rfl, b0, b1, by rw [List.take_zero, List.nil_append, List.drop_zero, wq_zeros]; exact b2, hb0⟩
  case round =>
    clear b0 b1 b2 hb0
    obtain ⟨k, hk, rfl, b0, b1, b2, hb⟩ := hrel
    by_cases hlt : k < 5
    · have HKL : Hid (k < L.length) := (by rw [HLL.out]; exact hlt)
      obtain ⟨f, hf⟩ : ∃ f, f = 26 * k / 8 := ⟨_, rfl⟩
      obtain ⟨s, hs⟩ : ∃ s, s = 26 * k % 8 := ⟨_, rfl⟩
      have hfl : f ≤ 13 := by omega
      have hsl : s < 8 := by omega
      have ef : 26 * (k : Int) / 8 = (f : Int) := by omega
      have es : 26 * (k : Int) % 8 = (s : Int) := by omega
      obtain ⟨X, hX⟩ : ∃ X, X = loadV ((l.drop f).take 4) true := ⟨_, rfl⟩
      have hXl : X < 4294967296 := by rw [hX]; exact loadV_lt _ _
      obtain ⟨y, hy⟩ : ∃ y, y = X / 2 ^ s := ⟨_, rfl⟩
      have hyl : y < 4294967296 := by rw [hy]; exact Nat.lt_of_le_of_lt (Nat.div_le_self _ _) hXl
      have ey : (X : Int) / 2 ^ s = (y : Int) := by rw [hy, Int.natCast_ediv, Int.natCast_pow]; rfl
      have ez := and26 y (by omega)
      have HT : Hid (y % 67108864 = L[k]'HKL.out) := by
        unfold Hid
        have q := HL.out
        subst q
        rw [limbs_at, hy, hX, load_mid _ _ (by rw [HH.out]; omega), hf, hs, limb_eq _ _ hlt]
      have hsm : Sl wr (w.heap.size + 1) (some ⟨w.heap.size, f, none⟩) 4 (cb ((l.drop f).take 4)) := by
        have := b0.sl (o := f) (n := 4) (xs := cb ((l.drop f).take 4)) (cb_slice l f 4) (by rw [cb_len, HH.out]; omega)
        exact this
      have hsl2 := run_slice_arr (P := Tryz.prog) wr 166 5 w.heap.size 0 17 Tryz.underlying166 u8_size .i64 .i64 (f : Int) ((f : Int) + 4) f (f + 4) rfl (by omega) (by omega) (by omega) (by omega)
      rw [Nat.zero_add, show f + 4 - f = 4 by omega] at hsl2
      have HSL2 := Lib.hid hsl2
      have HX := Lib.hid hX
      have hi0 : (0 : Int) ≤ (k : Int) := by omega
      have hi1 : (k : Int) < 5 := by omega
      clear hf hs hX hy hsl2
      go_wp2_with fail
      rw [HSL2.out]
      go_wp2_with fail
      refine (load_any ((l.drop f).take 4) true _ _ _ _ _ hsm (by decide)).mono ?_
      rintro e w1 ⟨rfl, hD⟩
      rw [← HX.out]
      replace b0 := b0.keep (w' := w1) (by obtain ⟨j, rfl⟩ := hD; rfl)
      replace b1 := b1.keep (w' := w1) (by obtain ⟨j, rfl⟩ := hD; rfl)
      replace b2 := b2.keep (w' := w1) (by obtain ⟨j, rfl⟩ := hD; rfl)
      replace hb : Below w.heap.size w w1 := hb.trans (hD.below _)
      have hc3 : ∃ u, w1.cell? ⟨w.heap.size + 2, k, none⟩ = some u := ⟨_, by rw [b2.cell, List.getElem?_eq_getElem (by rw [wq_len, List.length_append, List.length_take, HLL.out]; simp; omega)]⟩
      obtain ⟨u, hc3⟩ := hc3
      have hf3 := b2.frozen k
      clear hsm hD HSL2
      go_wp2
      go_roundw
      case rel =>
        refine ⟨k + 1, by omega, by go_num, b0.set_other _ _ (by simp), b1.set_other _ _ (by simp), ?_, hb.setCell (by simp) _⟩
        have h2 := b2.set k (.int .u64 ((y % 67108864 : Nat) : Int))
        rw [wq_set, put_at (L.take k) (List.replicate 5 0) k _ (by rw [List.length_take, HLL.out]; omega) (by simp; omega), show L.take k ++ [y % 67108864] = L.take (k + 1) by rw [HT.out, ← List.take_succ_eq_append_getElem HKL.out]] at h2
        exact h2
      case measure => simp [intOf]; omega
    · have HK : Hid (k = 5) := (by omega : k = 5)
      have hz : L.take k ++ (List.replicate 5 0).drop k = L := by rw [HK.out, List.take_of_length_le (by rw [HLL.out]; omega)]; simp
      rw [hz] at b2
      have HB := Lib.hid b2
      clear b2 hz
      go_wp2_with (first
        | (refine wpList_load_mid rfl 163 _ rfl _ _ rfl (wq L) _ HB.out.whole Tryz.underlying163 rfl (by rw [size_num, wq_len, HLL.out]) ?_)
        | (refine wpList_store_mid rfl 163 _ _ rfl _ _ (wq L).toArray rfl rfl (b1.there_ (by simp [zeros, wq_len, HLL.out])) (by rw [size_num, List.size_toArray, wq_len, HLL.out]) (all_oneCell_toArray (wq_one _)) ?_))
      have hfin := b1.over (vs := wq L) (by rw [wq_len, HLL.out, zeros_len])
      exact ret_row Tryz.results128 rfl hfin Tryz.underlying163 rfl (by rw [size_num, wq_len, HLL.out]) rfl ⟨rfl, below_setCells hb (by omega) _ _⟩

end Go.Proofs.YtlnoopmblmkgkaaGreatDoor

namespace Go.Proofs.YtlnoopmblmkgkaaGreatDoor
set_option maxRecDepth 100000
open Go.RowKit
set_option linter.unusedVariables false
set_option linter.unusedSimpArgs false

/-- The bytes of r: bits cleared. -/
def bA (l : List UInt8) : Nat → List UInt8
  | 0 => l
  | k + 1 => (bA l k).set (3 + 4 * k) ((bA l k).getD (3 + 4 * k) 0 &&& 15)
def bB (l : List UInt8) : Nat → List UInt8
  | 0 => l
  | k + 1 => (bB l k).set (4 + 4 * k) ((bB l k).getD (4 + 4 * k) 0 &&& 252)
theorem bA_len (l : List UInt8) (k : Nat) : (bA l k).length = l.length := by induction k with
  | zero => rfl
  | succ k ih => rw [bA, List.length_set, ih]
theorem bB_len (l : List UInt8) (k : Nat) : (bB l k).length = l.length := by induction k with
  | zero => rfl
  | succ k ih => rw [bB, List.length_set, ih]
def rB (l : List UInt8) : List UInt8 := bB (bA l 4) 3
theorem rB_len (l : List UInt8) : (rB l).length = l.length := by rw [rB, bB_len, bA_len]
/-- r of the first half of a key. -/
def rN (half : List UInt8) : Nat := lv (rB (wid half))
theorem byte_and (b m : UInt8) : bits BinOp.and IntKind.u8 (b.toNat : Int) (m.toNat : Int) = ((b &&& m).toNat : Int) := by
  rw [u8_and_nat _ _ b.toNat_lt m.toNat_lt, UInt8.toNat_and]
theorem getD_at (l : List UInt8) (k : Nat) (h : k < l.length) : l.getD k 0 = l[k] := by rw [List.getD_eq_getElem?_getD, List.getElem?_eq_getElem h, Option.getD_some]
theorem rN_lt (half : List UInt8) (h : half.length ≤ 17) : rN half < 95780971304118053647396689196894323976171195136475136 := by
  have := lv_lt (rB (wid half))
  rw [rB_len, wid_len _ h] at this
  exact Nat.lt_of_lt_of_le this (by decide)

set_option maxRecDepth 100000 in
set_option maxHeartbeats 1000000 in
theorem factorOf_any (l : List UInt8) (w : World) (B : Nat) (A : Option Addr) (n c : Nat) (h : Sl w B A n (cb l)) (hB : B ≤ w.heap.size) (hn : n ≤ 17) :
    Calls Tryz.prog 127 #[.slice A n c] w fun e w' => e = .returned (.agg (wq (limbs (rN l))).toArray) ∧ Below w.heap.size w w' := by
  have hnl : n = l.length := by rw [← h.1, cb_len]
  obtain ⟨L, hL⟩ : ∃ L, L = wid l := ⟨_, rfl⟩
  have HLL : Hid (L.length = 17) := by unfold Hid; rw [hL]; exact wid_len l (by omega)
  obtain ⟨R, hR⟩ : ∃ R, R = limbs (rN l) := ⟨_, rfl⟩
  rw [← hR]
  have HR : Hid (R = limbs (lv (bB (bA L 4) 3))) := by unfold Hid; rw [hR, hL]; rfl
  have HRL : Hid (R.length = 5) := by unfold Hid; rw [hR, limbs_len]
  have HL := Lib.hid hL
  have b0 := Bl.new w (zeros .u64 5) 163
  have hb0 : Below w.heap.size w (w.alloc (.cells (zeros .u64 5).toArray 163)) := (Below.refl _ w).alloc (Nat.le_refl _) _
  obtain ⟨W0, hW0⟩ : ∃ W, W = w.alloc (.cells (zeros .u64 5).toArray 163) := ⟨_, rfl⟩
  rw [← hW0] at b0 hb0
  have HW0 := Lib.hid hW0
  clear hL hR hW0 hnl
  go_enter Tryz.func127, Tryz.ntmps127
  go_wp2_with (refine wpList_alloc_zero rfl 163 rfl (zeros .u64 5) zero_num ?_; rw [← HW0.out])
  refine (widened_any l W0 B A n c (h.below (hb0.mono hB)) (Nat.le_trans hB hb0.size) hn).mono ?_
  rintro e w1 ⟨rfl, hb1⟩
  rw [← HL.out]
  replace b0 := b0.next hb1
  replace hb0 := next hb0 hb1
  obtain ⟨b1, hb2, hz2⟩ := put_new w1 (zeros .u8 17) (cb L) 166 (by rw [cb_len, HLL.out, zeros_len])
  obtain ⟨W2, hW2⟩ : ∃ W, W = (w1.alloc (.cells (zeros .u8 17).toArray 166)).setCells w1.heap.size 0 (cb L) := ⟨_, rfl⟩
  rw [← hW2] at b1 hb2 hz2
  have HW2 := Lib.hid hW2
  have hg1 := b0.lt
  replace b0 := b0.next hb2
  replace hb0 := next hb0 hb2
  obtain ⟨g, hg⟩ : ∃ g, g = w1.heap.size := ⟨_, rfl⟩
  have HG := Lib.hid hg
  rw [← hg] at b1 hg1
  clear hW2 hb2 hz2 hg hb1
  go_wp2_with (first
    | (refine wpList_alloc_zero rfl 166 rfl (zeros .u8 17) zero_17 ?_)
    | (refine wpList_store_mid rfl 166 _ _ rfl _ _ (cb L).toArray rfl rfl (Bl.there_ (Bl.new w1 (zeros .u8 17) 166) (by simp [zeros, cb_len, HLL.out])) (by rw [size_17, List.size_toArray, cb_len, HLL.out]) (all_oneCell_toArray (cb_one _)) ?_; change wpList _ _ _ _ _ (World.setCells (w1.alloc (.cells (zeros .u8 17).toArray 166)) w1.heap.size 0 (cb L)); rw [← HW2.out]))
  rw [← HG.out]
  clear HG HW2 HW0
  go_loopw [4] (fun i wr => ∃ (k : Nat), k ≤ 4 ∧ i = .int .i64 (3 + 4 * (k : Int)) ∧ Bl wr w.heap.size (zeros .u64 5) 163 ∧ Bl wr g (cb (bA L k)) 166 ∧ Below w.heap.size w wr) (fun i _ => (19 - intOf i).toNat)
  case atStart => exact ⟨0, by omega, rfl, b0, b1, hb0⟩
  case round =>
    clear b0 b1 hb0
    obtain ⟨k, hk, rfl, b0, b1, hb⟩ := hrel
    by_cases hlt : k < 4
    · obtain ⟨M, hM⟩ : ∃ M, M = bA L k := ⟨_, rfl⟩
      rw [← hM] at b1
      obtain ⟨s, hs⟩ : ∃ s, s = 3 + 4 * k := ⟨_, rfl⟩
      have HSM : Hid (s < M.length) := by unfold Hid; rw [hM, bA_len, HLL.out]; omega
      obtain ⟨x, hx⟩ : ∃ x, x = M[s]'HSM.out := ⟨_, rfl⟩
      have hc : wr.cell? ⟨g, s, none⟩ = some (.int .u8 (x.toNat : Int)) := by rw [b1.cell, cb_at HSM.out, hx]
      have hf := b1.frozen s
      have es : 3 + 4 * (k : Int) = (s : Int) := by omega
      have ex : bits BinOp.and IntKind.u8 (x.toNat : Int) 15 = ((x &&& 15).toNat : Int) := byte_and x 15
      have HN : Hid (M.set s (x &&& 15) = bA L (k + 1)) := by unfold Hid; rw [bA, ← hM, ← hs, getD_at _ _ HSM.out, ← hx]
      have hs0 : (0 : Int) ≤ (s : Int) := by omega
      have hs1 : (s : Int) < 16 := by omega
      have hs2 : (s : Int) < 17 := by omega
      have hxl := x.toNat_lt
      have HS := Lib.hid hs
      rw [es]
      clear hM hs hx es
      go_wp2
      go_roundw
      case rel =>
        refine ⟨k + 1, by omega, by have := HS.out; go_num, b0.set_other _ _ (by simp; omega), ?_, hb.setCell (by simp; omega) _⟩
        have h2 := b1.set s (bc (x &&& 15))
        rw [← cb_set, HN.out] at h2
        exact h2
      case measure => simp [intOf]; omega
    · have HK : Hid (k = 4) := (by omega : k = 4)
      rw [HK.out] at b1
      obtain ⟨M4, hM4⟩ : ∃ M, M = bA L 4 := ⟨_, rfl⟩
      rw [← hM4] at b1
      have HM4 := Lib.hid hM4
      have HM4L : Hid (M4.length = 17) := by unfold Hid; rw [hM4, bA_len, HLL.out]
      have hq : ¬ (3 + 4 * (k : Int)) < 16 := by omega
      clear hM4
      go_wp2
      go_loopw [5] (fun i wr => ∃ (k : Nat), k ≤ 3 ∧ i = .int .i64 (4 + 4 * (k : Int)) ∧ Bl wr w.heap.size (zeros .u64 5) 163 ∧ Bl wr g (cb (bB M4 k)) 166 ∧ Below w.heap.size w wr) (fun i _ => (19 - intOf i).toNat)
      case atStart => exact ⟨0, by omega, rfl, b0, b1, hb⟩
      case round =>
        clear b0 b1 hb hq
        obtain ⟨j, hj, rfl, b0, b1, hb⟩ := hrel
        by_cases hlt : j < 3
        · obtain ⟨M, hM⟩ : ∃ M, M = bB M4 j := ⟨_, rfl⟩
          rw [← hM] at b1
          obtain ⟨s, hs⟩ : ∃ s, s = 4 + 4 * j := ⟨_, rfl⟩
          have HSM : Hid (s < M.length) := by unfold Hid; rw [hM, bB_len, HM4L.out]; omega
          obtain ⟨x, hx⟩ : ∃ x, x = M[s]'HSM.out := ⟨_, rfl⟩
          have hc : wr.cell? ⟨g, s, none⟩ = some (.int .u8 (x.toNat : Int)) := by rw [b1.cell, cb_at HSM.out, hx]
          have hf := b1.frozen s
          have es : 4 + 4 * (j : Int) = (s : Int) := by omega
          have ex : bits BinOp.and IntKind.u8 (x.toNat : Int) 252 = ((x &&& 252).toNat : Int) := byte_and x 252
          have HN : Hid (M.set s (x &&& 252) = bB M4 (j + 1)) := by unfold Hid; rw [bB, ← hM, ← hs, getD_at _ _ HSM.out, ← hx]
          have hs0 : (0 : Int) ≤ (s : Int) := by omega
          have hs1 : (s : Int) < 16 := by omega
          have hs2 : (s : Int) < 17 := by omega
          have hxl := x.toNat_lt
          have HS := Lib.hid hs
          rw [es]
          clear hM hs hx es
          go_wp2
          go_roundw
          case rel =>
            refine ⟨j + 1, by omega, by have := HS.out; go_num, b0.set_other _ _ (by simp; omega), ?_, hb.setCell (by simp; omega) _⟩
            have h2 := b1.set s (bc (x &&& 252))
            rw [← cb_set, HN.out] at h2
            exact h2
          case measure => simp [intOf]; omega
        · have HJ : Hid (j = 3) := (by omega : j = 3)
          rw [HJ.out] at b1
          obtain ⟨M, hM⟩ : ∃ M, M = bB M4 3 := ⟨_, rfl⟩
          rw [← hM] at b1
          have HML : Hid (M.length = 17) := by unfold Hid; rw [hM, bB_len, HM4L.out]
          have HMR : Hid (R = limbs (lv M)) := by unfold Hid; rw [HR.out, hM, HM4.out]
          have HB := Lib.hid b1
          have hq : ¬ (4 + 4 * (j : Int)) < 16 := by omega
          clear hM b1
          go_wp2_with (refine wpList_load_mid rfl 166 _ rfl _ _ rfl (cb M) _ HB.out.whole Tryz.underlying166 rfl (by rw [size_17, cb_len, HML.out]) ?_)
          refine (numberOf_any M wr HML.out R HMR.out).mono ?_
          rintro e w5 ⟨rfl, hb5⟩
          replace b0 := b0.next hb5
          replace hb := next hb hb5
          go_wp2_with (refine wpList_store_mid rfl 163 _ _ rfl _ _ (wq R).toArray rfl rfl (b0.there_ (by simp [zeros, wq_len, HRL.out])) (by rw [size_num, List.size_toArray, wq_len, HRL.out]) (all_oneCell_toArray (wq_one _)) ?_)
          have hfin := b0.over (vs := wq R) (by rw [wq_len, HRL.out, zeros_len])
          exact ret_row Tryz.results127 rfl hfin Tryz.underlying163 rfl (by rw [size_num, wq_len, HRL.out]) rfl ⟨rfl, below_setCells hb (by omega) _ _⟩

end Go.Proofs.YtlnoopmblmkgkaaGreatDoor

namespace Go.Proofs.YtlnoopmblmkgkaaGreatDoor
set_option maxRecDepth 100000
open Go.RowKit
set_option linter.unusedVariables false
set_option linter.unusedSimpArgs false

theorem lv_le (n k : Nat) : lv (le n k) = n % 256 ^ k := by rw [← lv_val, val_le]
theorem le_lv (l : List UInt8) : le (lv l) l.length = l := by
  apply List.ext_getElem?
  intro i
  by_cases hi : i < l.length
  · rw [le_at _ _ _ hi, List.getElem?_eq_getElem hi]
    have h := bv_mid (nb l) (nb_lt l) i 1 (by rw [nb_len]; omega)
    have e : ((nb l).drop i).take 1 = [l[i].toNat] := by
      rw [List.drop_eq_getElem_cons (by rw [nb_len]; exact hi), List.take_succ_cons, List.take_zero]
      simp [nb]
    rw [e, Nat.pow_one] at h
    have h2 : l[i].toNat = lv l / 256 ^ i % 256 := by rw [lv, ← h]; simp [bv]
    rw [← h2]
    simp
  · rw [List.getElem?_eq_none (by rw [le_len]; omega), List.getElem?_eq_none (by omega)]
theorem le_congr {n m k : Nat} (h : n % 256 ^ k = m % 256 ^ k) : le n k = le m k := by
  have h1 := le_lv (le n k)
  have h2 := le_lv (le m k)
  rw [lv_le, le_len] at h1 h2
  rw [← h1, ← h2, h]
theorem le_piece (N k x : Nat) (hk : k < 4) (hx : x = N % 340282366920938463463374607431768211456 / 256 ^ (4 * k) % 4294967296) : stored x true = ((le N 16).drop (4 * k)).take 4 := by
  have hp := le_lv (((le N 16).drop (4 * k)).take 4)
  have hl : (((le N 16).drop (4 * k)).take 4).length = 4 := by rw [List.length_take, List.length_drop, le_len]; omega
  rw [hl] at hp
  rw [← hp]
  unfold stored
  rw [if_pos rfl, hx]
  congr 1
  unfold lv
  rw [show nb (((le N 16).drop (4 * k)).take 4) = ((nb (le N 16)).drop (4 * k)).take 4 by simp [nb], bv_mid _ (nb_lt _) _ _ (by rw [nb_len, le_len]; omega), show bv 256 (nb (le N 16)) = lv (le N 16) from rfl, lv_le]
theorem word_piece {Z : List Nat} (h : Lim 67108864 Z) (k : Nat) (hk : k < 4) (h1 : k < Z.length) (h2 : k + 1 < Z.length) :
    (Z[k] / 2 ^ (6 * k) + Z[k + 1] * 2 ^ (26 - 6 * k)) % 4294967296 = nv Z % 340282366920938463463374607431768211456 / 256 ^ (4 * k) % 4294967296 := by
  obtain ⟨a, b, c, d, e, rfl, k1, k2, k3, k4, k5⟩ := h.five
  rw [nv_five]
  rcases (show k = 0 ∨ k = 1 ∨ k = 2 ∨ k = 3 by omega) with rfl | rfl | rfl | rfl
  all_goals
    simp
    omega
theorem or_limbs (a b d f : Nat) (hf : d + f = 26) (ha : a < 67108864) : a / 2 ^ d ||| b * 2 ^ f = a / 2 ^ d + b * 2 ^ f := by
  have h : a / 2 ^ d < 2 ^ f := Nat.div_lt_of_lt_mul (by rw [← Nat.pow_add, hf]; exact ha)
  rw [Nat.or_comm, Nat.mul_comm, or_add f b _ h, Nat.add_comm]

set_option maxRecDepth 100000 in
set_option maxHeartbeats 1000000 in
theorem bytesOf_any (x : List Nat) (w : World) (hx : Lim 4611686018427387904 x) :
    Calls Tryz.prog 134 #[.agg (wq x).toArray] w (RetBytes 5 w 16 (le (nv x) 16)) := by
  obtain ⟨i0, hi, hz0, hz1, hz2⟩ := info_parts u8_info
  have HX := Lib.hid hx
  have HXL := Lib.hid hx.len
  obtain ⟨B, hB⟩ : ∃ B, B = le (nv x) 16 := ⟨_, rfl⟩
  rw [← hB]
  have HB := Lib.hid hB
  have HBL : Hid (B.length = 16) := by unfold Hid; rw [hB, le_len]
  have b0 := Bl.new w (wq x) 163
  have hb0 : Below w.heap.size w (w.alloc (.cells (wq x).toArray 163)) := (Below.refl _ w).alloc (Nat.le_refl _) _
  obtain ⟨W0, hW0⟩ : ∃ W, W = w.alloc (.cells (wq x).toArray 163) := ⟨_, rfl⟩
  rw [← hW0] at b0 hb0
  have HW0 := Lib.hid hW0
  have HB0 := Lib.hid b0
  clear hB hW0 hx
  go_enter Tryz.func134, Tryz.ntmps134
  go_wp2_with (first
    | (refine wpList_box_agg rfl 163 _ rfl (wq x) rfl ?_; rw [← HW0.out])
    | (refine wpList_load_mid rfl 163 _ rfl _ _ rfl (wq x) _ HB0.out.whole Tryz.underlying163 rfl (by rw [size_num, wq_len, HXL.out]) ?_))
  refine (carried_any x W0 HX.out).mono ?_
  rintro e w1 ⟨Z, c, rfl, hZ, hv, hb1⟩
  have HZ := Lib.hid hZ
  have HZL := Lib.hid hZ.len
  replace b0 := b0.next hb1
  replace hb0 := next hb0 hb1
  have HBZ : Hid (B = le (nv Z) 16) := by
    unfold Hid
    rw [HB.out]
    refine le_congr ?_
    rw [← hv, show c * 1361129467683753853853498429727072845824 = (c * 4) * 256 ^ 16 by omega, Nat.add_mul_mod_self_right]
  have b1 := b0.over (vs := wq Z) (by rw [wq_len, wq_len, HXL.out, HZL.out])
  have hb2 := below_setCells hb0 (show w.heap.size ≤ w.heap.size from Nat.le_refl _) 0 (wq Z)
  obtain ⟨W2, hW2⟩ : ∃ W, W = w1.setCells w.heap.size 0 (wq Z) := ⟨_, rfl⟩
  rw [← hW2] at b1 hb2
  have HW2 := Lib.hid hW2
  have HB1 := Lib.hid b0
  have hsz2 := hb2.size
  clear hW2 b0 hb0 hb1 hv hZ HB0
  go_wp2_with (first
    | (refine wpList_store_mid rfl 163 _ _ rfl _ _ (wq Z).toArray rfl rfl (HB1.out.there_ (by simp [wq_len, HXL.out, HZL.out])) (by rw [size_num, List.size_toArray, wq_len, HZL.out]) (all_oneCell_toArray (wq_one _)) ?_; change wpList _ _ _ _ _ (World.setCells w1 w.heap.size 0 (wq Z)); rw [← HW2.out])
    | (at_make; refine wpList_make_full _ rfl _ _ 22 rfl w.heap.size 5 i0 (.int .u8 0) 1 Tryz.underlying22 hi hz0 hz1 .i64 .i64 _ _ 16 rfl rfl rfl rfl (by omega) (by decide) hsz2 ?_; intro w3 hown hgrow))
  have b13 : Bl w3 w.heap.size (wq Z) 163 := b1.grown hgrow (by simp)
  have hb3 : Below w.heap.size w w3 := hb2.grown hgrow hsz2 (by simp)
  have hown1 : w3.ownsRow w.heap.size 5 1 (.slice (some ⟨W2.heap.size, 0, none⟩) 16 16) 16 (cb (upTo B 0)) := by
    rw [upTo_zero, HBL.out, cb_zeros]
    have := toList_madeCells_one (.int .u8 0) 16
    simpa [Value.cells, this] using hown
  have b23 := block_of_own hown1
  have hlt2 := b1.lt
  obtain ⟨g, hg⟩ : ∃ g, g = W2.heap.size := ⟨_, rfl⟩
  rw [← hg] at b23 hlt2 ⊢
  have b23' : Bl w3 g (cb (upTo B 0)) 5 := b23
  clear hown hgrow hown1 b1 hb2 hsz2 b23 hg HW2 HB1 HW0
  go_wp2
  go_loopw [13] (fun i wr => ∃ (k : Nat), k ≤ 4 ∧ i = .int .i64 k ∧ Bl wr w.heap.size (wq Z) 163 ∧ Bl wr g (cb (upTo B (4 * k))) 5 ∧ Below w.heap.size w wr) (fun i _ => 4 - (intOf i).toNat)
  case atStart => exact ⟨0, by omega, rfl, b13, b23', hb3⟩
  case round =>
    clear b13 b23' hb3
    obtain ⟨k, hk, rfl, b0, b1, hb⟩ := hrel
    by_cases hlt : k < 4
    · have HK1 : Hid (k < Z.length) := (by unfold Hid; rw [HZL.out]; omega)
      have HK2 : Hid (k + 1 < Z.length) := (by unfold Hid; rw [HZL.out]; omega)
      obtain ⟨a, ha⟩ : ∃ a, a = Z[k]'HK1.out := ⟨_, rfl⟩
      obtain ⟨b, hbd⟩ : ∃ b, b = Z[k + 1]'HK2.out := ⟨_, rfl⟩
      have hal : a < 67108864 := by rw [ha]; exact HZ.out.at_ _ _
      have hbl : b < 67108864 := by rw [hbd]; exact HZ.out.at_ _ _
      obtain ⟨d, hd⟩ : ∃ d, d = 6 * k := ⟨_, rfl⟩
      obtain ⟨f, hf⟩ : ∃ f, f = 26 - 6 * k := ⟨_, rfl⟩
      have ed : 6 * (k : Int) = (d : Int) := by omega
      have ef : 26 - (d : Int) = (f : Int) := by omega
      have hdl : d ≤ 18 := by omega
      have hfl : f ≤ 26 := by omega
      obtain ⟨a', ha'⟩ : ∃ a', a' = a / 2 ^ d := ⟨_, rfl⟩
      obtain ⟨b', hb'⟩ : ∃ b', b' = b * 2 ^ f := ⟨_, rfl⟩
      have ea : (a : Int) / 2 ^ d = (a' : Int) := by rw [ha', Int.natCast_ediv, Int.natCast_pow]; rfl
      have eb : (b : Int) * 2 ^ f = (b' : Int) := by rw [hb', Int.natCast_mul, Int.natCast_pow]; rfl
      have hal' : a' < 67108864 := by rw [ha']; exact Nat.lt_of_le_of_lt (Nat.div_le_self _ _) hal
      have hbl' : b' ≤ 4503599627370496 := by rw [hb']; exact Nat.le_trans (Nat.mul_le_mul (Nat.le_of_lt hbl) (Nat.pow_le_pow_right (by decide) hfl)) (by decide)
      obtain ⟨v, hv⟩ : ∃ v, v = a' ||| b' := ⟨_, rfl⟩
      have ev : bits BinOp.or IntKind.u64 (a' : Int) (b' : Int) = (v : Int) := by rw [hv]; exact u64_or_nat _ _ (by omega) (by omega)
      have hva : v = a' + b' := by rw [hv, ha', hb']; exact or_limbs a b d f (by omega) hal
      obtain ⟨x32, hx32⟩ : ∃ x, x = v % 4294967296 := ⟨_, rfl⟩
      have ew : (v : Int) % 4294967296 = (x32 : Int) := by omega
      have HP : Hid (stored x32 true = (B.drop (4 * k)).take 4) := by
        unfold Hid
        rw [HBZ.out]
        refine le_piece _ k x32 hlt ?_
        rw [← word_piece HZ.out k hlt HK1.out HK2.out, ← ha, ← hbd, ← hf, ← hd, ← ha', ← hb', ← hva, hx32]
      have hc1 : wr.cell? ⟨w.heap.size, k, none⟩ = some (.int .u64 (a : Int)) := by rw [b0.cell, wq_at HK1.out, ← ha]
      have hc2 : wr.cell? ⟨w.heap.size, k + 1, none⟩ = some (.int .u64 (b : Int)) := by rw [b0.cell, wq_at HK2.out, ← hbd]
      have hi0 : (0 : Int) ≤ (k : Int) := by omega
      have hi1 : (k : Int) < 4 := by omega
      clear ha hbd hd hf ha' hb' hv hva hx32
      go_wp2
      go_quiet (fail)
      replace b0 := b0.drewN nq
      replace b1 := b1.drewN nq
      replace hb : Below w.heap.size w (wr.drewN nq) := hb.trans (Drew.below ⟨_, rfl⟩ _)
      obtain ⟨W3, hW3⟩ : ∃ W, W = wr.drewN nq := ⟨_, rfl⟩
      rw [← hW3] at b0 b1 hb
      have HW3 := Lib.hid hW3
      have x4 : IntKind.i64.wrap (4 * (k : Int)) = 4 * (k : Int) := IntWalk.i64_in _ (by omega)
      clear hW3 hc1 hc2 ea eb ev
      go_wp2_with fail
      rw [← HW3.out]
      refine wp_region_any (by kernel_rfl) ?_
      change wpAny _ _ _ _ _ _ _ (World.drew _)
      refine wpAny_take (i := 0) (v := (.slice (some ⟨g, 0, none⟩) 16 16)) rfl (by kernel_rfl) (by kernel_rfl) (by kernel_rfl) (fun _ _ _ h => h) (Or.inl ⟨by rfl, fun _ => by go_simp⟩) ?_
      simp only [List.getElem_toArray, List.getElem_cons_succ, List.getElem_cons_zero, Act.put, List.setIfInBounds_toArray, List.set_cons_zero, List.set_cons_succ]
      refine wpAny_take (i := 1) (v := (.int .i64 (k : Int))) rfl (by kernel_rfl) (by kernel_rfl) (by kernel_rfl) (fun _ _ _ h => h) (Or.inl ⟨by rfl, fun _ => by go_simp⟩) ?_
      simp only [List.getElem_toArray, List.getElem_cons_succ, List.getElem_cons_zero, Act.put, List.setIfInBounds_toArray, List.set_cons_zero, List.set_cons_succ]
      refine wpAny_take (i := 2) (v := (.int .i64 (4 * (k : Int)))) rfl (by kernel_rfl) (by kernel_rfl) (by kernel_rfl) (fun _ _ _ h => h) (Or.inl ⟨by rfl, fun _ => by go_simp⟩) ?_
      simp only [List.getElem_toArray, List.getElem_cons_succ, List.getElem_cons_zero, Act.put, List.setIfInBounds_toArray, List.set_cons_zero, List.set_cons_succ]
      refine wpAny_take (i := 3) (v := (.slice (some ⟨g, 4 * k, none⟩) (16 - 4 * k) (16 - 4 * k))) rfl (by kernel_rfl) (by kernel_rfl) (by kernel_rfl) (fun _ _ _ h => h) (Or.inl ⟨by rfl, fun _ => by go_simp; rw [if_pos (by omega), show (4 * (k : Int)).toNat = 4 * k by omega, if_neg (by omega)]⟩) ?_
      simp only [List.getElem_toArray, List.getElem_cons_succ, List.getElem_cons_zero, Act.put, List.setIfInBounds_toArray, List.set_cons_zero, List.set_cons_succ]
      refine wpAny_take (i := 4) (v := (.int .u64 (v : Int))) rfl (by kernel_rfl) (by kernel_rfl) (by kernel_rfl) (fun _ _ _ h => h) (Or.inl ⟨by rfl, fun _ => by go_simp⟩) ?_
      simp only [List.getElem_toArray, List.getElem_cons_succ, List.getElem_cons_zero, Act.put, List.setIfInBounds_toArray, List.set_cons_zero, List.set_cons_succ]
      refine wpAny_take (i := 5) (v := (.int .u32 (x32 : Int))) rfl (by kernel_rfl) (by kernel_rfl) (by kernel_rfl) (fun _ _ _ h => h) (Or.inl ⟨by rfl, fun _ => by go_simp; rw [IntKind.wrap_u32]; exact ew⟩) ?_
      simp only [List.getElem_toArray, List.getElem_cons_succ, List.getElem_cons_zero, Act.put, List.setIfInBounds_toArray, List.set_cons_zero, List.set_cons_succ]
      clear x4
      refine wpAny_one (i := 6) (by kernel_rfl) rfl (by rfl) (fun K hK => ?_)
      simp only [List.getElem_toArray, List.getElem_cons_succ, List.getElem_cons_zero, Act.put, List.setIfInBounds_toArray, List.set_cons_zero, List.set_cons_succ]
      go_simp
      refine (store_any x32 true _).mono ?_
      rintro e w5 ⟨A5, c5, rfl, hnew5⟩
      refine hK.out _ _ ?_
      clear hK K
      have b05 := b0.drew.next hnew5.below
      have b15 := b1.drew.next hnew5.below
      have hb5 : Below w.heap.size w w5 := hb.drew.trans (hnew5.below.mono (by have := hb.size; simp; omega))
      obtain ⟨w6, hcp, b16, hg6⟩ := run_copy_but (P := Tryz.prog) w5 22 22 3 5 Tryz.underlying22 u8_size g (4 * k) (16 - 4 * k) (16 - 4 * k) _ A5 4 c5 (cb (stored x32 true)) hnew5.sl _ _ b15 (by rw [cb_len, upTo_len _ _ (by rw [HBL.out]; omega), HBL.out]; omega) (cb_one _)
      rw [List.take_of_length_le (by rw [cb_len, stored_len]; omega), ← cb_splice, upTo_splice B (stored x32 true) (4 * k) (by rw [stored_len]; exact HP.out) (by rw [stored_len, HBL.out]; omega), stored_len] at b16
      have b06 := b05.grown hg6 (by simp; omega)
      have hb6 : Below w.heap.size w w6 := below_but hb5 hg6 (by have := hb5.size; omega) (by omega)
      have HCP := Lib.hid hcp
      clear hcp b05 b15 hb5 hg6 hnew5 b0 b1 hb
      refine wpAny_one (i := 7) (by kernel_rfl) rfl (by rfl) (fun K hK => ?_)
      simp only [List.getElem_toArray, List.getElem_cons_succ, List.getElem_cons_zero, Act.put, List.setIfInBounds_toArray, List.set_cons_zero, List.set_cons_succ]
      go_simp
      rw [HCP.out]
      go_simp
      refine hK.out _ _ ?_
      clear hK K
      refine wpAny_done (by kernel_rfl) ?_ _
      go_wp2
      go_roundw
      case rel => exact ⟨k + 1, by omega, by go_num, b06, by rw [show 4 * (k + 1) = 4 * k + 4 by omega]; exact b16, hb6⟩
      case measure => simp [intOf]; omega
    · have HK : Hid (k = 4) := (by omega : k = 4)
      have hall : Bl wr g (cb B) 5 := by rw [HK.out, show 4 * 4 = B.length from HBL.out.symm, upTo_all] at b1; exact b1
      clear b1
      go_wp2
      go_ret
      exact retBytes rfl rfl (own_of_block hall (by omega) (by rw [cb_len, HBL.out]) (by decide)) hb

/-- A block's bytes with a 1 behind them. -/
def opad (l : List UInt8) : List UInt8 := (wid l).set l.length 1
theorem opad_len (l : List UInt8) (h : l.length ≤ 16) : (opad l).length = 17 := by rw [opad, List.length_set, wid_len l (by omega)]
theorem opad_lv (l : List UInt8) (h : l.length ≤ 16) : lv (opad l) = lv l + 256 ^ l.length := by
  have e : opad l = l ++ ([1] ++ List.replicate (16 - l.length) 0) := by
    unfold opad wid
    rw [show 17 - l.length = (16 - l.length) + 1 by omega, List.replicate_succ, List.set_append_right _ _ (Nat.le_refl _), Nat.sub_self, List.set_cons_zero]
    rfl
  rw [e, lv_append, lv_append, lv_zeros]
  simp [lv, nb, bv]
theorem lv_16 (l : List UInt8) (h : l.length ≤ 16) : lv l + 256 ^ l.length < 1361129467683753853853498429727072845824 := by
  have h1 := lv_lt l
  have h2 : 256 ^ l.length ≤ 256 ^ 16 := Nat.pow_le_pow_right (by decide) h
  omega

set_option maxRecDepth 100000 in
set_option maxHeartbeats 1000000 in
theorem oafter_any (x r : List Nat) (l : List UInt8) (w : World) (B : Nat) (A : Option Addr) (n c : Nat) (hx : Lim 67108869 x) (hr : Lim 67108864 r) (h : Sl w B A n (cb l)) (hB : B ≤ w.heap.size) (hn : n ≤ 16) :
    Calls Tryz.prog 132 #[.agg (wq x).toArray, .agg (wq r).toArray, .slice A n c] w fun e w' => ∃ z, e = .returned (.agg (wq z).toArray) ∧ Lim 67108869 z ∧ nv z % pN = ((nv x + (lv l + 256 ^ l.length)) * nv r) % pN ∧ Below w.heap.size w w' := by
  have hnl : n = l.length := by rw [← h.1, cb_len]
  have HX := Lib.hid hx
  have HR := Lib.hid hr
  have HXL := Lib.hid hx.len
  have HRL := Lib.hid hr.len
  obtain ⟨L, hL⟩ : ∃ L, L = wid l := ⟨_, rfl⟩
  have HLL : Hid (L.length = 17) := by unfold Hid; rw [hL]; exact wid_len l (by omega)
  obtain ⟨P, hP⟩ : ∃ P, P = L.set n 1 := ⟨_, rfl⟩
  have HPL : Hid (P.length = 17) := by unfold Hid; rw [hP, List.length_set, HLL.out]
  obtain ⟨V, hV⟩ : ∃ V, V = lv l + 256 ^ l.length := ⟨_, rfl⟩
  have HVL : Hid (V < 1361129467683753853853498429727072845824) := by unfold Hid; rw [hV]; exact lv_16 l (by omega)
  have HPV : Hid (limbs V = limbs (lv P)) := by unfold Hid; rw [hP, hL, hnl, hV, ← opad_lv l (by omega)]; rfl
  rw [← hV]
  obtain ⟨b0, b1, b2, hsz, hb0⟩ := three_new w (wq x) (wq r) (zeros .u64 5) 163 163 163
  obtain ⟨W0, hW0⟩ : ∃ W, W = ((w.alloc (.cells (wq x).toArray 163)).alloc (.cells (wq r).toArray 163)).alloc (.cells (zeros .u64 5).toArray 163) := ⟨_, rfl⟩
  rw [← hW0] at b0 b1 b2 hsz hb0
  have HW0 := Lib.hid hW0
  have HL := Lib.hid hL
  have HP := Lib.hid hP
  clear hL hP hV hW0 hx hr hnl hsz
  go_enter Tryz.func132, Tryz.ntmps132
  go_wp2_with (first
    | (refine wpList_box_agg rfl 163 _ rfl (wq x) rfl ?_)
    | (refine wpList_box_agg rfl 163 _ rfl (wq r) rfl ?_)
    | (refine wpList_alloc_zero rfl 163 rfl (zeros .u64 5) zero_num ?_; rw [← HW0.out]))
  refine (widened_any l W0 B A n c (h.below (hb0.mono hB)) (Nat.le_trans hB hb0.size) (by omega)).mono ?_
  rintro e w1 ⟨rfl, hb1⟩
  rw [← HL.out]
  replace b0 := b0.next hb1
  replace b1 := b1.next hb1
  replace b2 := b2.next hb1
  replace hb0 := next hb0 hb1
  obtain ⟨b3, hb2, hz2⟩ := put_new w1 (zeros .u8 17) (cb L) 166 (by rw [cb_len, HLL.out, zeros_len])
  obtain ⟨W2, hW2⟩ : ∃ W, W = (w1.alloc (.cells (zeros .u8 17).toArray 166)).setCells w1.heap.size 0 (cb L) := ⟨_, rfl⟩
  rw [← hW2] at b3 hb2 hz2
  have HW2 := Lib.hid hW2
  have hg1 := b2.lt
  replace b0 := b0.next hb2
  replace b1 := b1.next hb2
  replace b2 := b2.next hb2
  replace hb0 := next hb0 hb2
  obtain ⟨g, hg⟩ : ∃ g, g = w1.heap.size := ⟨_, rfl⟩
  have HG := Lib.hid hg
  rw [← hg] at b3 hg1
  have hc : ∃ u, W2.cell? ⟨g, n, none⟩ = some u := ⟨_, by rw [b3.cell, List.getElem?_eq_getElem (by rw [cb_len, HLL.out]; omega)]⟩
  obtain ⟨u, hc⟩ := hc
  have hf := b3.frozen n
  have b3' := b3.set n (bc 1)
  rw [← cb_set, ← HP.out] at b3'
  have b0' := b0.set_other ⟨g, n, none⟩ (bc 1) (by simp; omega)
  have b1' := b1.set_other ⟨g, n, none⟩ (bc 1) (by simp; omega)
  have b2' := b2.set_other ⟨g, n, none⟩ (bc 1) (by simp; omega)
  have hb' := hb0.setCell (p := ⟨g, n, none⟩) (by simp; omega) (bc 1)
  obtain ⟨W3, hW3⟩ : ∃ W, W = W2.setCell ⟨g, n, none⟩ (.int .u8 1) := ⟨_, rfl⟩
  have hW3' : W2.setCell ⟨g, n, none⟩ (bc 1) = W3 := hW3.symm
  rw [hW3'] at b0' b1' b2' b3' hb'
  have HW3 := Lib.hid hW3
  have hi0 : (0 : Int) ≤ (n : Int) := by omega
  have hi1 : (n : Int) < 17 := by omega
  clear hW2 hb2 hz2 hg hb1 hW3 hW3' b0 b1 b2 b3 hb0
  obtain ⟨w4, hw4⟩ : ∃ W, W = W3.drew := ⟨_, rfl⟩
  have hbd : Below W3.heap.size W3 W3.drew := (Below.refl _ W3).drew
  replace b0 := b0'.drew
  replace b1 := b1'.drew
  replace b2 := b2'.drew
  replace b3 := b3'.drew
  replace hb := hb'.drew
  rw [← hw4] at b0 b1 b2 b3 hb
  have HW4 := Lib.hid hw4
  obtain ⟨S, hSd⟩ : ∃ S : World → Prop, S = fun w' => Bl w' w.heap.size (wq x) 163 ∧ Bl w' (w.heap.size + 1) (wq r) 163 ∧ Bl w' g (cb P) 166 := ⟨_, rfl⟩
  have hS : S w4 := by rw [hSd]; exact ⟨b0, b1, b3⟩
  have HSN : Hid (∀ w', Below w4.heap.size w4 w' → S w') := by unfold Hid; intro w' hb; rw [hSd]; exact ⟨b0.next hb, b1.next hb, b3.next hb⟩
  have HS1 : Hid (∀ w', S w' → w'.rangeAt w.heap.size 0 (wq x)) := by unfold Hid; intro w' h; rw [hSd] at h; exact h.1.whole
  have HS2 : Hid (∀ w', S w' → w'.rangeAt (w.heap.size + 1) 0 (wq r)) := by unfold Hid; intro w' h; rw [hSd] at h; exact h.2.1.whole
  have HS3 : Hid (∀ w', S w' → w'.rangeAt g 0 (cb P)) := by unfold Hid; intro w' h; rw [hSd] at h; exact h.2.2.whole
  clear hSd b0' b1' b2' b3' hb' hbd hw4 b0 b1 b3
  go_wp2_with (first
    | (refine wpList_alloc_zero rfl 166 rfl (zeros .u8 17) zero_17 ?_)
    | (refine wpList_store_mid rfl 166 _ _ rfl _ _ (cb L).toArray rfl rfl (Bl.there_ (Bl.new w1 (zeros .u8 17) 166) (by simp [zeros, cb_len, HLL.out])) (by rw [size_17, List.size_toArray, cb_len, HLL.out]) (all_oneCell_toArray (cb_one _)) ?_; change wpList _ _ _ _ _ (World.setCells (w1.alloc (.cells (zeros .u8 17).toArray 166)) w1.heap.size 0 (cb L)); rw [← HW2.out, ← HG.out]))
  rw [← HW3.out]
  refine wp_region_K 6 S (by kernel_rfl) (by rw [← HW4.out]; exact hS) (fun _ => ?_)
  rw [← HW4.out]
  refine wpAnyK_take (i := 0) (v := .agg (wq x).toArray) rfl (by kernel_rfl) (by kernel_rfl) (by kernel_rfl) (by kernel_rfl) (fun _ _ _ h => h) (yieldsIf_load_mid (by rfl) 163 _ rfl w.heap.size 0 rfl (wq x) _ HS1.out Tryz.underlying163 rfl (by rw [size_num, wq_len, HXL.out])) hS ?_
  simp only [List.getElem_toArray, List.getElem_cons_succ, List.getElem_cons_zero, Act.put, List.setIfInBounds_toArray, List.set_cons_zero, List.set_cons_succ]
  refine wpAnyK_take (i := 1) (v := .agg (cb P).toArray) rfl (by kernel_rfl) (by kernel_rfl) (by kernel_rfl) (by kernel_rfl) (fun _ _ _ h => h) (yieldsIf_load_mid (by rfl) 166 _ rfl g 0 rfl (cb P) _ HS3.out Tryz.underlying166 rfl (by rw [size_17, cb_len, HPL.out])) hS ?_
  simp only [List.getElem_toArray, List.getElem_cons_succ, List.getElem_cons_zero, Act.put, List.setIfInBounds_toArray, List.set_cons_zero, List.set_cons_succ]
  refine wpAnyK_take (i := 4) (v := .agg (wq r).toArray) rfl (by kernel_rfl) (by kernel_rfl) (by kernel_rfl) (by kernel_rfl) (fun _ _ _ h => h) (yieldsIf_load_mid (by rfl) 163 _ rfl (w.heap.size + 1) 0 rfl (wq r) _ HS2.out Tryz.underlying163 rfl (by rw [size_num, wq_len, HRL.out])) hS ?_
  simp only [List.getElem_toArray, List.getElem_cons_succ, List.getElem_cons_zero, Act.put, List.setIfInBounds_toArray, List.set_cons_zero, List.set_cons_succ]
  refine wpAnyK_one (i := 2) (by kernel_rfl) rfl (by decide) (by rfl) (fun K hK => ?_)
  simp only [List.getElem_toArray, List.getElem_cons_succ, List.getElem_cons_zero, Act.put, List.setIfInBounds_toArray, List.set_cons_zero, List.set_cons_succ]
  go_simp
  refine (numberOf_any P w4 HPL.out (limbs V) HPV.out).mono ?_
  rintro e w5 ⟨rfl, hb5⟩
  replace hS := HSN.out _ hb5
  replace b2 := b2.next hb5
  replace hb := next hb hb5
  refine hK.out _ _ hS ?_
  clear hK K
  obtain ⟨Y, hY⟩ : ∃ Y, Y = limbs V := ⟨_, rfl⟩
  rw [← hY]
  have HYL : Hid (Lim 67108864 Y) := by unfold Hid; rw [hY]; exact limbs_lim V
  have HYV : Hid (nv Y = V) := by unfold Hid; rw [hY]; exact limbs_nv V HVL.out
  clear hY
  refine wpAnyK_one (i := 3) (by kernel_rfl) rfl (by decide) (by rfl) (fun K hK => ?_)
  simp only [List.getElem_toArray, List.getElem_cons_succ, List.getElem_cons_zero, Act.put, List.setIfInBounds_toArray, List.set_cons_zero, List.set_cons_succ]
  go_simp
  refine (plus_any x Y w5 (HX.out.up (by omega)) (HYL.out.up (by omega))).mono ?_
  rintro e w6 ⟨rfl, hb6⟩
  replace hS := HSN.out _ (next hb5 hb6)
  replace b2 := b2.next hb6
  replace hb := next hb hb6
  refine hK.out _ _ hS ?_
  clear hK K
  obtain ⟨T, hT⟩ : ∃ T, T = List.zipWith (· + ·) x Y := ⟨_, rfl⟩
  rw [← hT]
  have HTL : Hid (Lim 268435456 T) := by unfold Hid; rw [hT]; exact (addL_lim HX.out HYL.out).up (by omega)
  have HTV : Hid (nv T = nv x + V) := by unfold Hid; rw [hT, addL_nv HX.out HYL.out, HYV.out]
  clear hT
  refine wpAnyK_one (i := 5) (by kernel_rfl) rfl (by decide) (by rfl) (fun K hK => ?_)
  simp only [List.getElem_toArray, List.getElem_cons_succ, List.getElem_cons_zero, Act.put, List.setIfInBounds_toArray, List.set_cons_zero, List.set_cons_succ]
  go_simp
  refine (times_any T r w6 HTL.out HR.out).mono ?_
  rintro e w7 ⟨z, rfl, hz, hzv, hb7⟩
  replace hS := HSN.out _ (next (next hb5 hb6) hb7)
  replace b2 := b2.next hb7
  replace hb := next hb hb7
  refine hK.out _ _ hS ?_
  clear hK K
  have HZ := Lib.hid hz
  have HZL := Lib.hid hz.len
  have HZV : Hid (nv z % pN = (nv x + V) * nv r % pN) := by unfold Hid; rw [hzv, HTV.out]
  clear hz hzv
  refine wpAnyK_K (by kernel_rfl) rfl (by rfl) (fun K hK => ?_)
  simp only [List.getElem_toArray, List.getElem_cons_succ, List.getElem_cons_zero, Act.put, List.setIfInBounds_toArray, List.set_cons_zero, List.set_cons_succ]
  refine wp_store_mid 163 _ _ rfl _ _ (wq z).toArray rfl rfl (b2.there_ (by simp [zeros, wq_len, HZL.out])) (by rw [size_num, List.size_toArray, wq_len, HZL.out]) (all_oneCell_toArray (wq_one _)) ?_
  refine hK.out _ _ ?_
  clear hK K
  refine wpAny_done (by kernel_rfl) ?_ _
  go_wp2
  have hfin := b2.over (vs := wq z) (by rw [wq_len, HZL.out, zeros_len])
  exact ret_row Tryz.results132 rfl hfin Tryz.underlying163 rfl (by rw [size_num, wq_len, HZL.out]) rfl ⟨z, rfl, HZ.out, HZV.out, below_setCells hb (by omega) _ _⟩

end Go.Proofs.YtlnoopmblmkgkaaGreatDoor

namespace Go.Proofs.YtlnoopmblmkgkaaGreatDoor
set_option maxRecDepth 100000
open Go.RowKit
set_option linter.unusedVariables false
set_option linter.unusedSimpArgs false

/-- What a block counts. -/
def blkv (l : List UInt8) : Nat := lv l + 256 ^ l.length
/-- What k blocks of a message make. -/
def pk (r : Nat) (l : List UInt8) : Nat → Nat
  | 0 => 0
  | k + 1 => (pk r l k + blkv ((l.drop (16 * k)).take 16)) * r % pN
theorem pk_mod (r : Nat) (l : List UInt8) (k : Nat) : pk r l k % pN = pk r l k := by
  cases k with
  | zero => rfl
  | succ k => rw [pk, Nat.mod_mod]
theorem pk_append (r : Nat) (l m : List UInt8) (k : Nat) (h : 16 * k ≤ l.length) : pk r (l ++ m) k = pk r l k := by
  induction k with
  | zero => rfl
  | succ k ih => rw [pk, pk, ih (by omega), List.drop_append_of_le_length (by omega), List.take_append_of_le_length (by rw [List.length_drop]; omega)]
theorem mod_step (x V R : Nat) : ((x + V) * R) % pN = ((x % pN + V) * R) % pN := by simp [Nat.mul_mod, Nat.add_mod]
def rKy (key : List UInt8) : Nat := rN (key.take 16)
def sK (key : List UInt8) : Nat := lv (key.drop 16)
/-- The tag. -/
def tagL (key l : List UInt8) : List UInt8 := le (pk (rKy key) l ((l.length + 15) / 16) + sK key) 16
def tagR (key l : List UInt8) : List UInt8 := if key.length = 32 then tagL key l else []
def tagE (key : List UInt8) : Int := if key.length = 32 then 0 else 1
theorem tagL_len (key l : List UInt8) : (tagL key l).length = 16 := le_len _ _
theorem rK_lt (key : List UInt8) : rKy key < 1361129467683753853853498429727072845824 := by
  have h := lv_lt (rB (wid (key.take 16)))
  have hl : (wid (key.take 16)).length = 17 := wid_len _ (by rw [List.length_take]; omega)
  rw [rB_len, hl] at h
  have h2 : (rB (wid (key.take 16)))[16]? = some 0 := by
    have hB : ∀ (x : List UInt8) (k : Nat), k ≤ 3 → (bB x k)[16]? = x[16]? := by
      intro x k hk
      induction k with
      | zero => rfl
      | succ k ih => rw [bB, List.getElem?_set_ne (by omega), ih (by omega)]
    have hA : ∀ (x : List UInt8) (k : Nat), k ≤ 4 → (bA x k)[16]? = x[16]? := by
      intro x k hk
      induction k with
      | zero => rfl
      | succ k ih => rw [bA, List.getElem?_set_ne (by omega), ih (by omega)]
    rw [rB, hB _ 3 (by omega), hA _ 4 (by omega)]
    unfold wid
    rw [List.getElem?_append_right (by rw [List.length_take]; omega), List.getElem?_replicate, if_pos (by rw [List.length_take]; omega)]
  have h3 := bv_split 256 (nb (rB (wid (key.take 16)))) 16 (by rw [nb_len, rB_len, hl]; omega)
  have h4 := bv_lt (b := 256) (by decide) ((nb (rB (wid (key.take 16)))).take 16) (fun d hd => nb_lt _ d (List.mem_of_mem_take hd))
  rw [List.length_take, nb_len, rB_len, hl] at h4
  have h5 : (nb (rB (wid (key.take 16)))).drop 16 = [0] := by
    rw [List.drop_eq_getElem_cons (by rw [nb_len, rB_len, hl]; omega), List.drop_of_length_le (by rw [nb_len, rB_len, hl]; omega)]
    congr 1
    have : (nb (rB (wid (key.take 16))))[16]? = some 0 := by unfold nb; rw [List.getElem?_map, h2]; rfl
    rw [List.getElem?_eq_getElem (by rw [nb_len, rB_len, hl]; omega)] at this
    exact Option.some.inj this
  rw [h5] at h3
  unfold rKy rN lv
  simp only [bv] at h3
  have : (256 : Nat) ^ (min 16 17) = 340282366920938463463374607431768211456 := by decide
  omega
theorem sK_lt (key : List UInt8) (h : key.length = 32) : sK key < 340282366920938463463374607431768211456 := by
  have := lv_lt (key.drop 16)
  rw [List.length_drop, h] at this
  exact this

/-- An Adder's cells. -/
def adC (r s x : List Nat) (blk : List UInt8) (h : Nat) : List Value := (wq r ++ wq s) ++ (wq x ++ (cb blk ++ [.int .i64 (h : Int)]))
theorem adC_len {r s x : List Nat} {blk : List UInt8} {h : Nat} (hr : r.length = 5) (hs : s.length = 5) (hx : x.length = 5) (hb : blk.length = 16) : (adC r s x blk h).length = 32 := by simp [adC, wq_len, cb_len, hr, hs, hx, hb]
theorem adC_r {r s x : List Nat} {blk : List UInt8} {h : Nat} (hr : r.length = 5) (hs : s.length = 5) (hx : x.length = 5) (hb : blk.length = 16) : ((adC r s x blk h).drop 0).take 5 = wq r := by
  unfold adC
  rw [List.drop_zero, List.append_assoc, List.take_append_of_le_length (by rw [wq_len]; omega), List.take_of_length_le (by rw [wq_len]; omega)]
theorem adC_s {r s x : List Nat} {blk : List UInt8} {h : Nat} (hr : r.length = 5) (hs : s.length = 5) (hx : x.length = 5) (hb : blk.length = 16) : ((adC r s x blk h).drop 5).take 5 = wq s := by
  unfold adC
  rw [List.append_assoc, List.drop_append, List.drop_of_length_le (by rw [wq_len]; omega), List.nil_append, wq_len, hr, Nat.sub_self, List.drop_zero, List.take_append_of_le_length (by rw [wq_len]; omega), List.take_of_length_le (by rw [wq_len]; omega)]
theorem adC_x {r s x : List Nat} {blk : List UInt8} {h : Nat} (hr : r.length = 5) (hs : s.length = 5) (hx : x.length = 5) (hb : blk.length = 16) : ((adC r s x blk h).drop 10).take 5 = wq x := by
  unfold adC
  rw [List.drop_append, List.drop_of_length_le (by simp [wq_len]; omega), List.nil_append, List.length_append, wq_len, wq_len, hr, hs, Nat.sub_self, List.drop_zero, List.take_append_of_le_length (by rw [wq_len]; omega), List.take_of_length_le (by rw [wq_len]; omega)]
theorem adC_b {r s x : List Nat} {blk : List UInt8} {h : Nat} (hr : r.length = 5) (hs : s.length = 5) (hx : x.length = 5) (hb : blk.length = 16) : ((adC r s x blk h).drop 15).take 16 = cb blk := by
  unfold adC
  rw [← List.append_assoc, List.drop_append, List.drop_of_length_le (by simp [wq_len]; omega), List.nil_append]
  simp only [List.length_append, wq_len, hr, hs, hx]
  rw [List.drop_zero, List.take_append_of_le_length (by rw [cb_len]; omega), List.take_of_length_le (by rw [cb_len]; omega)]
theorem adC_h {r s x : List Nat} {blk : List UInt8} {h : Nat} (hr : r.length = 5) (hs : s.length = 5) (hx : x.length = 5) (hb : blk.length = 16) : (adC r s x blk h)[31]? = some (.int .i64 (h : Int)) := by
  unfold adC
  rw [← List.append_assoc, ← List.append_assoc, List.getElem?_append_right (by simp [wq_len, cb_len]; omega)]
  simp [wq_len, cb_len, hr, hs, hx, hb]
theorem adC_set {r s x : List Nat} {blk : List UInt8} {h : Nat} (hr : r.length = 5) (hs : s.length = 5) (hx : x.length = 5) (hb : blk.length = 16) (h' : Nat) : (adC r s x blk h).set 31 (.int .i64 (h' : Int)) = adC r s x blk h' := by
  unfold adC
  rw [← List.append_assoc, ← List.append_assoc, List.set_append_right _ _ (by simp [wq_len, cb_len]; omega), ← List.append_assoc, ← List.append_assoc]
  simp [wq_len, cb_len, hr, hs, hx, hb]
theorem adC_splice {r s x : List Nat} {blk : List UInt8} {h : Nat} (hr : r.length = 5) (hs : s.length = 5) (hx : x.length = 5) (hb : blk.length = 16) (y : List UInt8) (a : Nat) (ha : a + y.length ≤ 16) : splice (adC r s x blk h) (15 + a) (cb y) = adC r s x (splice blk a y) h := by
  unfold adC
  rw [← List.append_assoc]
  have := splice_mid ((wq r ++ wq s) ++ wq x) (cb blk) [.int .i64 (h : Int)] (cb y) a (by rw [cb_len, cb_len, hb]; exact ha)
  rw [show ((wq r ++ wq s) ++ wq x).length = 15 by simp [wq_len, hr, hs, hx]] at this
  rw [this, ← List.append_assoc _ (wq x), cb_splice]
theorem adC_over {r s x : List Nat} {blk : List UInt8} {h : Nat} (hr : r.length = 5) (hs : s.length = 5) (hx : x.length = 5) (hb : blk.length = 16) (z : List Nat) (hz : z.length = 5) : splice (adC r s x blk h) 10 (wq z) = adC r s z blk h := by
  unfold adC
  have := splice_mid (wq r ++ wq s) (wq x) (cb blk ++ [.int .i64 (h : Int)]) (wq z) 0 (by rw [wq_len, wq_len]; omega)
  rw [show (wq r ++ wq s).length = 10 by simp [wq_len, hr, hs], Nat.add_zero] at this
  rw [this]
  congr 2
  simp [splice, wq_len, hz, hx]

/-- What an Adder's parts say of what was added. -/
structure AdV (key m : List UInt8) (x : List Nat) (blk : List UInt8) : Prop where
  lim : Lim 67108869 x
  val : nv x % pN = pk (rKy key) m (m.length / 16)
  len : blk.length = 16
  rest : blk.take (m.length % 16) = m.drop (16 * (m.length / 16))
def Ad (w : World) (g : Nat) (key m : List UInt8) : Prop := ∃ x blk, AdV key m x blk ∧ Bl w g (adC (limbs (rKy key)) (limbs (sK key)) x blk (m.length % 16)) 170
theorem Ad.keep {w w' : World} {g : Nat} {key m : List UInt8} (h : Ad w g key m) (hk : w'.heap[g]? = w.heap[g]?) : Ad w' g key m := by
  obtain ⟨x, blk, h1, h2⟩ := h
  exact ⟨x, blk, h1, h2.keep hk⟩
theorem Ad.lt {w : World} {g : Nat} {key m : List UInt8} (h : Ad w g key m) : g < w.heap.size := by obtain ⟨_, _, _, h⟩ := h; exact h.lt
theorem Ad.next {w w' : World} {g : Nat} {key m : List UInt8} (h : Ad w g key m) (hb : Below w.heap.size w w') : Ad w' g key m := h.keep (hb.block g h.lt)
theorem Ad.but {w w' : World} {g k : Nat} {key m : List UInt8} (h : Ad w g key m) (hg : w.grownBy w' (some k)) (hk : g ≠ k) : Ad w' g key m := h.keep (hg.block g h.lt (fun e => hk (by injection e)))

theorem splice_take (b p : List UInt8) (a : Nat) (ha : a + p.length ≤ b.length) : (splice b a p).take (a + p.length) = b.take a ++ p := by
  unfold splice
  rw [← List.append_assoc, List.take_append_of_le_length (by simp; omega), List.take_of_length_le (by simp; omega)]
theorem AdV.part {key q p : List UInt8} {x : List Nat} {blk : List UInt8} (h : AdV key q x blk) (ha : q.length % 16 + p.length < 16) :
    AdV key (q ++ p) x (splice blk (q.length % 16) p) := by
  have e1 : (q ++ p).length / 16 = q.length / 16 := by rw [List.length_append]; omega
  have e2 : (q ++ p).length % 16 = q.length % 16 + p.length := by rw [List.length_append]; omega
  refine ⟨h.lim, ?_, ?_, ?_⟩
  · rw [e1, pk_append _ _ _ _ (by omega)]; exact h.val
  · rw [splice_len _ _ _ (by rw [h.len]; omega)]; exact h.len
  · rw [e1, e2, splice_take _ _ _ (by rw [h.len]; omega), h.rest, List.drop_append_of_le_length (by omega)]
theorem AdV.full {key q p : List UInt8} {x z : List Nat} {blk b2 : List UInt8} (h : AdV key q x blk) (ha : q.length % 16 + p.length = 16) (hb : b2 = splice blk (q.length % 16) p) (hz : Lim 67108869 z)
    (hv : nv z % pN = ((nv x + (lv b2 + 256 ^ b2.length)) * rKy key) % pN) : AdV key (q ++ p) z b2 := by
  have e1 : (q ++ p).length / 16 = q.length / 16 + 1 := by rw [List.length_append]; omega
  have e2 : (q ++ p).length % 16 = 0 := by rw [List.length_append]; omega
  have hl : b2.length = 16 := by rw [hb, splice_len _ _ _ (by rw [h.len]; omega)]; exact h.len
  have hq : b2 = ((q ++ p).drop (16 * (q.length / 16))).take 16 := by
    have := splice_take blk p (q.length % 16) (by rw [h.len]; omega)
    rw [h.rest, ha, ← hb, List.take_of_length_le (by omega)] at this
    rw [List.drop_append_of_le_length (by omega), ← this, List.take_of_length_le (by omega)]
  refine ⟨hz, ?_, hl, ?_⟩
  · rw [e1, pk, pk_append _ _ _ _ (by omega), ← hq, hv, mod_step, h.val]; rfl
  · rw [e1, e2, List.take_zero, List.drop_of_length_le (by rw [List.length_append]; omega)]

theorem adder_zero : (Tryz.prog.info? 170).map (·.zero) = some (some (.agg (adC (List.replicate 5 0) (List.replicate 5 0) (List.replicate 5 0) (List.replicate 16 0) 0).toArray)) := by kernel_rfl
theorem adder_places : (match Tryz.prog.underlying 170 with | some (.struct fields) => fields.toList.mapM (fun f => (Tryz.prog.info? f.type).map fun i => (f.offset, i.size)) | _ => none) = some [(0, 5), (5, 5), (10, 5), (15, 16), (31, 1)] := by kernel_rfl
theorem built_adder (C1 C2 : List Nat) (h1 : C1.length = 5) (h2 : C2.length = 5) : Tryz.prog.built 170 [(0, .agg (wq C1).toArray), (1, .agg (wq C2).toArray)] = some (adC C1 C2 (List.replicate 5 0) (List.replicate 16 0) 0).toArray := by
  have hz := adder_zero
  have hp := adder_places
  unfold Program.built
  cases hq : Tryz.prog.info? 170 with
  | none => simp [hq] at hz
  | some it =>
    have hz' : it.zero = some (.agg (adC (List.replicate 5 0) (List.replicate 5 0) (List.replicate 5 0) (List.replicate 16 0) 0).toArray) := by simpa [hq] using hz
    cases hu : Tryz.prog.underlying 170 with
    | none => rw [hu] at hp; simp at hp
    | some d =>
      rw [hu] at hp
      cases d <;> simp only [reduceCtorEq] at hp ⊢
      rename_i fields
      simp only [hz', hp]
      obtain ⟨Z, hZ⟩ : ∃ Z, Z = adC (List.replicate 5 0) (List.replicate 5 0) (List.replicate 5 0) (List.replicate 16 0) 0 := ⟨_, rfl⟩
      rw [← hZ]
      have hZl : Z.length = 32 := by rw [hZ]; rfl
      have k1 := wq_len C1
      have k2 := wq_len C2
      have s1 : splice Z 0 (wq C1) = wq C1 ++ Z.drop 5 := by simp [splice, k1, h1]
      have s2 : splice (wq C1 ++ Z.drop 5) 5 (wq C2) = adC C1 C2 (List.replicate 5 0) (List.replicate 16 0) 0 := by
        unfold splice
        rw [List.take_append_of_le_length (by omega), List.take_of_length_le (by omega), List.drop_append, List.drop_of_length_le (by omega), List.nil_append, List.drop_drop, k1, k2, h1, h2, hZ]
        unfold adC
        rw [List.append_assoc (wq C1)]
        rfl
      rw [Instr.fill]
      simp only [show ([(0, 5), (5, 5), (10, 5), (15, 16), (31, 1)].toArray[0]? : Option (Nat × Nat)) = some (0, 5) from rfl, Value.cells, List.size_toArray, k1, h1, ne_eq, not_true_eq_false, decide_false, Bool.false_or, decide_eq_true_eq]
      rw [if_neg (by omega), fold_over 0 (wq C1) Z (by omega), s1, Instr.fill]
      simp only [show ([(0, 5), (5, 5), (10, 5), (15, 16), (31, 1)].toArray[1]? : Option (Nat × Nat)) = some (5, 5) from rfl, Value.cells, List.size_toArray, k2, h2, ne_eq, not_true_eq_false, decide_false, Bool.false_or, decide_eq_true_eq]
      rw [if_neg (by simp; omega), fold_over 5 (wq C2) _ (by simp; omega), s2, Instr.fill]

end Go.Proofs.YtlnoopmblmkgkaaGreatDoor

namespace Go.Proofs.YtlnoopmblmkgkaaGreatDoor
set_option maxRecDepth 100000
open Go.RowKit
set_option linter.unusedVariables false
set_option linter.unusedSimpArgs false

theorem adV_new (key : List UInt8) : AdV key [] (List.replicate 5 0) (List.replicate 16 0) :=
  ⟨lim_five (by omega) (by omega) (by omega) (by omega) (by omega), by rfl, by rfl, by rfl⟩

set_option maxRecDepth 100000 in
set_option maxHeartbeats 1000000 in
theorem onew_any (key : List UInt8) (w : World) (A : Option Addr) (n c : Nat) (h : Sl w w.heap.size A n (cb key)) (hc : n ≤ c) (hA : A = none → c = 0) (hm : n ≤ maxLen) :
    Calls Tryz.prog 95 #[.slice A n c] w fun e w' => (key.length = 32 ∧ ∃ g, e = .returned (.tuple #[.pointer (some ⟨g, 0, none⟩), .int .i64 0]) ∧ w.heap.size ≤ g ∧ Ad w' g key [] ∧ Below w.heap.size w w') ∨ (key.length ≠ 32 ∧ e = .returned (.tuple #[.pointer none, .int .i64 1]) ∧ w = w') := by
  have hn : n = key.length := by rw [← h.1, cb_len]
  unfold maxLen at hm
  by_cases h32 : key.length = 32
  · have HK := Lib.hid h32
    rw [h32] at hn
    subst hn
    have s1 := sl_take (h := 16) h (by omega)
    rw [show (cb key).take 16 = cb (key.take 16) by simp [cb]] at s1
    have s2 := sl_cut (k := 16) h (by omega) hc
    rw [show (cb key).drop 16 = cb (key.drop 16) by simp [cb]] at s2
    obtain ⟨A2, hA2⟩ : ∃ A2, A2 = if c = 16 then A else A.map (·.add 16) := ⟨_, rfl⟩
    rw [← hA2] at s2
    have HA2 := Lib.hid hA2
    clear hA2 h32
    go_enter Tryz.func95, Tryz.ntmps95
    go_wp2_with fail
    refine wp_region_any (by kernel_rfl) ?_
    change wpAny _ _ _ _ _ _ _ (World.drew _)
    refine wpAny_take (i := 0) (v := (.slice A 32 c)) rfl (by kernel_rfl) (by kernel_rfl) (by kernel_rfl) (fun _ _ _ h => h) (Or.inl ⟨by rfl, fun _ => by go_simp⟩) ?_
    simp only [List.getElem_toArray, List.getElem_cons_succ, List.getElem_cons_zero, Act.put, List.setIfInBounds_toArray, List.set_cons_zero, List.set_cons_succ]
    refine wpAny_take (i := 1) (v := .slice A 16 c) rfl (by kernel_rfl) (by kernel_rfl) (by kernel_rfl) (fun _ _ _ h => h) (Or.inl ⟨by rfl, fun w9 => exec_slice_to w9 22 5 _ _ rfl Tryz.underlying22 u8_size A 32 c 16 .i64 16 rfl rfl rfl (by omega) hA⟩) ?_
    simp only [List.getElem_toArray, List.getElem_cons_succ, List.getElem_cons_zero, Act.put, List.setIfInBounds_toArray, List.set_cons_zero, List.set_cons_succ]
    refine wpAny_take (i := 3) (v := (.slice A 32 c)) rfl (by kernel_rfl) (by kernel_rfl) (by kernel_rfl) (fun _ _ _ h => h) (Or.inl ⟨by rfl, fun _ => by go_simp⟩) ?_
    simp only [List.getElem_toArray, List.getElem_cons_succ, List.getElem_cons_zero, Act.put, List.setIfInBounds_toArray, List.set_cons_zero, List.set_cons_succ]
    refine wpAny_take (i := 4) (v := .slice A2 (32 - 16) (c - 16)) rfl (by kernel_rfl) (by kernel_rfl) (by kernel_rfl) (fun _ _ _ h => h) (Or.inl ⟨by rfl, fun w9 => exec_slice_from w9 22 5 _ _ rfl Tryz.underlying22 u8_size A 32 c 16 .i64 16 rfl rfl rfl (by omega) hc hA A2 HA2.out⟩) ?_
    simp only [List.getElem_toArray, List.getElem_cons_succ, List.getElem_cons_zero, Act.put, List.setIfInBounds_toArray, List.set_cons_zero, List.set_cons_succ]
    obtain ⟨W0, hW0⟩ : ∃ W, W = w.drew := ⟨_, rfl⟩
    have hb0 : Below w.heap.size w W0 := by rw [hW0]; exact (Below.refl _ w).drew
    rw [← hW0]
    clear hW0
    refine wpAny_one (i := 2) (by kernel_rfl) rfl (by rfl) (fun K hK => ?_)
    simp only [List.getElem_toArray, List.getElem_cons_succ, List.getElem_cons_zero, Act.put, List.setIfInBounds_toArray, List.set_cons_zero, List.set_cons_succ]
    go_simp
    refine (factorOf_any (key.take 16) W0 _ A 16 c (s1.below hb0) hb0.size (by omega)).mono ?_
    rintro e w1 ⟨rfl, hb1⟩
    replace hb0 := next hb0 hb1
    refine hK.out _ _ ?_
    clear hK K hb1
    obtain ⟨R, hR⟩ : ∃ R, R = limbs (rN (key.take 16)) := ⟨_, rfl⟩
    rw [← hR]
    have HRL : Hid (R.length = 5) := by unfold Hid; rw [hR, limbs_len]
    have HR : Hid (limbs (rKy key) = R) := by unfold Hid; rw [hR]; rfl
    clear hR
    refine wpAny_one (i := 5) (by kernel_rfl) rfl (by rfl) (fun K hK => ?_)
    simp only [List.getElem_toArray, List.getElem_cons_succ, List.getElem_cons_zero, Act.put, List.setIfInBounds_toArray, List.set_cons_zero, List.set_cons_succ]
    go_simp
    refine (widened_any (key.drop 16) w1 _ A2 _ _ (s2.below hb0) hb0.size (by omega)).mono ?_
    rintro e w2 ⟨rfl, hb2⟩
    replace hb0 := next hb0 hb2
    refine hK.out _ _ ?_
    clear hK K hb2
    obtain ⟨S, hS⟩ : ∃ S, S = limbs (lv (wid (key.drop 16))) := ⟨_, rfl⟩
    have HSL : Hid (S.length = 5) := by unfold Hid; rw [hS, limbs_len]
    have HS : Hid (limbs (sK key) = S) := by unfold Hid; rw [hS, wid_lv]; rfl
    have HSS := Lib.hid hS
    clear hS
    refine wpAny_one (i := 6) (by kernel_rfl) rfl (by rfl) (fun K hK => ?_)
    simp only [List.getElem_toArray, List.getElem_cons_succ, List.getElem_cons_zero, Act.put, List.setIfInBounds_toArray, List.set_cons_zero, List.set_cons_succ]
    go_simp
    refine (numberOf_any (wid (key.drop 16)) w2 (wid_len _ (by rw [List.length_drop, HK.out]; omega)) S HSS.out).mono ?_
    rintro e w3 ⟨rfl, hb3⟩
    replace hb0 := next hb0 hb3
    refine hK.out _ _ ?_
    clear hK K hb3
    obtain ⟨C, hC⟩ : ∃ C, C = adC R S (List.replicate 5 0) (List.replicate 16 0) 0 := ⟨_, rfl⟩
    have HBU := Lib.hid (built_adder R S HRL.out HSL.out)
    rw [← hC] at HBU
    have HC := Lib.hid hC
    clear hC
    refine wpAny_take (i := 7) (v := .agg C.toArray) rfl (by kernel_rfl) (by kernel_rfl) (by kernel_rfl) (fun _ _ _ h => h) (Or.inl ⟨by rfl, exec_build 170 #[(0, .tmp 9), (1, .tmp 13)] rfl C HBU.out⟩) ?_
    simp only [List.getElem_toArray, List.getElem_cons_succ, List.getElem_cons_zero, Act.put, List.setIfInBounds_toArray, List.set_cons_zero, List.set_cons_succ]
    refine wpAny_one (i := 8) (by kernel_rfl) rfl (by rfl) (fun K hK => ?_)
    simp only [List.getElem_toArray, List.getElem_cons_succ, List.getElem_cons_zero, Act.put, List.setIfInBounds_toArray, List.set_cons_zero, List.set_cons_succ]
    go_simp
    refine hK.out _ _ ?_
    clear hK K
    refine wpAny_take (i := 9) (v := (.pointer (some ⟨w3.heap.size, 0, none⟩))) rfl (by kernel_rfl) (by kernel_rfl) (by kernel_rfl) (fun _ _ _ h => h) (Or.inl ⟨by rfl, fun _ => by go_simp⟩) ?_
    simp only [List.getElem_toArray, List.getElem_cons_succ, List.getElem_cons_zero, Act.put, List.setIfInBounds_toArray, List.set_cons_zero, List.set_cons_succ]
    refine wpAny_take (i := 10) (v := (.int .i64 0)) rfl (by kernel_rfl) (by kernel_rfl) (by kernel_rfl) (fun _ _ _ h => h) (Or.inl ⟨by rfl, fun _ => by go_simp⟩) ?_
    simp only [List.getElem_toArray, List.getElem_cons_succ, List.getElem_cons_zero, Act.put, List.setIfInBounds_toArray, List.set_cons_zero, List.set_cons_succ]
    refine wpAny_done (by kernel_rfl) ?_ _
    go_wp2
    go_ret2
    refine Or.inl ⟨HK.out, w3.heap.size, rfl, hb0.size, ⟨List.replicate 5 0, List.replicate 16 0, adV_new key, ?_⟩, hb0.alloc hb0.size _⟩
    rw [HR.out, HS.out]
    have h2 := Bl.newA w3 C.toArray 170
    rw [HC.out] at h2 ⊢
    exact h2
  · have HK := Lib.hid h32
    have hq : ((n : Int) != 32) = true := by simp; omega
    clear h32
    go_enter Tryz.func95, Tryz.ntmps95
    go_wp2
    go_ret2
    exact Or.inr ⟨HK.out, rfl, rfl⟩

end Go.Proofs.YtlnoopmblmkgkaaGreatDoor

namespace Go.Proofs.YtlnoopmblmkgkaaGreatDoor
set_option maxRecDepth 100000
open Go.RowKit
set_option linter.unusedVariables false
set_option linter.unusedSimpArgs false

def OAddPost (w : World) (g : Nat) (key m : List UInt8) (e : Ending) (w' : World) : Prop := e = .returned (.tuple #[]) ∧ Ad w' g key m ∧ w.grownBy w' (some g)

/-- What a round of Add's loop begins with. -/
def AddQ (w : World) (g B : Nat) (key m l : List UInt8) (v : Value) (wr : World) : Prop :=
  ∃ (k : Nat) (A' : Option Addr) (c' : Nat), k ≤ l.length ∧ v = .slice A' (l.length - k) c' ∧ Sl wr B A' (l.length - k) (cb (l.drop k)) ∧ Off g (l.length - k) A' ∧ l.length - k ≤ c' ∧ (A' = none → c' = 0) ∧ Ad wr g key (m ++ l.take k) ∧ w.grownBy wr (some g)
theorem addQ_next {w w2 w3 : World} {g B k t c' : Nat} {key m l : List UInt8} {A' A2 : Option Addr} (ht : t ≤ l.length - k) (hk : k ≤ l.length) (hA2 : A2 = if c' = t then A' else A'.map (·.add t)) (hsl : Sl w2 B A' (l.length - k) (cb (l.drop k))) (hB : B ≤ w2.heap.size) (hoff : Off g (l.length - k) A')
    (hcc : l.length - k ≤ c') (hnn : A' = none → c' = 0) (hg2 : w2.grownBy w3 (some g)) (hgr : w.grownBy w3 (some g)) (hst : Ad w3 g key (m ++ l.take (k + t))) : AddQ w g B key m l (.slice A2 (l.length - k - t) (c' - t)) w3 := by
  have h1 := sl_cut (k := t) (sl_off hsl hg2 hB hoff) ht hcc
  rw [← hA2, show (cb (l.drop k)).drop t = cb (l.drop (k + t)) by simp [cb, List.drop_drop]] at h1
  have e : l.length - k - t = l.length - (k + t) := by omega
  have h2 : Off g (l.length - k - t) A2 := by rw [hA2]; exact off_cut hoff
  rw [e] at h1 h2 ⊢
  refine ⟨k + t, A2, c' - t, by omega, rfl, h1, h2, by omega, ?_, hst, hgr⟩
  intro h
  rw [h] at hA2
  split at hA2
  · rename_i hc; omega
  · rcases A' with _ | x
    · rw [hnn rfl]; omega
    · cases hA2

theorem u8_16 : Tryz.prog.underlying 168 = some (.array 16 5) := Tryz.underlying168

set_option maxRecDepth 100000 in
set_option maxHeartbeats 2000000 in
theorem oadd_any (g : Nat) (key m l : List UInt8) (w : World) (B : Nat) (A : Option Addr) (n c : Nat) (hst : Ad w g key m) (h : Sl w B A n (cb l)) (hB : B ≤ w.heap.size) (ho : Off g n A) (hc : n ≤ c) (hA : A = none → c = 0) (hm : n ≤ maxLen) :
    Calls Tryz.prog 100 #[.pointer (some ⟨g, 0, none⟩), .slice A n c] w (OAddPost w g key (m ++ l)) := by
  have hn : n = l.length := by rw [← h.1, cb_len]
  subst hn
  unfold maxLen at hm
  obtain ⟨R, hR⟩ : ∃ R, R = limbs (rKy key) := ⟨_, rfl⟩
  have HRL : Hid (Lim 67108864 R) := by unfold Hid; rw [hR]; exact limbs_lim _
  have HRV : Hid (nv R = rKy key) := by unfold Hid; rw [hR]; exact limbs_nv _ (rK_lt key)
  obtain ⟨Sx, hSx⟩ : ∃ S, S = limbs (sK key) := ⟨_, rfl⟩
  have HSL : Hid (Sx.length = 5) := by unfold Hid; rw [hSx, limbs_len]
  have HRR := Lib.hid hR
  have HSS := Lib.hid hSx
  clear hR hSx
  go_enter Tryz.func100, Tryz.ntmps100
  go_wp2
  go_loopw [1] (fun v wr => AddQ w g B key m l v wr) (fun v _ => lenOf v)
  case atStart => exact ⟨0, A, c, Nat.zero_le _, rfl, h, ho, hc, hA, by simpa using hst, but_refl w g⟩
  case round =>
    obtain ⟨k, A', c', hk, rfl, hsl, hoff, hcc, hnn, hst', hgr⟩ := hrel
    clear h ho hc hA hst
    by_cases hlt : k < l.length
    · obtain ⟨x, blk, hv, hbl⟩ := hst'
      obtain ⟨q, hq⟩ : ∃ q, q = m ++ l.take k := ⟨_, rfl⟩
      rw [← hq] at hv hbl
      rw [← HRR.out, ← HSS.out] at hbl
      obtain ⟨a, ha⟩ : ∃ a, a = q.length % 16 := ⟨_, rfl⟩
      rw [← ha] at hbl
      obtain ⟨t, ht⟩ : ∃ t, t = Nat.min (l.length - k) (16 - a) := ⟨_, rfl⟩
      have ha16 : a < 16 := by rw [ha]; omega
      have htl : t ≤ l.length - k := by rw [ht]; exact Nat.min_le_left ..
      have hta : t ≤ 16 - a := by rw [ht]; exact Nat.min_le_right ..
      have htm : t = l.length - k ∨ t = 16 - a := by rw [ht]; unfold Nat.min; omega
      have htp : 1 ≤ t := by omega
      have HXL := Lib.hid hv.lim.len
      have HB16 := Lib.hid hv.len
      have HV := Lib.hid hv
      have HR5 : Hid (R.length = 5) := HRL.out.len
      have hcnt : wr.drew.cell? ⟨g, 31, none⟩ = some (.int .i64 (a : Int)) := by rw [hbl.drew.cell, adC_h HR5.out HSL.out HXL.out HB16.out]
      obtain ⟨w2, hcp, hbl2, hgr2⟩ := run_copy_but (P := Tryz.prog) wr.drew 22 22 3 5 Tryz.underlying22 u8_size g (15 + a) (16 - a) (16 - a) B A' (l.length - k) c' (cb (l.drop k)) hsl _ _ hbl.drew (by rw [adC_len HR5.out HSL.out HXL.out HB16.out]; omega) (cb_one _)
      rw [← ht] at hcp
      have hpl : ((l.drop k).take t).length = t := by simp; omega
      have htk : (cb (l.drop k)).take (16 - a) = cb ((l.drop k).take t) := by
        rw [show (cb (l.drop k)).take (16 - a) = cb ((l.drop k).take (16 - a)) by simp [cb]]
        congr 1
        rcases htm with e | e
        · rw [List.take_of_length_le (by simp; omega), List.take_of_length_le (by simp; omega)]
        · rw [e]
      obtain ⟨p, hp⟩ : ∃ p, p = (l.drop k).take t := ⟨_, rfl⟩
      rw [← hp] at hpl htk
      rw [htk, adC_splice HR5.out HSL.out HXL.out HB16.out _ _ (by omega)] at hbl2
      obtain ⟨b2, hb2⟩ : ∃ b, b = splice blk a p := ⟨_, rfl⟩
      have HB2 : Hid (b2.length = 16) := by unfold Hid; rw [hb2, splice_len _ _ _ (by rw [hpl, HB16.out]; omega), HB16.out]
      rw [← hb2] at hbl2
      have HQP : Hid (q ++ p = m ++ l.take (k + t)) := by unfold Hid; rw [hq, hp, List.append_assoc, List.take_add]
      have hcnt2 : w2.cell? ⟨g, 31, none⟩ = some (.int .i64 (a : Int)) := by rw [hbl2.cell, adC_h HR5.out HSL.out HXL.out HB2.out]
      have hfr2 := hbl2.frozen 31
      obtain ⟨u, hu⟩ : ∃ u, u = a + t := ⟨_, rfl⟩
      have eu : (a : Int) + (t : Int) = (u : Int) := by omega
      have hbl3 := hbl2.set 31 (.int .i64 (u : Int))
      rw [adC_set HR5.out HSL.out HXL.out HB2.out u] at hbl3
      have hgrd : w.grownBy wr.drew (some g) := but_drewN hgr 1
      have hgr3 := but_setCell (but_trans hgrd hgr2) 31 (.int .i64 (u : Int))
      have hsl2 : Sl w2 B A' (l.length - k) (cb (l.drop k)) := sl_off (w := wr.drew) hsl hgr2 (Nat.le_trans hB hgrd.size) hoff
      have hBw2 : B ≤ w2.heap.size := Nat.le_trans (Nat.le_trans hB hgrd.size) hgr2.size
      obtain ⟨W3, hW3⟩ : ∃ W3, W3 = w2.setCell ⟨g, 31, none⟩ (.int .i64 (u : Int)) := ⟨_, rfl⟩
      have hg23 : w2.grownBy W3 (some g) := by rw [hW3]; exact but_setCell (but_refl w2 g) 31 _
      rw [← hW3] at hbl3 hgr3
      have hcnt3 : W3.cell? ⟨g, 31, none⟩ = some (.int .i64 (u : Int)) := by rw [hbl3.cell, adC_h HR5.out HSL.out HXL.out HB2.out]
      have hfr3 := hbl3.frozen 31
      have HW3 := Lib.hid hW3
      have HQ := Lib.hid hq
      have HA := Lib.hid ha
      have HP := Lib.hid hpl
      have HBB := Lib.hid hb2
      have HU := Lib.hid hu
      have HCP := Lib.hid hcp
      have hsa := run_slice_arr_from (P := Tryz.prog) (t := 168) (e := 5) (g := g) (o := 15) (n := 16) (ht := Tryz.underlying168) (he := u8_size) (kl := .i64) (L := (a : Int)) (l := a) (eL := rfl) (h3 := ha16)
      have HSA := Lib.hid hsa
      clear hq ha ht hv hp hb2 htk hbl hbl2 hsl hcp hpl hu hW3 hgr hgrd hgr2 hsa
      go_wp2_with fail
      refine wp_region_any (by kernel_rfl) ?_
      change wpAny _ _ _ _ _ _ _ (World.drew _)
      refine wpAny_take (i := 0) (v := (.pointer (some ⟨g, 0, none⟩))) rfl (by kernel_rfl) (by kernel_rfl) (by kernel_rfl) (fun _ _ _ h => h) (Or.inl ⟨by rfl, fun _ => by go_simp⟩) ?_
      simp only [List.getElem_toArray, List.getElem_cons_succ, List.getElem_cons_zero, Act.put, List.setIfInBounds_toArray, List.set_cons_zero, List.set_cons_succ]
      refine wpAny_take (i := 1) (v := (.pointer (some ⟨g, 0, none⟩))) rfl (by kernel_rfl) (by kernel_rfl) (by kernel_rfl) (fun _ _ _ h => h) (Or.inl ⟨by rfl, fun _ => by go_simp⟩) ?_
      simp only [List.getElem_toArray, List.getElem_cons_succ, List.getElem_cons_zero, Act.put, List.setIfInBounds_toArray, List.set_cons_zero, List.set_cons_succ]
      refine wpAny_take (i := 2) (v := (.pointer (some ⟨g, 15, none⟩))) rfl (by kernel_rfl) (by kernel_rfl) (by kernel_rfl) (fun _ _ _ h => h) (Or.inl ⟨by rfl, fun _ => by go_simp⟩) ?_
      simp only [List.getElem_toArray, List.getElem_cons_succ, List.getElem_cons_zero, Act.put, List.setIfInBounds_toArray, List.set_cons_zero, List.set_cons_succ]
      refine wpAny_take (i := 3) (v := (.pointer (some ⟨g, 0, none⟩))) rfl (by kernel_rfl) (by kernel_rfl) (by kernel_rfl) (fun _ _ _ h => h) (Or.inl ⟨by rfl, fun _ => by go_simp⟩) ?_
      simp only [List.getElem_toArray, List.getElem_cons_succ, List.getElem_cons_zero, Act.put, List.setIfInBounds_toArray, List.set_cons_zero, List.set_cons_succ]
      refine wpAny_take (i := 4) (v := (.pointer (some ⟨g, 0, none⟩))) rfl (by kernel_rfl) (by kernel_rfl) (by kernel_rfl) (fun _ _ _ h => h) (Or.inl ⟨by rfl, fun _ => by go_simp⟩) ?_
      simp only [List.getElem_toArray, List.getElem_cons_succ, List.getElem_cons_zero, Act.put, List.setIfInBounds_toArray, List.set_cons_zero, List.set_cons_succ]
      refine wpAny_take (i := 5) (v := (.pointer (some ⟨g, 31, none⟩))) rfl (by kernel_rfl) (by kernel_rfl) (by kernel_rfl) (fun _ _ _ h => h) (Or.inl ⟨by rfl, fun _ => by go_simp⟩) ?_
      simp only [List.getElem_toArray, List.getElem_cons_succ, List.getElem_cons_zero, Act.put, List.setIfInBounds_toArray, List.set_cons_zero, List.set_cons_succ]
      refine wpAny_take (i := 8) (v := (.slice A' (l.length - k) c')) rfl (by kernel_rfl) (by kernel_rfl) (by kernel_rfl) (fun _ _ _ h => h) (Or.inl ⟨by rfl, fun _ => by go_simp⟩) ?_
      simp only [List.getElem_toArray, List.getElem_cons_succ, List.getElem_cons_zero, Act.put, List.setIfInBounds_toArray, List.set_cons_zero, List.set_cons_succ]
      refine wpAny_one (i := 6) (by kernel_rfl) rfl (by rfl) (fun K hK => ?_)
      simp only [List.getElem_toArray, List.getElem_cons_succ, List.getElem_cons_zero, Act.put, List.setIfInBounds_toArray, List.set_cons_zero, List.set_cons_succ]
      go_simp
      refine hK.out _ _ ?_
      clear hK K
      refine wpAny_take (i := 7) (v := (.slice (some ⟨g, 15 + a, none⟩) (16 - a) (16 - a))) rfl (by kernel_rfl) (by kernel_rfl) (by kernel_rfl) (fun _ _ _ h => h) (Or.inl ⟨by rfl, fun _ => by go_simp; rw [HSA.out]; rfl⟩) ?_
      simp only [List.getElem_toArray, List.getElem_cons_succ, List.getElem_cons_zero, Act.put, List.setIfInBounds_toArray, List.set_cons_zero, List.set_cons_succ]
      refine wpAny_one (i := 9) (by kernel_rfl) rfl (by rfl) (fun K hK => ?_)
      simp only [List.getElem_toArray, List.getElem_cons_succ, List.getElem_cons_zero, Act.put, List.setIfInBounds_toArray, List.set_cons_zero, List.set_cons_succ]
      go_simp
      rw [HCP.out]
      go_simp
      refine hK.out _ _ ?_
      clear hK K
      refine wpAny_take (i := 10) (v := (.int .i64 (t : Int))) rfl (by kernel_rfl) (by kernel_rfl) (by kernel_rfl) (fun _ _ _ h => h) (Or.inl ⟨by rfl, fun _ => by go_simp⟩) ?_
      simp only [List.getElem_toArray, List.getElem_cons_succ, List.getElem_cons_zero, Act.put, List.setIfInBounds_toArray, List.set_cons_zero, List.set_cons_succ]
      refine wpAny_done (by kernel_rfl) ?_ _
      by_cases hfull : u = 16
      · have hq16 : ((u : Int) == 16) = true := by simp; omega
        have HF := Lib.hid hfull
        clear hfull
        go_wp2_with (refine wpList_slice_from rfl 22 _ _ rfl 5 Tryz.underlying22 u8_size A' (l.length - k) c' t .i64 _ rfl rfl rfl htl hcc hnn ?_; intro A2 HA2)
        rw [← HW3.out]
        obtain ⟨W4, hW4⟩ : ∃ W, W = W3.drew := ⟨_, rfl⟩
        have hbl4 := hbl3.drew
        have hg34 : W3.grownBy W4 (some g) := by rw [hW4]; exact but_drewN (but_refl W3 g) 1
        rw [← hW4] at hbl4
        have HW4 := Lib.hid hW4
        obtain ⟨S, hSd⟩ : ∃ S : World → Prop, S = fun w' => Bl w' g (adC R Sx x b2 u) 170 := ⟨_, rfl⟩
        have hS : S W4 := by rw [hSd]; exact hbl4
        have HSN : Hid (∀ w', Below W4.heap.size W4 w' → S w') := by unfold Hid; intro w' hb; rw [hSd]; exact hbl4.next hb
        have HS1 : Hid (∀ w', S w' → w'.rangeAt g 10 (wq x)) := by
          unfold Hid; intro w' h; rw [hSd] at h; have := Bl.range h 10 5; rwa [adC_x HR5.out HSL.out HXL.out HB2.out] at this
        have HS2 : Hid (∀ w', S w' → w'.rangeAt g 0 (wq R)) := by
          unfold Hid; intro w' h; rw [hSd] at h; have := Bl.range h 0 5; rwa [adC_r HR5.out HSL.out HXL.out HB2.out] at this
        have hsb : Sl W4 (g + 1) (some ⟨g, 15, none⟩) 16 (cb b2) := hbl4.sl (adC_b HR5.out HSL.out HXL.out HB2.out).symm (by rw [adC_len HR5.out HSL.out HXL.out HB2.out]; omega)
        have hgl := hbl4.lt
        clear hW4 hSd hcnt hcnt2 hcnt3 hfr2 hfr3 HSA
        refine wp_region_K 16 S (by kernel_rfl) (by rw [← HW4.out]; exact hS) (fun _ => ?_)
        rw [← HW4.out]
        refine wpAnyK_take0 (i := 0) (v := (.pointer (some ⟨g, 0, none⟩))) rfl (by kernel_rfl) (by kernel_rfl) (by kernel_rfl) (by kernel_rfl) (fun _ _ _ h => h) (Or.inl ⟨by rfl, fun _ => by go_simp⟩) hS ?_
        simp only [List.getElem_toArray, List.getElem_cons_succ, List.getElem_cons_zero, Act.put, List.setIfInBounds_toArray, List.set_cons_zero, List.set_cons_succ]
        refine wpAnyK_take0 (i := 1) (v := (.pointer (some ⟨g, 0, none⟩))) rfl (by kernel_rfl) (by kernel_rfl) (by kernel_rfl) (by kernel_rfl) (fun _ _ _ h => h) (Or.inl ⟨by rfl, fun _ => by go_simp⟩) hS ?_
        simp only [List.getElem_toArray, List.getElem_cons_succ, List.getElem_cons_zero, Act.put, List.setIfInBounds_toArray, List.set_cons_zero, List.set_cons_succ]
        refine wpAnyK_take0 (i := 2) (v := (.pointer (some ⟨g, 0, none⟩))) rfl (by kernel_rfl) (by kernel_rfl) (by kernel_rfl) (by kernel_rfl) (fun _ _ _ h => h) (Or.inl ⟨by rfl, fun _ => by go_simp⟩) hS ?_
        simp only [List.getElem_toArray, List.getElem_cons_succ, List.getElem_cons_zero, Act.put, List.setIfInBounds_toArray, List.set_cons_zero, List.set_cons_succ]
        refine wpAnyK_take0 (i := 3) (v := (.pointer (some ⟨g, 10, none⟩))) rfl (by kernel_rfl) (by kernel_rfl) (by kernel_rfl) (by kernel_rfl) (fun _ _ _ h => h) (Or.inl ⟨by rfl, fun _ => by go_simp⟩) hS ?_
        simp only [List.getElem_toArray, List.getElem_cons_succ, List.getElem_cons_zero, Act.put, List.setIfInBounds_toArray, List.set_cons_zero, List.set_cons_succ]
        refine wpAnyK_take0 (i := 5) (v := (.pointer (some ⟨g, 0, none⟩))) rfl (by kernel_rfl) (by kernel_rfl) (by kernel_rfl) (by kernel_rfl) (fun _ _ _ h => h) (Or.inl ⟨by rfl, fun _ => by go_simp⟩) hS ?_
        simp only [List.getElem_toArray, List.getElem_cons_succ, List.getElem_cons_zero, Act.put, List.setIfInBounds_toArray, List.set_cons_zero, List.set_cons_succ]
        refine wpAnyK_take0 (i := 6) (v := (.pointer (some ⟨g, 0, none⟩))) rfl (by kernel_rfl) (by kernel_rfl) (by kernel_rfl) (by kernel_rfl) (fun _ _ _ h => h) (Or.inl ⟨by rfl, fun _ => by go_simp⟩) hS ?_
        simp only [List.getElem_toArray, List.getElem_cons_succ, List.getElem_cons_zero, Act.put, List.setIfInBounds_toArray, List.set_cons_zero, List.set_cons_succ]
        refine wpAnyK_take0 (i := 7) (v := (.pointer (some ⟨g, 0, none⟩))) rfl (by kernel_rfl) (by kernel_rfl) (by kernel_rfl) (by kernel_rfl) (fun _ _ _ h => h) (Or.inl ⟨by rfl, fun _ => by go_simp⟩) hS ?_
        simp only [List.getElem_toArray, List.getElem_cons_succ, List.getElem_cons_zero, Act.put, List.setIfInBounds_toArray, List.set_cons_zero, List.set_cons_succ]
        refine wpAnyK_take0 (i := 9) (v := (.pointer (some ⟨g, 0, none⟩))) rfl (by kernel_rfl) (by kernel_rfl) (by kernel_rfl) (by kernel_rfl) (fun _ _ _ h => h) (Or.inl ⟨by rfl, fun _ => by go_simp⟩) hS ?_
        simp only [List.getElem_toArray, List.getElem_cons_succ, List.getElem_cons_zero, Act.put, List.setIfInBounds_toArray, List.set_cons_zero, List.set_cons_succ]
        refine wpAnyK_take0 (i := 10) (v := (.pointer (some ⟨g, 0, none⟩))) rfl (by kernel_rfl) (by kernel_rfl) (by kernel_rfl) (by kernel_rfl) (fun _ _ _ h => h) (Or.inl ⟨by rfl, fun _ => by go_simp⟩) hS ?_
        simp only [List.getElem_toArray, List.getElem_cons_succ, List.getElem_cons_zero, Act.put, List.setIfInBounds_toArray, List.set_cons_zero, List.set_cons_succ]
        refine wpAnyK_take0 (i := 11) (v := (.pointer (some ⟨g, 15, none⟩))) rfl (by kernel_rfl) (by kernel_rfl) (by kernel_rfl) (by kernel_rfl) (fun _ _ _ h => h) (Or.inl ⟨by rfl, fun _ => by go_simp⟩) hS ?_
        simp only [List.getElem_toArray, List.getElem_cons_succ, List.getElem_cons_zero, Act.put, List.setIfInBounds_toArray, List.set_cons_zero, List.set_cons_succ]
        refine wpAnyK_take0 (i := 12) (v := (.slice (some ⟨g, 15, none⟩) 16 16)) rfl (by kernel_rfl) (by kernel_rfl) (by kernel_rfl) (by kernel_rfl) (fun _ _ _ h => h) (Or.inl ⟨by rfl, fun _ => by go_simp⟩) hS ?_
        simp only [List.getElem_toArray, List.getElem_cons_succ, List.getElem_cons_zero, Act.put, List.setIfInBounds_toArray, List.set_cons_zero, List.set_cons_succ]
        refine wpAnyK_take (i := 4) (v := .agg (wq x).toArray) rfl (by kernel_rfl) (by kernel_rfl) (by kernel_rfl) (by kernel_rfl) (fun _ _ _ h => h) (yieldsIf_load_mid (by rfl) 163 _ rfl g 10 rfl (wq x) _ HS1.out Tryz.underlying163 rfl (by rw [size_num, wq_len, HXL.out])) hS ?_
        simp only [List.getElem_toArray, List.getElem_cons_succ, List.getElem_cons_zero, Act.put, List.setIfInBounds_toArray, List.set_cons_zero, List.set_cons_succ]
        refine wpAnyK_take (i := 8) (v := .agg (wq R).toArray) rfl (by kernel_rfl) (by kernel_rfl) (by kernel_rfl) (by kernel_rfl) (fun _ _ _ h => h) (yieldsIf_load_mid (by rfl) 163 _ rfl g 0 rfl (wq R) _ HS2.out Tryz.underlying163 rfl (by rw [size_num, wq_len, HR5.out])) hS ?_
        simp only [List.getElem_toArray, List.getElem_cons_succ, List.getElem_cons_zero, Act.put, List.setIfInBounds_toArray, List.set_cons_zero, List.set_cons_succ]
        refine wpAnyK_one (i := 13) (by kernel_rfl) rfl (by decide) (by rfl) (fun K hK => ?_)
        simp only [List.getElem_toArray, List.getElem_cons_succ, List.getElem_cons_zero, Act.put, List.setIfInBounds_toArray, List.set_cons_zero, List.set_cons_succ]
        go_simp
        refine (oafter_any x R b2 W4 _ _ 16 16 HV.out.lim HRL.out hsb (by omega) (by omega)).mono ?_
        rintro e w5 ⟨z, rfl, hz, hzv, hb5⟩
        replace hS := HSN.out _ hb5
        have hbl5 := hbl4.next hb5
        have hg35 : W3.grownBy w5 (some g) := but_trans hg34 (but_below hb5)
        refine hK.out _ _ hS ?_
        clear hK K hb5 hbl4 hg34
        rw [HRV.out] at hzv
        have HZL := Lib.hid hz.len
        have HFV : Hid (AdV key (m ++ l.take (k + t)) z b2) := by
          unfold Hid
          rw [← HQP.out]
          exact HV.out.full (by rw [← HA.out, HP.out, ← HU.out, HF.out]) (by rw [HBB.out, HA.out]) hz hzv
        have HLM : Hid ((m ++ l.take (k + t)).length % 16 = 0) := by
          unfold Hid
          have h1 := HU.out
          have h2 := HF.out
          have h3 := HA.out
          have h4 := HP.out
          rw [← HQP.out, List.length_append]
          omega
        clear hz hzv
        have hbl6 := Bl.sets g 170 (wq z) 10 _ _ hbl5 (by rw [wq_len, HZL.out, adC_len HR5.out HSL.out HXL.out HB2.out]; omega)
        rw [adC_over HR5.out HSL.out HXL.out HB2.out z HZL.out] at hbl6
        have hg36 := but_setCells hg35 10 (wq z)
        have hth : w5.there g 10 (wq z).toArray.size := hbl5.there_ (by rw [List.size_toArray, wq_len, HZL.out, adC_len HR5.out HSL.out HXL.out HB2.out]; omega)
        obtain ⟨W6, hW6⟩ : ∃ W, W = w5.setCells g 10 (wq z) := ⟨_, rfl⟩
        rw [← hW6] at hbl6 hg36
        have HW6 := Lib.hid hW6
        have hc6 : W6.cell? ⟨g, 31, none⟩ = some (.int .i64 (u : Int)) := by rw [hbl6.cell, adC_h HR5.out HSL.out HZL.out HB2.out]
        have hf6 := hbl6.frozen 31
        have hbl7 := hbl6.set 31 (.int .i64 (0 : Nat))
        rw [adC_set HR5.out HSL.out HZL.out HB2.out 0] at hbl7
        have hg37 := but_setCell hg36 31 (.int .i64 0)
        clear hW6 hbl5 hg35 hg36
        refine wpAnyK_take0 (i := 14) (v := (.pointer (some ⟨g, 0, none⟩))) rfl (by kernel_rfl) (by kernel_rfl) (by kernel_rfl) (by kernel_rfl) (fun _ _ _ h => h) (Or.inl ⟨by rfl, fun _ => by go_simp⟩) hS ?_
        simp only [List.getElem_toArray, List.getElem_cons_succ, List.getElem_cons_zero, Act.put, List.setIfInBounds_toArray, List.set_cons_zero, List.set_cons_succ]
        refine wpAnyK_take0 (i := 15) (v := (.pointer (some ⟨g, 10, none⟩))) rfl (by kernel_rfl) (by kernel_rfl) (by kernel_rfl) (by kernel_rfl) (fun _ _ _ h => h) (Or.inl ⟨by rfl, fun _ => by go_simp⟩) hS ?_
        simp only [List.getElem_toArray, List.getElem_cons_succ, List.getElem_cons_zero, Act.put, List.setIfInBounds_toArray, List.set_cons_zero, List.set_cons_succ]
        refine wpAnyK_K (by kernel_rfl) rfl (by rfl) (fun K hK => ?_)
        simp only [List.getElem_toArray, List.getElem_cons_succ, List.getElem_cons_zero, Act.put, List.setIfInBounds_toArray, List.set_cons_zero, List.set_cons_succ]
        refine wp_store_mid 163 _ _ rfl _ _ (wq z).toArray rfl rfl hth (by rw [size_num, List.size_toArray, wq_len, HZL.out]) (all_oneCell_toArray (wq_one _)) ?_
        refine hK.out _ _ ?_
        clear hK K hth
        refine wpAny_done (by kernel_rfl) ?_ _
        change Exit.then _ _ _ _ (World.setCells w5 g 10 (wq z))
        rw [← HW6.out]
        go_wp2
        go_roundw
        case rel =>
          refine addQ_next htl hk HA2.out hsl2 hBw2 hoff hcc hnn (but_trans hg23 hg37) (but_trans hgr3 hg37) ⟨z, b2, HFV.out, ?_⟩
          rw [HLM.out, ← HRR.out, ← HSS.out]
          exact hbl7
        case measure => simp [lenOf]; omega
      · have hq16 : ((u : Int) == 16) = false := by simp; omega
        have HF : Hid (u < 16) := (by unfold Hid; omega)
        clear hfull
        go_wp2_with (refine wpList_slice_from rfl 22 _ _ rfl 5 Tryz.underlying22 u8_size A' (l.length - k) c' t .i64 _ rfl rfl rfl htl hcc hnn ?_; intro A2 HA2)
        rw [← HW3.out]
        have HLM : Hid ((m ++ l.take (k + t)).length % 16 = u) := by
          unfold Hid
          have h1 := HU.out
          have h2 := HF.out
          have h3 := HA.out
          have h4 := HP.out
          rw [← HQP.out, List.length_append]
          omega
        have HFV : Hid (AdV key (m ++ l.take (k + t)) x b2) := by
          unfold Hid
          rw [← HQP.out, HBB.out, HA.out]
          exact HV.out.part (by rw [← HA.out, HP.out, ← HU.out]; exact HF.out)
        refine ⟨addQ_next htl hk HA2.out hsl2 hBw2 hoff hcc hnn hg23 hgr3 ⟨x, b2, HFV.out, ?_⟩, by simp [lenOf]; omega⟩
        rw [HLM.out, ← HRR.out, ← HSS.out]
        exact hbl3
    · have HK : Hid (k = l.length) := (by omega : k = l.length)
      have hz : l.length - k = 0 := by omega
      rw [hz]
      go_wp2
      go_end0
      refine ⟨rfl, ?_, hgr⟩
      rw [HK.out, List.take_length] at hst'
      exact hst'

end Go.Proofs.YtlnoopmblmkgkaaGreatDoor

namespace Go.Proofs.YtlnoopmblmkgkaaGreatDoor
set_option maxRecDepth 100000
open Go.RowKit
set_option linter.unusedVariables false
set_option linter.unusedSimpArgs false

theorem pk_last (r : Nat) (m : List UInt8) (h : m.length % 16 ≠ 0) : pk r m ((m.length + 15) / 16) = (pk r m (m.length / 16) + blkv (m.drop (16 * (m.length / 16)))) * r % pN := by
  rw [show (m.length + 15) / 16 = m.length / 16 + 1 by omega, pk, List.take_of_length_le (by rw [List.length_drop]; omega)]

set_option maxRecDepth 100000 in
set_option maxHeartbeats 2000000 in
theorem otag_any (g : Nat) (key m : List UInt8) (w : World) (hst : Ad w g key m) (hkey : key.length = 32) :
    Calls Tryz.prog 103 #[.pointer (some ⟨g, 0, none⟩)] w (RetBytes 5 w 16 (tagL key m)) := by
  obtain ⟨R, hR⟩ : ∃ R, R = limbs (rKy key) := ⟨_, rfl⟩
  have HRL : Hid (Lim 67108864 R) := by unfold Hid; rw [hR]; exact limbs_lim _
  have HRV : Hid (nv R = rKy key) := by unfold Hid; rw [hR]; exact limbs_nv _ (rK_lt key)
  obtain ⟨Sx, hSx⟩ : ∃ S, S = limbs (sK key) := ⟨_, rfl⟩
  have HSM : Hid (Lim 67108864 Sx) := by unfold Hid; rw [hSx]; exact limbs_lim _
  have HSV : Hid (nv Sx = sK key) := by unfold Hid; rw [hSx]; exact limbs_nv _ (Nat.lt_of_lt_of_le (sK_lt key hkey) (by omega))
  have HSL : Hid (Sx.length = 5) := HSM.out.len
  have HR5 : Hid (R.length = 5) := HRL.out.len
  obtain ⟨x, blk, hv, hbl⟩ := hst
  rw [← hR, ← hSx] at hbl
  obtain ⟨a, ha⟩ : ∃ a, a = m.length % 16 := ⟨_, rfl⟩
  rw [← ha] at hbl
  have ha16 : a < 16 := by rw [ha]; omega
  have HXL := Lib.hid hv.lim.len
  have HB16 := Lib.hid hv.len
  have HV := Lib.hid hv
  have HA := Lib.hid ha
  have hgl := hbl.lt
  have hx0 : w.rangeAt g 10 (wq x) := by have := hbl.range 10 5; rwa [adC_x HR5.out HSL.out HXL.out HB16.out] at this
  have HX0 := Lib.hid hx0
  obtain ⟨b1, hb1, hz1⟩ := put_new w (zeros .u64 5) (wq x) 163 (by rw [wq_len, HXL.out, zeros_len])
  obtain ⟨W1, hW1⟩ : ∃ W, W = (w.alloc (.cells (zeros .u64 5).toArray 163)).setCells w.heap.size 0 (wq x) := ⟨_, rfl⟩
  rw [← hW1] at b1 hb1 hz1
  have HW1 := Lib.hid hW1
  replace hbl := hbl.next hb1
  have hcnt : W1.cell? ⟨g, 31, none⟩ = some (.int .i64 (a : Int)) := by rw [hbl.cell, adC_h HR5.out HSL.out HXL.out HB16.out]
  clear hR hSx ha hv hx0 hW1 hz1 hkey
  by_cases h0 : a = 0
  · have HA0 := Lib.hid h0
    have q0 : ¬ (0 : Int) < (a : Int) := by omega
    clear h0
    obtain ⟨y, hy⟩ : ∃ y, y = x := ⟨_, rfl⟩
    have HYL : Hid (Lim 67108869 y) := by unfold Hid; rw [hy]; exact HV.out.lim
    have HYV : Hid (nv y % pN = pk (rKy key) m ((m.length + 15) / 16)) := by
      unfold Hid; rw [hy, HV.out.val]; have h1 := HA.out; have h2 := HA0.out; rw [show (m.length + 15) / 16 = m.length / 16 by omega]
    have hby : Bl W1 w.heap.size (wq y) 163 := by rw [hy]; exact b1
    clear hy b1
    go_enter Tryz.func103, Tryz.ntmps103
    go_wp2_with (first
      | (refine wpList_load_mid rfl 163 _ rfl _ _ rfl (wq x) _ HX0.out Tryz.underlying163 rfl (by rw [size_num, wq_len, HXL.out]) ?_)
      | (refine wpList_alloc_zero rfl 163 rfl (zeros .u64 5) zero_num ?_)
      | (refine wpList_store_mid rfl 163 _ _ rfl _ _ (wq x).toArray rfl rfl (Bl.there_ (Bl.new w (zeros .u64 5) 163) (by simp [zeros, wq_len, HXL.out])) (by rw [size_num, List.size_toArray, wq_len, HXL.out]) (all_oneCell_toArray (wq_one _)) ?_; change wpList _ _ _ _ _ (World.setCells (w.alloc (.cells (zeros .u64 5).toArray 163)) w.heap.size 0 (wq x)); rw [← HW1.out]))
    obtain ⟨W7, hW7⟩ : ∃ W, W = W1.drew := ⟨_, rfl⟩
    have hbl7 := hbl.drew
    have by7 := hby.drew
    have hb7 := hb1.drew
    rw [← hW7] at hbl7 by7 hb7
    have HW7 := Lib.hid hW7
    obtain ⟨S, hSd⟩ : ∃ S : World → Prop, S = fun w' => Bl w' g (adC R Sx x blk a) 170 ∧ Bl w' w.heap.size (wq y) 163 := ⟨_, rfl⟩
    have hS : S W7 := by rw [hSd]; exact ⟨hbl7, by7⟩
    have HSN : Hid (∀ w', Below W7.heap.size W7 w' → S w') := by unfold Hid; intro w' hb; rw [hSd]; exact ⟨hbl7.next hb, by7.next hb⟩
    have HS1 : Hid (∀ w', S w' → w'.rangeAt w.heap.size 0 (wq y)) := by unfold Hid; intro w' h; rw [hSd] at h; exact h.2.whole
    have HS2 : Hid (∀ w', S w' → w'.rangeAt g 5 (wq Sx)) := by
      unfold Hid; intro w' h; rw [hSd] at h; have := Bl.range h.1 5 5; rwa [adC_s HR5.out HSL.out HXL.out HB16.out] at this
    clear hW7 hSd hbl7 by7
    refine wp_region_held_drew (S := S) (by kernel_rfl) (by rw [← HW7.out]; exact hS) (fun _ => ?_)
    rw [← HW7.out]
    refine wpAnyH_take (i := 0) (v := .agg (wq y).toArray) rfl (by kernel_rfl) (by kernel_rfl) (by kernel_rfl) (fun _ _ _ h => h) (yieldsIf_load_mid (by rfl) 163 _ rfl w.heap.size 0 rfl (wq y) _ HS1.out Tryz.underlying163 rfl (by rw [size_num, wq_len, HYL.out.len])) hS ?_
    simp only [List.getElem_toArray, List.getElem_cons_succ, List.getElem_cons_zero, Act.put, List.setIfInBounds_toArray, List.set_cons_zero, List.set_cons_succ]
    refine wpAnyH_take (i := 2) (v := (.pointer (some ⟨g, 0, none⟩))) rfl (by kernel_rfl) (by kernel_rfl) (by kernel_rfl) (fun _ _ _ h => h) (Or.inl ⟨by rfl, fun _ hSw => by go_simp⟩) hS ?_
    simp only [List.getElem_toArray, List.getElem_cons_succ, List.getElem_cons_zero, Act.put, List.setIfInBounds_toArray, List.set_cons_zero, List.set_cons_succ]
    refine wpAnyH_take (i := 3) (v := (.pointer (some ⟨g, 0, none⟩))) rfl (by kernel_rfl) (by kernel_rfl) (by kernel_rfl) (fun _ _ _ h => h) (Or.inl ⟨by rfl, fun _ hSw => by go_simp⟩) hS ?_
    simp only [List.getElem_toArray, List.getElem_cons_succ, List.getElem_cons_zero, Act.put, List.setIfInBounds_toArray, List.set_cons_zero, List.set_cons_succ]
    refine wpAnyH_take (i := 4) (v := (.pointer (some ⟨g, 5, none⟩))) rfl (by kernel_rfl) (by kernel_rfl) (by kernel_rfl) (fun _ _ _ h => h) (Or.inl ⟨by rfl, fun _ hSw => by go_simp⟩) hS ?_
    simp only [List.getElem_toArray, List.getElem_cons_succ, List.getElem_cons_zero, Act.put, List.setIfInBounds_toArray, List.set_cons_zero, List.set_cons_succ]
    refine wpAnyH_take (i := 5) (v := .agg (wq Sx).toArray) rfl (by kernel_rfl) (by kernel_rfl) (by kernel_rfl) (fun _ _ _ h => h) (yieldsIf_load_mid (by rfl) 163 _ rfl g 5 rfl (wq Sx) _ HS2.out Tryz.underlying163 rfl (by rw [size_num, wq_len, HSL.out])) hS ?_
    simp only [List.getElem_toArray, List.getElem_cons_succ, List.getElem_cons_zero, Act.put, List.setIfInBounds_toArray, List.set_cons_zero, List.set_cons_succ]
    refine wpAnyH_ready (rs := [1]) (by kernel_rfl) (by simp) (AllReadyH.cons rfl (fun K hK => ?_) AllReadyH.nil)
    simp only [List.getElem_toArray, List.getElem_cons_succ, List.getElem_cons_zero, Act.put, List.setIfInBounds_toArray, List.set_cons_zero, List.set_cons_succ]
    go_simp
    refine (reduced_any y W7 HYL.out).mono ?_
    rintro e w8 ⟨z, rfl, hz, hzv, hb8⟩
    have HZ := Lib.hid hz
    have HZV : Hid (nv z = pk (rKy key) m ((m.length + 15) / 16)) := by unfold Hid; rw [hzv, HYV.out]
    replace hS := HSN.out _ hb8
    replace hb7 := next hb7 hb8
    refine hK.out _ _ hS (fun _ => ?_)
    clear hK K hz hzv
    refine wpAnyH_ready (rs := [6]) (by kernel_rfl) (by simp) (AllReadyH.cons rfl (fun K hK => ?_) AllReadyH.nil)
    simp only [List.getElem_toArray, List.getElem_cons_succ, List.getElem_cons_zero, Act.put, List.setIfInBounds_toArray, List.set_cons_zero, List.set_cons_succ]
    go_simp
    refine (plus_any z Sx w8 (HZ.out.up (by omega)) (HSM.out.up (by omega))).mono ?_
    rintro e w9 ⟨rfl, hb9⟩
    replace hS := HSN.out _ (next hb8 hb9)
    replace hb7 := next hb7 hb9
    refine hK.out _ _ hS (fun _ => ?_)
    clear hK K
    obtain ⟨T, hT⟩ : ∃ T, T = List.zipWith (· + ·) z Sx := ⟨_, rfl⟩
    rw [← hT]
    have HTL : Hid (Lim 4611686018427387904 T) := by unfold Hid; rw [hT]; exact (addL_lim HZ.out HSM.out).up (by omega)
    have HTV : Hid (le (nv T) 16 = tagL key m) := by unfold Hid; rw [hT, addL_nv HZ.out HSM.out, HZV.out, HSV.out]; rfl
    clear hT
    refine wpAnyH_ready (rs := [7]) (by kernel_rfl) (by simp) (AllReadyH.cons rfl (fun K hK => ?_) AllReadyH.nil)
    simp only [List.getElem_toArray, List.getElem_cons_succ, List.getElem_cons_zero, Act.put, List.setIfInBounds_toArray, List.set_cons_zero, List.set_cons_succ]
    go_simp
    refine (bytesOf_any T w9 HTL.out).mono ?_
    rintro e w10 ⟨A10, c10, rfl, hnew⟩
    replace hS := HSN.out _ (next (next hb8 hb9) hnew.below)
    rw [HTV.out] at hnew
    replace hnew := hnew.down hb7
    refine hK.out _ _ hS (fun _ => ?_)
    clear hK K
    refine wpAnyH_take (i := 8) (v := (.slice A10 16 c10)) rfl (by kernel_rfl) (by kernel_rfl) (by kernel_rfl) (fun _ _ _ h => h) (Or.inl ⟨by rfl, fun _ hSw => by go_simp⟩) hS ?_
    simp only [List.getElem_toArray, List.getElem_cons_succ, List.getElem_cons_zero, Act.put, List.setIfInBounds_toArray, List.set_cons_zero, List.set_cons_succ]
    refine wpAnyH_done (by kernel_rfl) ?_ _
    go_wp2
    go_ret
    exact ⟨A10, c10, rfl, hnew⟩
  · have HA0 := Lib.hid h0
    have q0 : (0 : Int) < (a : Int) := by omega
    clear h0
    obtain ⟨W2, hW2⟩ : ∃ W, W = W1.drew := ⟨_, rfl⟩
    have hbl2 := hbl.drew
    have b12 := b1.drew
    have hb2 := hb1.drew
    rw [← hW2] at hbl2 b12 hb2
    have HW2 := Lib.hid hW2
    obtain ⟨p, hp⟩ : ∃ p, p = blk.take a := ⟨_, rfl⟩
    have HPL : Hid (p.length = a) := by unfold Hid; rw [hp, List.length_take, HB16.out]; omega
    have HPM : Hid (p = m.drop (16 * (m.length / 16))) := by unfold Hid; rw [hp, HA.out, HV.out.rest]
    have hsb : Sl W2 (g + 1) (some ⟨g, 15, none⟩) a (cb p) := by
      have h1 : Sl W2 (g + 1) (some ⟨g, 15, none⟩) 16 (cb blk) := hbl2.sl (adC_b HR5.out HSL.out HXL.out HB16.out).symm (by rw [adC_len HR5.out HSL.out HXL.out HB16.out]; omega)
      have h2 := sl_take (h := a) h1 (by omega)
      rw [show (cb blk).take a = cb (blk.take a) by simp [cb], ← hp] at h2
      exact h2
    have hgl2 := hbl2.lt
    obtain ⟨S0, hS0d⟩ : ∃ S : World → Prop, S = fun w' => Bl w' g (adC R Sx x blk a) 170 ∧ Bl w' w.heap.size (wq x) 163 := ⟨_, rfl⟩
    have hS : S0 W2 := by rw [hS0d]; exact ⟨hbl2, b12⟩
    have HSN0 : Hid (∀ w', Below W2.heap.size W2 w' → S0 w') := by unfold Hid; intro w' hb; rw [hS0d]; exact ⟨hbl2.next hb, b12.next hb⟩
    have HS01 : Hid (∀ w', S0 w' → w'.rangeAt w.heap.size 0 (wq x)) := by unfold Hid; intro w' h; rw [hS0d] at h; exact h.2.whole
    have HS02 : Hid (∀ w', S0 w' → w'.rangeAt g 0 (wq R)) := by
      unfold Hid; intro w' h; rw [hS0d] at h; have := Bl.range h.1 0 5; rwa [adC_r HR5.out HSL.out HXL.out HB16.out] at this
    have HS03 : Hid (∀ w', S0 w' → w'.cell? ⟨g, 31, none⟩ = some (.int .i64 (a : Int))) := by
      unfold Hid; intro w' h; rw [hS0d] at h; rw [Bl.cell h.1, adC_h HR5.out HSL.out HXL.out HB16.out]
    have hsa := run_slice_arr_to (P := Tryz.prog) (t := 168) (e := 5) (g := g) (o := 15) (n := 16) (ht := Tryz.underlying168) (he := u8_size) (kh := .i64) (H := (a : Int)) (h := a) (eH := rfl) (h2 := by omega) (_h3 := by omega)
    have HSA := Lib.hid hsa
    clear hW2 hp hS0d hsa
    go_enter Tryz.func103, Tryz.ntmps103
    go_wp2_with (first
      | (refine wpList_load_mid rfl 163 _ rfl _ _ rfl (wq x) _ HX0.out Tryz.underlying163 rfl (by rw [size_num, wq_len, HXL.out]) ?_)
      | (refine wpList_alloc_zero rfl 163 rfl (zeros .u64 5) zero_num ?_)
      | (refine wpList_store_mid rfl 163 _ _ rfl _ _ (wq x).toArray rfl rfl (Bl.there_ (Bl.new w (zeros .u64 5) 163) (by simp [zeros, wq_len, HXL.out])) (by rw [size_num, List.size_toArray, wq_len, HXL.out]) (all_oneCell_toArray (wq_one _)) ?_; change wpList _ _ _ _ _ (World.setCells (w.alloc (.cells (zeros .u64 5).toArray 163)) w.heap.size 0 (wq x)); rw [← HW1.out]))
    refine wp_region_K 14 S0 (by kernel_rfl) (by rw [← HW2.out]; exact hS) (fun _ => ?_)
    rw [← HW2.out]
    refine wpAnyK_take (i := 0) (v := .agg (wq x).toArray) rfl (by kernel_rfl) (by kernel_rfl) (by kernel_rfl) (by kernel_rfl) (fun _ _ _ h => h) (yieldsIf_load_mid (by rfl) 163 _ rfl w.heap.size 0 rfl (wq x) _ HS01.out Tryz.underlying163 rfl (by rw [size_num, wq_len, HXL.out])) hS ?_
    simp only [List.getElem_toArray, List.getElem_cons_succ, List.getElem_cons_zero, Act.put, List.setIfInBounds_toArray, List.set_cons_zero, List.set_cons_succ]
    refine wpAnyK_take0 (i := 1) (v := (.pointer (some ⟨g, 0, none⟩))) rfl (by kernel_rfl) (by kernel_rfl) (by kernel_rfl) (by kernel_rfl) (fun _ _ _ h => h) (Or.inl ⟨by rfl, fun _ => by go_simp⟩) hS ?_
    simp only [List.getElem_toArray, List.getElem_cons_succ, List.getElem_cons_zero, Act.put, List.setIfInBounds_toArray, List.set_cons_zero, List.set_cons_succ]
    refine wpAnyK_take0 (i := 2) (v := (.pointer (some ⟨g, 0, none⟩))) rfl (by kernel_rfl) (by kernel_rfl) (by kernel_rfl) (by kernel_rfl) (fun _ _ _ h => h) (Or.inl ⟨by rfl, fun _ => by go_simp⟩) hS ?_
    simp only [List.getElem_toArray, List.getElem_cons_succ, List.getElem_cons_zero, Act.put, List.setIfInBounds_toArray, List.set_cons_zero, List.set_cons_succ]
    refine wpAnyK_take0 (i := 3) (v := (.pointer (some ⟨g, 0, none⟩))) rfl (by kernel_rfl) (by kernel_rfl) (by kernel_rfl) (by kernel_rfl) (fun _ _ _ h => h) (Or.inl ⟨by rfl, fun _ => by go_simp⟩) hS ?_
    simp only [List.getElem_toArray, List.getElem_cons_succ, List.getElem_cons_zero, Act.put, List.setIfInBounds_toArray, List.set_cons_zero, List.set_cons_succ]
    refine wpAnyK_take0 (i := 5) (v := (.pointer (some ⟨g, 0, none⟩))) rfl (by kernel_rfl) (by kernel_rfl) (by kernel_rfl) (by kernel_rfl) (fun _ _ _ h => h) (Or.inl ⟨by rfl, fun _ => by go_simp⟩) hS ?_
    simp only [List.getElem_toArray, List.getElem_cons_succ, List.getElem_cons_zero, Act.put, List.setIfInBounds_toArray, List.set_cons_zero, List.set_cons_succ]
    refine wpAnyK_take0 (i := 6) (v := (.pointer (some ⟨g, 0, none⟩))) rfl (by kernel_rfl) (by kernel_rfl) (by kernel_rfl) (by kernel_rfl) (fun _ _ _ h => h) (Or.inl ⟨by rfl, fun _ => by go_simp⟩) hS ?_
    simp only [List.getElem_toArray, List.getElem_cons_succ, List.getElem_cons_zero, Act.put, List.setIfInBounds_toArray, List.set_cons_zero, List.set_cons_succ]
    refine wpAnyK_take0 (i := 7) (v := (.pointer (some ⟨g, 15, none⟩))) rfl (by kernel_rfl) (by kernel_rfl) (by kernel_rfl) (by kernel_rfl) (fun _ _ _ h => h) (Or.inl ⟨by rfl, fun _ => by go_simp⟩) hS ?_
    simp only [List.getElem_toArray, List.getElem_cons_succ, List.getElem_cons_zero, Act.put, List.setIfInBounds_toArray, List.set_cons_zero, List.set_cons_succ]
    refine wpAnyK_take0 (i := 8) (v := (.pointer (some ⟨g, 0, none⟩))) rfl (by kernel_rfl) (by kernel_rfl) (by kernel_rfl) (by kernel_rfl) (fun _ _ _ h => h) (Or.inl ⟨by rfl, fun _ => by go_simp⟩) hS ?_
    simp only [List.getElem_toArray, List.getElem_cons_succ, List.getElem_cons_zero, Act.put, List.setIfInBounds_toArray, List.set_cons_zero, List.set_cons_succ]
    refine wpAnyK_take0 (i := 9) (v := (.pointer (some ⟨g, 0, none⟩))) rfl (by kernel_rfl) (by kernel_rfl) (by kernel_rfl) (by kernel_rfl) (fun _ _ _ h => h) (Or.inl ⟨by rfl, fun _ => by go_simp⟩) hS ?_
    simp only [List.getElem_toArray, List.getElem_cons_succ, List.getElem_cons_zero, Act.put, List.setIfInBounds_toArray, List.set_cons_zero, List.set_cons_succ]
    refine wpAnyK_take0 (i := 10) (v := (.pointer (some ⟨g, 31, none⟩))) rfl (by kernel_rfl) (by kernel_rfl) (by kernel_rfl) (by kernel_rfl) (fun _ _ _ h => h) (Or.inl ⟨by rfl, fun _ => by go_simp⟩) hS ?_
    simp only [List.getElem_toArray, List.getElem_cons_succ, List.getElem_cons_zero, Act.put, List.setIfInBounds_toArray, List.set_cons_zero, List.set_cons_succ]
    refine wpAnyK_take (i := 4) (v := .agg (wq R).toArray) rfl (by kernel_rfl) (by kernel_rfl) (by kernel_rfl) (by kernel_rfl) (fun _ _ _ h => h) (yieldsIf_load_mid (by rfl) 163 _ rfl g 0 rfl (wq R) _ HS02.out Tryz.underlying163 rfl (by rw [size_num, wq_len, HR5.out])) hS ?_
    simp only [List.getElem_toArray, List.getElem_cons_succ, List.getElem_cons_zero, Act.put, List.setIfInBounds_toArray, List.set_cons_zero, List.set_cons_succ]
    refine wpAnyK_take (i := 11) (v := (.int .i64 (a : Int))) rfl (by kernel_rfl) (by kernel_rfl) (by kernel_rfl) (by kernel_rfl) (fun _ _ _ h => h) (Or.inl ⟨by rfl, fun w9 hw9 => by have hq9 := HS03.out w9 hw9; go_simp⟩) hS ?_
    simp only [List.getElem_toArray, List.getElem_cons_succ, List.getElem_cons_zero, Act.put, List.setIfInBounds_toArray, List.set_cons_zero, List.set_cons_succ]
    refine wpAnyK_take0 (i := 12) (v := (.slice (some ⟨g, 15, none⟩) a 16)) rfl (by kernel_rfl) (by kernel_rfl) (by kernel_rfl) (by kernel_rfl) (fun _ _ _ h => h) (Or.inl ⟨by rfl, fun _ => by go_simp; rw [HSA.out]; rfl⟩) hS ?_
    simp only [List.getElem_toArray, List.getElem_cons_succ, List.getElem_cons_zero, Act.put, List.setIfInBounds_toArray, List.set_cons_zero, List.set_cons_succ]
    refine wpAnyK_one (i := 13) (by kernel_rfl) rfl (by decide) (by rfl) (fun K hK => ?_)
    simp only [List.getElem_toArray, List.getElem_cons_succ, List.getElem_cons_zero, Act.put, List.setIfInBounds_toArray, List.set_cons_zero, List.set_cons_succ]
    go_simp
    refine (oafter_any x R p W2 _ _ a 16 HV.out.lim HRL.out hsb (by omega) (by omega)).mono ?_
    rintro e w3 ⟨y, rfl, hy, hyv, hb3⟩
    have HYL := Lib.hid hy
    have HYV : Hid (nv y % pN = pk (rKy key) m ((m.length + 15) / 16)) := by
      unfold Hid
      have h1 := HA.out
      have h2 := HA0.out
      rw [hyv, mod_step, HV.out.val, HRV.out, pk_last _ _ (by omega), HPM.out]
      rfl
    replace hS := HSN0.out _ hb3
    replace hbl2 := hbl2.next hb3
    replace b12 := b12.next hb3
    replace hb2 := next hb2 hb3
    refine hK.out _ _ hS ?_
    clear hK K hy hyv hb3
    have b13 := b12.over (vs := wq y) (by rw [wq_len, wq_len, HYL.out.len, HXL.out])
    have hbl3 := hbl2.sets_other (g := w.heap.size) (by omega) 0 (wq y)
    have hb3 := below_setCells hb2 (Nat.le_refl _) 0 (wq y)
    have hth : w3.there w.heap.size 0 (wq y).toArray.size := b12.there_ (by rw [List.size_toArray, wq_len, wq_len, HYL.out.len, HXL.out]; omega)
    obtain ⟨W4, hW4⟩ : ∃ W, W = w3.setCells w.heap.size 0 (wq y) := ⟨_, rfl⟩
    rw [← hW4] at b13 hbl3 hb3
    have HW4 := Lib.hid hW4
    refine wpAnyK_K (by kernel_rfl) rfl (by rfl) (fun K hK => ?_)
    simp only [List.getElem_toArray, List.getElem_cons_succ, List.getElem_cons_zero, Act.put, List.setIfInBounds_toArray, List.set_cons_zero, List.set_cons_succ]
    refine wp_store_mid 163 _ _ rfl _ _ (wq y).toArray rfl rfl hth (by rw [size_num, List.size_toArray, wq_len, HYL.out.len]) (all_oneCell_toArray (wq_one _)) ?_
    refine hK.out _ _ ?_
    clear hK K hth hS hW4 b12 hbl2 hb2 hsb hbl b1
    refine wpAny_done (by kernel_rfl) ?_ _
    change Exit.then _ _ _ _ (World.setCells w3 w.heap.size 0 (wq y))
    rw [← HW4.out]
    clear HS01 HS02 HS03 HSN0
    go_wp2_with fail
    obtain ⟨W7, hW7⟩ : ∃ W, W = W4.drew := ⟨_, rfl⟩
    have hbl7 := hbl3.drew
    have by7 := b13.drew
    have hb7 := hb3.drew
    rw [← hW7] at hbl7 by7 hb7
    have HW7 := Lib.hid hW7
    obtain ⟨S, hSd⟩ : ∃ S : World → Prop, S = fun w' => Bl w' g (adC R Sx x blk a) 170 ∧ Bl w' w.heap.size (wq y) 163 := ⟨_, rfl⟩
    have hS : S W7 := by rw [hSd]; exact ⟨hbl7, by7⟩
    have HSN : Hid (∀ w', Below W7.heap.size W7 w' → S w') := by unfold Hid; intro w' hb; rw [hSd]; exact ⟨hbl7.next hb, by7.next hb⟩
    have HS1 : Hid (∀ w', S w' → w'.rangeAt w.heap.size 0 (wq y)) := by unfold Hid; intro w' h; rw [hSd] at h; exact h.2.whole
    have HS2 : Hid (∀ w', S w' → w'.rangeAt g 5 (wq Sx)) := by
      unfold Hid; intro w' h; rw [hSd] at h; have := Bl.range h.1 5 5; rwa [adC_s HR5.out HSL.out HXL.out HB16.out] at this
    clear hW7 hSd hbl7 by7
    refine wp_region_held_drew (S := S) (by kernel_rfl) (by rw [← HW7.out]; exact hS) (fun _ => ?_)
    rw [← HW7.out]
    refine wpAnyH_take (i := 0) (v := .agg (wq y).toArray) rfl (by kernel_rfl) (by kernel_rfl) (by kernel_rfl) (fun _ _ _ h => h) (yieldsIf_load_mid (by rfl) 163 _ rfl w.heap.size 0 rfl (wq y) _ HS1.out Tryz.underlying163 rfl (by rw [size_num, wq_len, HYL.out.len])) hS ?_
    simp only [List.getElem_toArray, List.getElem_cons_succ, List.getElem_cons_zero, Act.put, List.setIfInBounds_toArray, List.set_cons_zero, List.set_cons_succ]
    refine wpAnyH_take (i := 2) (v := (.pointer (some ⟨g, 0, none⟩))) rfl (by kernel_rfl) (by kernel_rfl) (by kernel_rfl) (fun _ _ _ h => h) (Or.inl ⟨by rfl, fun _ hSw => by go_simp⟩) hS ?_
    simp only [List.getElem_toArray, List.getElem_cons_succ, List.getElem_cons_zero, Act.put, List.setIfInBounds_toArray, List.set_cons_zero, List.set_cons_succ]
    refine wpAnyH_take (i := 3) (v := (.pointer (some ⟨g, 0, none⟩))) rfl (by kernel_rfl) (by kernel_rfl) (by kernel_rfl) (fun _ _ _ h => h) (Or.inl ⟨by rfl, fun _ hSw => by go_simp⟩) hS ?_
    simp only [List.getElem_toArray, List.getElem_cons_succ, List.getElem_cons_zero, Act.put, List.setIfInBounds_toArray, List.set_cons_zero, List.set_cons_succ]
    refine wpAnyH_take (i := 4) (v := (.pointer (some ⟨g, 5, none⟩))) rfl (by kernel_rfl) (by kernel_rfl) (by kernel_rfl) (fun _ _ _ h => h) (Or.inl ⟨by rfl, fun _ hSw => by go_simp⟩) hS ?_
    simp only [List.getElem_toArray, List.getElem_cons_succ, List.getElem_cons_zero, Act.put, List.setIfInBounds_toArray, List.set_cons_zero, List.set_cons_succ]
    refine wpAnyH_take (i := 5) (v := .agg (wq Sx).toArray) rfl (by kernel_rfl) (by kernel_rfl) (by kernel_rfl) (fun _ _ _ h => h) (yieldsIf_load_mid (by rfl) 163 _ rfl g 5 rfl (wq Sx) _ HS2.out Tryz.underlying163 rfl (by rw [size_num, wq_len, HSL.out])) hS ?_
    simp only [List.getElem_toArray, List.getElem_cons_succ, List.getElem_cons_zero, Act.put, List.setIfInBounds_toArray, List.set_cons_zero, List.set_cons_succ]
    refine wpAnyH_ready (rs := [1]) (by kernel_rfl) (by simp) (AllReadyH.cons rfl (fun K hK => ?_) AllReadyH.nil)
    simp only [List.getElem_toArray, List.getElem_cons_succ, List.getElem_cons_zero, Act.put, List.setIfInBounds_toArray, List.set_cons_zero, List.set_cons_succ]
    go_simp
    refine (reduced_any y W7 HYL.out).mono ?_
    rintro e w8 ⟨z, rfl, hz, hzv, hb8⟩
    have HZ := Lib.hid hz
    have HZV : Hid (nv z = pk (rKy key) m ((m.length + 15) / 16)) := by unfold Hid; rw [hzv, HYV.out]
    replace hS := HSN.out _ hb8
    replace hb7 := next hb7 hb8
    refine hK.out _ _ hS (fun _ => ?_)
    clear hK K hz hzv
    refine wpAnyH_ready (rs := [6]) (by kernel_rfl) (by simp) (AllReadyH.cons rfl (fun K hK => ?_) AllReadyH.nil)
    simp only [List.getElem_toArray, List.getElem_cons_succ, List.getElem_cons_zero, Act.put, List.setIfInBounds_toArray, List.set_cons_zero, List.set_cons_succ]
    go_simp
    refine (plus_any z Sx w8 (HZ.out.up (by omega)) (HSM.out.up (by omega))).mono ?_
    rintro e w9 ⟨rfl, hb9⟩
    replace hS := HSN.out _ (next hb8 hb9)
    replace hb7 := next hb7 hb9
    refine hK.out _ _ hS (fun _ => ?_)
    clear hK K
    obtain ⟨T, hT⟩ : ∃ T, T = List.zipWith (· + ·) z Sx := ⟨_, rfl⟩
    rw [← hT]
    have HTL : Hid (Lim 4611686018427387904 T) := by unfold Hid; rw [hT]; exact (addL_lim HZ.out HSM.out).up (by omega)
    have HTV : Hid (le (nv T) 16 = tagL key m) := by unfold Hid; rw [hT, addL_nv HZ.out HSM.out, HZV.out, HSV.out]; rfl
    clear hT
    refine wpAnyH_ready (rs := [7]) (by kernel_rfl) (by simp) (AllReadyH.cons rfl (fun K hK => ?_) AllReadyH.nil)
    simp only [List.getElem_toArray, List.getElem_cons_succ, List.getElem_cons_zero, Act.put, List.setIfInBounds_toArray, List.set_cons_zero, List.set_cons_succ]
    go_simp
    refine (bytesOf_any T w9 HTL.out).mono ?_
    rintro e w10 ⟨A10, c10, rfl, hnew⟩
    replace hS := HSN.out _ (next (next hb8 hb9) hnew.below)
    rw [HTV.out] at hnew
    replace hnew := hnew.down hb7
    refine hK.out _ _ hS (fun _ => ?_)
    clear hK K
    refine wpAnyH_take (i := 8) (v := (.slice A10 16 c10)) rfl (by kernel_rfl) (by kernel_rfl) (by kernel_rfl) (fun _ _ _ h => h) (Or.inl ⟨by rfl, fun _ hSw => by go_simp⟩) hS ?_
    simp only [List.getElem_toArray, List.getElem_cons_succ, List.getElem_cons_zero, Act.put, List.setIfInBounds_toArray, List.set_cons_zero, List.set_cons_succ]
    refine wpAnyH_done (by kernel_rfl) ?_ _
    go_wp2
    go_ret
    exact ⟨A10, c10, rfl, hnew⟩

end Go.Proofs.YtlnoopmblmkgkaaGreatDoor

namespace Go.Proofs.YtlnoopmblmkgkaaGreatDoor
set_option maxRecDepth 100000
open Go.RowKit
set_option linter.unusedVariables false
set_option linter.unusedSimpArgs false

theorem newSl_of {E : TypeId} {w w1 w' : World} {n : Nat} {l : List UInt8} {A : Option Addr} {c : Nat} (h : NewBytes E w1 n l A c w') (hb : Below w.heap.size w w1) (hl : l.length = n) : NewSl w n l A c w' :=
  ⟨h.sl, hl.symm, own_cap h.own, h.none_, fun ad e => Nat.le_trans hb.size (own_new (w' := w') h.own ad e), next hb h.below⟩

theorem onadd_any (w : World) (A : Option Addr) (n c : Nat) : Calls Tryz.prog 100 #[.pointer none, .slice A n c] w fun e w' => e = .returned (.tuple #[]) ∧ w = w' := by
  go_enter Tryz.func100, Tryz.ntmps100
  go_wp2
  exact bodyPost_ret (results_none rfl _ _ _) rfl ⟨rfl, rfl⟩

theorem ontag_any (w : World) : Calls Tryz.prog 103 #[.pointer none] w fun e w' => e = .returned (.slice none 0 0) ∧ w = w' := by
  go_enter Tryz.func103, Tryz.ntmps103
  go_wp2
  go_ret
  exact ⟨rfl, rfl⟩

/-- The key of awake. -/
def awK : List UInt8 := (List.replicate 32 0).set 16 7
theorem awK_tag : tagR awK [] = 7 :: List.replicate 15 0 := by
  unfold tagR
  rw [if_pos (by rfl)]
  unfold tagL pk sK
  rw [show lv (awK.drop 16) = 7 by decide]
  decide

theorem made_block {w w1 : World} {n : Nat} (hn : n ≤ maxLen) (hown : w1.ownsRow w.heap.size 5 1 (.slice (some ⟨w.heap.size, 0, none⟩) n n) n (madeCells (Value.int .u8 0).cells n).toList) (hgrow : w.grownBy w1 none) :
    Bl w1 w.heap.size (cb (List.replicate n 0)) 5 ∧ Below w.heap.size w w1 := by
  refine ⟨?_, (Below.refl w.heap.size w).grown hgrow (Nat.le_refl _) (by simp)⟩
  have hown1 : w1.ownsRow w.heap.size 5 1 (.slice (some ⟨w.heap.size, 0, none⟩) n n) n (cb (List.replicate n 0)) := by
    rw [cb_zeros]
    have := toList_madeCells_one (.int .u8 0) n
    simpa [Value.cells, this] using hown
  exact block_of_own hown1

theorem made_cell {w1 : World} {g n : Nat} (b1 : Bl w1 g (cb (List.replicate n 0)) 5) (k : Nat) (hk : k < n) : (∃ u, w1.cell? ⟨g, k, none⟩ = some u) ∧ w1.frozen? ⟨g, k, none⟩ = false :=
  ⟨⟨_, by rw [b1.cell, List.getElem?_eq_getElem (by rw [cb_len]; simp; exact hk)]⟩, b1.frozen k⟩

end Go.Proofs.YtlnoopmblmkgkaaGreatDoor
