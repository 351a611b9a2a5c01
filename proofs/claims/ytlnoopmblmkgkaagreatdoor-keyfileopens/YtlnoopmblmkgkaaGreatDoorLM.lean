/- HMAC with SHA-256, on lists of bytes. No program is named here. -/
import Derived.Test.YtlnoopmblmkgkaaGreatDoorLD
import Derived.Test.YtlnoopmblmkgkaaGreatDoorLV
namespace Go.Proofs.YtlnoopmblmkgkaaGreatDoor
set_option maxRecDepth 100000
open Go.RowKit

/-- The key, or its sum where it has more than 64 bytes. -/
def kshort (key : List UInt8) : List UInt8 := if 64 < key.length then sha key else key
/-- The block of a key. -/
def kblk (key : List UInt8) : List UInt8 := kshort key ++ List.replicate (64 - (kshort key).length) 0
/-- A block, exclusive-ored. -/
def kx (p : UInt8) (b : List UInt8) : List UInt8 := b.map (· ^^^ p)
def hmac (key m : List UInt8) : List UInt8 := sha (kx 92 (kblk key) ++ sha (kx 54 (kblk key) ++ m))
theorem kshort_len (key : List UInt8) : (kshort key).length ≤ 64 := by
  unfold kshort
  split
  · rw [sha_len]; omega
  · omega
theorem kshort_long {key : List UInt8} (h : 64 < key.length) : kshort key = sha key := by unfold kshort; rw [if_pos h]
theorem kshort_low {key : List UInt8} (h : ¬ 64 < key.length) : kshort key = key := by unfold kshort; rw [if_neg h]
theorem kblk_len (key : List UInt8) : (kblk key).length = 64 := by
  have := kshort_len key
  unfold kblk; rw [List.length_append, List.length_replicate]; omega
theorem kx_len (p : UInt8) (b : List UInt8) : (kx p b).length = b.length := by simp [kx]
theorem hmac_len (key m : List UInt8) : (hmac key m).length = 32 := sha_len _
theorem kblk_sha {key : List UInt8} (h : 64 < key.length) : kblk (sha key) = kblk key := by
  unfold kblk
  rw [kshort_long h, kshort_low (by rw [sha_len]; omega)]
theorem kblk_zeros {key : List UInt8} (h : ¬ 64 < key.length) : kblk (key ++ List.replicate (64 - key.length) 0) = kblk key := by
  unfold kblk
  have hl : (key ++ List.replicate (64 - key.length) (0 : UInt8)).length = 64 := by rw [List.length_append, List.length_replicate]; omega
  rw [kshort_low h, kshort_low (by rw [hl]; omega), hl]
  simp
theorem hmac_sha {key : List UInt8} (h : 64 < key.length) (m : List UInt8) : hmac (sha key) m = hmac key m := by unfold hmac; rw [kblk_sha h]
theorem hmac_zeros {key : List UInt8} (h : ¬ 64 < key.length) (m : List UInt8) : hmac (key ++ List.replicate (64 - key.length) 0) m = hmac key m := by unfold hmac; rw [kblk_zeros h]
/-- The byte at place j of a key's block. -/
theorem kblk_at (key : List UInt8) (j : Nat) (h : j < 64) : (kblk key)[j]? = some (if h : j < (kshort key).length then (kshort key)[j] else 0) := by
  unfold kblk
  split
  · rename_i h1
    rw [List.getElem?_append_left h1, List.getElem?_eq_getElem h1]
  · rename_i h1
    rw [List.getElem?_append_right (by omega), List.getElem?_replicate, if_pos (by omega)]
theorem kx_at (p : UInt8) (b : List UInt8) (j : Nat) : (kx p b)[j]? = b[j]?.map (· ^^^ p) := by simp [kx]
theorem kx_take (p : UInt8) (b : List UInt8) (k : Nat) (h : k < b.length) : kx p (b.take (k + 1)) = kx p (b.take k) ++ [b[k] ^^^ p] := by
  unfold kx
  rw [List.take_succ_eq_append_getElem h, List.map_append]
  rfl

def foxB : List UInt8 := [84, 104, 101, 32, 113, 117, 105, 99, 107, 32, 98, 114, 111, 119, 110, 32, 102, 111, 120, 32, 106, 117, 109, 112, 115, 32, 111, 118, 101, 114, 32, 116, 104, 101, 32, 108, 97, 122, 121, 32, 100, 111, 103]
/-- The chapter's example, by the kernel. -/
theorem hmac_fox : (hmac [107, 101, 121] foxB)[0]? = some 247 ∧ (hmac [107, 101, 121] foxB)[1]? = some 188 ∧ (hmac [107, 101, 121] foxB)[31]? = some 216 := by decide +kernel

end Go.Proofs.YtlnoopmblmkgkaaGreatDoor

namespace Go.Proofs.YtlnoopmblmkgkaaGreatDoor
set_option maxRecDepth 100000
open Go.RowKit
set_option linter.unusedVariables false
set_option linter.unusedSimpArgs false

/-- The cells of a State that has been added just the bytes m. -/
def StC (m : List UInt8) (C : List Value) : Prop := ∃ buf : List UInt8, buf.length = 64 ∧ buf.take (m.length % 64) = m.drop (64 * (m.length / 64)) ∧ C = stc (hs m (m.length / 64)) buf m.length
theorem StC.len {m : List UInt8} {C : List Value} (h : StC m C) : C.length = 73 := by obtain ⟨buf, h1, _, rfl⟩ := h; exact stc_len _ _ _ h1
theorem StC.one {m : List UInt8} {C : List Value} (h : StC m C) : ∀ v ∈ C, v.oneCell' = true := by obtain ⟨buf, h1, _, rfl⟩ := h; exact stc_one _ _ _
theorem St.cells {w : World} {g : Nat} {m : List UInt8} (h : St w g m) : ∃ C, StC m C ∧ Bl w g C 153 := by
  obtain ⟨buf, h1, h2, h3⟩ := h
  exact ⟨_, ⟨buf, h1, h2, rfl⟩, h3⟩
theorem StC.st {w : World} {g : Nat} {m : List UInt8} {C : List Value} (h : StC m C) (hb : Bl w g C 153) : St w g m := by
  obtain ⟨buf, h1, h2, rfl⟩ := h
  exact ⟨buf, h1, h2, hb⟩

theorem copyAt_any (g o : Nat) (m : List UInt8) (C : List Value) (w : World) (h : StC m C) (h3 : w.rangeAt g o C) : Calls Tryz.prog 147 #[.pointer (some ⟨g, o, none⟩)] w (RetSt w m) := by
  have HL := Lib.hid h.len
  have HO := Lib.hid h.one
  have HC := Lib.hid h
  clear h
  have hz := stc_len ⟨0, 0, 0, 0, 0, 0, 0, 0⟩ (List.replicate 64 0) 0 (by simp)
  obtain ⟨Z, hZ⟩ : ∃ Z, Z = stc ⟨0, 0, 0, 0, 0, 0, 0, 0⟩ (List.replicate 64 0) 0 := ⟨_, rfl⟩
  have hzs := zero_state
  rw [← hZ] at hz hzs
  have HZ := Lib.hid hz
  have HZS := Lib.hid hzs
  clear hZ hz hzs
  go_enter Tryz.func147, Tryz.ntmps147
  go_wp2_with (first
    | (refine wpList_load_mid rfl 153 _ rfl _ _ rfl C _ h3 Tryz.underlying153 rfl (by rw [size_state, HL.out]) ?_)
    | (refine wpList_alloc_zero rfl 153 rfl Z HZS.out ?_)
    | (refine wpList_store_mid rfl 153 _ _ rfl _ _ C.toArray rfl rfl (Bl.there_ (Bl.new _ Z 153) (by simp [HL.out, HZ.out])) (by rw [size_state, List.size_toArray, HL.out]) (all_oneCell_toArray HO.out) ?_))
  go_ret
  have hb := (Bl.new w Z 153).over (vs := C) (by rw [HL.out, HZ.out])
  exact ⟨w.heap.size, rfl, Nat.le_refl _, HC.out.st hb, below_setCells ((Below.refl _ w).alloc (Nat.le_refl _) _) (Nat.le_refl _) _ _⟩

theorem kblk_cells (key : List UInt8) : splice (zeros .u8 64) 0 ((cb (kshort key)).take 64) = cb (kblk key) := by
  have := kshort_len key
  rw [List.take_of_length_le (by rw [cb_len]; omega), zeros_over]
  rfl

set_option maxRecDepth 100000 in
set_option maxHeartbeats 600000 in
theorem blockOf_any (key : List UInt8) (w : World) (B : Nat) (A : Option Addr) (n c : Nat) (h : Sl w B A n (cb key)) (hc : n ≤ c) (hA : A = none → c = 0) (hB : B ≤ w.heap.size) (hT : Tabs w) (hm : n ≤ 100000000) :
    Calls Tryz.prog 122 #[.slice A n c] w fun e w' => e = .returned (.agg (cb (kblk key)).toArray) ∧ Below w.heap.size w w' := by
  have hn : n = key.length := by rw [← h.1, cb_len]
  subst hn
  have HT := Lib.hid hT
  clear hT
  have HKL := Lib.hid (kblk_len key)
  have HKC := Lib.hid (kblk_cells key)
  obtain ⟨Z, hZ⟩ : ∃ Z, Z = zeros .u8 64 := ⟨_, rfl⟩
  have hzl : Z.length = 64 := by rw [hZ, zeros_len]
  have hz1 := zero_block
  have hz2 := built_block
  have hz3 : ∀ v ∈ Z, v.oneCell' = true := by rw [hZ]; exact zeros_one _ _
  rw [← hZ] at hz1 hz2 HKC
  have HZ1 := Lib.hid hz1
  have HZ2 := Lib.hid hz2
  have HZ3 := Lib.hid hz3
  have HZL := Lib.hid hzl
  clear hZ hz1 hz2 hz3 hzl
  obtain ⟨b0, b1, hsz, hb0⟩ := sum_start w Z 124 Z Z 124 rfl
  obtain ⟨W1, hW1⟩ : ∃ W, W = ((w.alloc (.cells Z.toArray 124)).alloc (.cells Z.toArray 124)).setCells (w.heap.size + 1) 0 Z := ⟨_, rfl⟩
  rw [← hW1] at b0 b1 hsz hb0
  have HW1 : Hid (W1 = ((w.alloc (.cells Z.toArray 124)).alloc (.cells Z.toArray 124)).setCells (w.alloc (.cells Z.toArray 124)).heap.size 0 Z) := by unfold Hid; rw [hW1, alloc_size]
  have HSZ := Lib.hid hsz
  clear hW1 hsz
  have h1 := (h.up hB).below hb0
  by_cases hlong : 64 < key.length
  · have hks := kshort_long hlong
    have hp0 : Sl W1 W1.heap.size A key.length (cb key) := h1.up (by rw [HSZ.out]; omega)
    have HSL := Lib.hid (sha_len key)
    rw [hks] at HKC
    clear hks
    go_enter Tryz.func122, Tryz.ntmps122
    go_wp2_with (first
      | (refine wpList_build_to rfl 124 _ rfl Z HZ2.out ?_)
      | (refine wpList_alloc_zero rfl 124 rfl Z HZ1.out ?_)
      | (refine wpList_store_mid rfl 124 _ _ rfl _ _ Z.toArray rfl rfl (Bl.there_ (Bl.new _ Z 124) (by simp)) (by rw [size_block, List.size_toArray, HZL.out]) (all_oneCell_toArray HZ3.out) ?_; change wpList _ _ _ _ _ (World.setCells ((w.alloc (.cells Z.toArray 124)).alloc (.cells Z.toArray 124)) (w.alloc (.cells Z.toArray 124)).heap.size 0 Z); rw [← HW1.out]))
    obtain ⟨hp, hbp⟩ := list_one 22 hp0 hc hA
    have hb2 := hb0.trans (hbp.mono hb0.size)
    have b02 := b0.next hbp
    have b12 := b1.next hbp
    clear b0 b1 h1 hp0
    refine (of_any [key] _ _ _ _ _ hp (Nat.le_refl _) (by omega) (HT.out.next hb2) (by simp; omega)).mono ?_
    rintro e w3 ⟨rfl, hb3⟩
    rw [show [key].flatten = key by simp]
    have b03 := b02.next hb3
    have b13 := b12.next hb3
    have hbw3 := next hb2 hb3
    clear b02 b12 hb2 hb3 hp hbp hb0
    have hn := (Bl.new w3 (zeros .u8 32) 143)
    obtain ⟨W4, hW4⟩ : ∃ W, W = (w3.alloc (.cells (zeros .u8 32).toArray 143)).setCells w3.heap.size 0 (cb (sha key)) := ⟨_, rfl⟩
    have b24 : Bl W4 w3.heap.size (cb (sha key)) 143 := by rw [hW4]; exact hn.over (by rw [cb_len, HSL.out, zeros_len])
    have hb4 : Below w3.heap.size w3 W4 := by rw [hW4]; exact below_setCells ((Below.refl _ w3).alloc (Nat.le_refl _) _) (Nat.le_refl _) _ _
    have b04 := b03.next hb4
    have b14 := b13.next hb4
    have hbw4 := next hbw3 hb4
    have hs4 : Sl W4 (w3.heap.size + 1) (some ⟨w3.heap.size, 0, none⟩) 32 (cb (sha key)) := b24.sl (o := 0) (n := 32) (by rw [List.drop_zero, List.take_of_length_le (by rw [cb_len, HSL.out]; omega)]) (by rw [cb_len, HSL.out]; omega)
    have HW4 := Lib.hid hW4
    clear hW4 hn b03 b13 hbw3 hb4 b24
    go_wp2_with (first
      | (refine wpList_alloc_zero rfl 143 rfl (zeros .u8 32) zero_sum ?_)
      | (refine wpList_store_mid rfl 143 _ _ rfl _ _ (cb (sha key)).toArray rfl rfl (Bl.there_ (Bl.new _ (zeros .u8 32) 143) (by simp [zeros, cb_len, HSL.out])) (by rw [size_sum, List.size_toArray, cb_len, HSL.out]) (all_oneCell_toArray (cb_one _)) ?_; change wpList _ _ _ _ _ (World.setCells (w3.alloc (.cells (zeros .u8 32).toArray 143)) w3.heap.size 0 (cb (sha key))); rw [← HW4.out]))
    obtain ⟨w5, hcp, b15, hg5⟩ := run_copy_but (P := Tryz.prog) W4.drew 22 22 3 5 Tryz.underlying22 u8_size (w.heap.size + 1) 0 64 64 _ (some ⟨w3.heap.size, 0, none⟩) 32 32 (cb (sha key)) hs4 _ _ b14.drew (by rw [HZL.out]; omega) (cb_one _)
    rw [HKC.out] at b15
    have b05 := b04.drew.grown hg5 (by simp)
    have hbw5 : Below w.heap.size w w5 := below_but hbw4.drew hg5 (by have := hbw4.size; simp; omega) (by omega)
    have HCP := Lib.hid hcp
    clear hcp hs4 b04 b14 hg5 hbw4
    refine wp_region_any (by kernel_rfl) ?_
    change wpAny _ _ _ _ _ _ _ (World.drew _)
    refine wpAny_take (i := 0) (v := (.slice (some ⟨w.heap.size + 1, 0, none⟩) 64 64)) rfl (by kernel_rfl) (by kernel_rfl) (by kernel_rfl) (fun _ _ _ h => h) (Or.inl ⟨by rfl, fun _ => by go_simp⟩) ?_
    simp only [List.getElem_toArray, List.getElem_cons_succ, List.getElem_cons_zero, Act.put, List.setIfInBounds_toArray, List.set_cons_zero, List.set_cons_succ]
    refine wpAny_take (i := 1) (v := (.slice (some ⟨w3.heap.size, 0, none⟩) 32 32)) rfl (by kernel_rfl) (by kernel_rfl) (by kernel_rfl) (fun _ _ _ h => h) (Or.inl ⟨by rfl, fun _ => by go_simp⟩) ?_
    simp only [List.getElem_toArray, List.getElem_cons_succ, List.getElem_cons_zero, Act.put, List.setIfInBounds_toArray, List.set_cons_zero, List.set_cons_succ]
    refine wpAny_ready (rs := [2]) (by kernel_rfl) (by simp) (AllReady.cons rfl (fun K hK => ?_) AllReady.nil)
    simp only [List.getElem_toArray, List.getElem_cons_succ, List.getElem_cons_zero, Act.put, List.setIfInBounds_toArray, List.set_cons_zero, List.set_cons_succ]
    go_simp
    rw [HCP.out]
    go_simp
    refine hK _ _ ?_
    clear hK K
    refine wpAny_done (by kernel_rfl) ?_ _
    go_wp2_with (first
      | (refine wpList_load_mid rfl 124 _ rfl _ _ rfl (cb (kblk key)) _ b15.whole Tryz.underlying124 rfl (by rw [size_block, cb_len, HKL.out]) ?_)
      | (refine wpList_store_mid rfl 124 _ _ rfl _ _ (cb (kblk key)).toArray rfl rfl (b05.there_ (by simp [cb_len, HZL.out, HKL.out])) (by rw [size_block, List.size_toArray, cb_len, HKL.out]) (all_oneCell_toArray (cb_one _)) ?_))
    have hfin := b05.over (vs := cb (kblk key)) (by rw [cb_len, HKL.out, HZL.out])
    exact ret_row Tryz.results122 rfl hfin Tryz.underlying124 rfl (by rw [size_block, cb_len, HKL.out]) rfl ⟨rfl, below_setCells hbw5 (Nat.le_refl _) _ _⟩
  · have hks := kshort_low hlong
    rw [hks] at HKC
    clear hks
    obtain ⟨w5, hcp, b15, hg5⟩ := run_copy_but (P := Tryz.prog) W1 22 22 3 5 Tryz.underlying22 u8_size (w.heap.size + 1) 0 64 64 _ A key.length c (cb key) h1 _ _ b1 (by rw [HZL.out]; omega) (cb_one _)
    rw [HKC.out] at b15
    have b05 := b0.grown hg5 (by simp)
    have hbw5 : Below w.heap.size w w5 := below_but hb0 hg5 (by have := hb0.size; omega) (by omega)
    have HCP := Lib.hid hcp
    clear hcp b0 b1 hg5 hb0
    go_enter Tryz.func122, Tryz.ntmps122
    go_wp2_with (first
      | (refine wpList_build_to rfl 124 _ rfl Z HZ2.out ?_)
      | (refine wpList_alloc_zero rfl 124 rfl Z HZ1.out ?_)
      | (refine wpList_store_mid rfl 124 _ _ rfl _ _ Z.toArray rfl rfl (Bl.there_ (Bl.new _ Z 124) (by simp)) (by rw [size_block, List.size_toArray, HZL.out]) (all_oneCell_toArray HZ3.out) ?_; change wpList _ _ _ _ _ (World.setCells ((w.alloc (.cells Z.toArray 124)).alloc (.cells Z.toArray 124)) (w.alloc (.cells Z.toArray 124)).heap.size 0 Z); rw [← HW1.out]))
    rw [HCP.out]
    go_wp2_with (first
      | (refine wpList_load_mid rfl 124 _ rfl _ _ rfl (cb (kblk key)) _ b15.whole Tryz.underlying124 rfl (by rw [size_block, cb_len, HKL.out]) ?_)
      | (refine wpList_store_mid rfl 124 _ _ rfl _ _ (cb (kblk key)).toArray rfl rfl (b05.there_ (by simp [cb_len, HZL.out, HKL.out])) (by rw [size_block, List.size_toArray, cb_len, HKL.out]) (all_oneCell_toArray (cb_one _)) ?_))
    have hfin := b05.over (vs := cb (kblk key)) (by rw [cb_len, HKL.out, HZL.out])
    exact ret_row Tryz.results122 rfl hfin Tryz.underlying124 rfl (by rw [size_block, cb_len, HKL.out]) rfl ⟨rfl, below_setCells hbw5 (Nat.le_refl _) _ _⟩

end Go.Proofs.YtlnoopmblmkgkaaGreatDoor

namespace Go.Proofs.YtlnoopmblmkgkaaGreatDoor
set_option maxRecDepth 100000
open Go.RowKit
set_option linter.unusedVariables false
set_option linter.unusedSimpArgs false

/-- How a block stands when its first k bytes have been exclusive-ored. -/
def half (p : UInt8) (b : List UInt8) (k : Nat) : List UInt8 := kx p (b.take k) ++ b.drop k
theorem half_len (p : UInt8) (b : List UInt8) (k : Nat) : (half p b k).length = b.length := by simp [half, kx]; omega
theorem half_zero (p : UInt8) (b : List UInt8) : half p b 0 = b := by simp [half, kx]
theorem half_all (p : UInt8) (b : List UInt8) : half p b b.length = kx p b := by simp [half]
theorem half_at (p : UInt8) (b : List UInt8) (k : Nat) (h : k < b.length) : (half p b k)[k]? = some b[k] := by
  unfold half
  rw [List.getElem?_append_right (by simp [kx]; omega)]
  have : (kx p (b.take k)).length = k := by simp [kx]; omega
  rw [this, Nat.sub_self, List.getElem?_drop, Nat.add_zero, List.getElem?_eq_getElem h]
theorem half_next (p : UInt8) (b : List UInt8) (k : Nat) (h : k < b.length) : (half p b k).set k (b[k] ^^^ p) = half p b (k + 1) := by
  unfold half
  have hl : (kx p (b.take k)).length = k := by simp [kx]; omega
  rw [List.set_append_right _ _ (by omega), hl, Nat.sub_self, kx_take p b k h, List.drop_eq_getElem_cons h, List.set_cons_zero, List.append_assoc]
  rfl

theorem half_cells {w wr : World} {g : Nat} {t : TypeId} {p : UInt8} {b : List UInt8} {k : Nat} (h : Bl wr g (cb (half p b k)) t) (hk : k < b.length) : Bl (wr.setCell ⟨g, k, none⟩ (.int .u8 (bits BinOp.xor IntKind.u8 (b[k].toNat : Int) (p.toNat : Int)))) g (cb (half p b (k + 1))) t := by
  have := h.set k (bc (b[k] ^^^ p))
  rw [← cb_set, half_next p b k hk] at this
  rw [byte_xor]
  exact this

set_option maxRecDepth 100000 in
set_option maxHeartbeats 600000 in
theorem behind_any (b : List UInt8) (p : UInt8) (w : World) (hb : b.length = 64) (hT : Tabs w) :
    Calls Tryz.prog 123 #[.agg (cb b).toArray, .int .u8 (p.toNat : Int)] w fun e w' => ∃ C, e = .returned (.agg C.toArray) ∧ StC (kx p b) C ∧ Below w.heap.size w w' := by
  have HT := Lib.hid hT
  have HB := Lib.hid hb
  clear hT hb
  have hz := stc_len ⟨0, 0, 0, 0, 0, 0, 0, 0⟩ (List.replicate 64 0) 0 (by simp)
  obtain ⟨Z, hZ⟩ : ∃ Z, Z = stc ⟨0, 0, 0, 0, 0, 0, 0, 0⟩ (List.replicate 64 0) 0 := ⟨_, rfl⟩
  have hzs := zero_state
  rw [← hZ] at hz hzs
  have HZ := Lib.hid hz
  have HZS := Lib.hid hzs
  clear hZ hz hzs
  have b0 : Bl ((w.alloc (.cells (cb b).toArray 124)).alloc (.cells Z.toArray 153)) w.heap.size (cb b) 124 := (Bl.new w _ _).alloc _
  have b1 : Bl ((w.alloc (.cells (cb b).toArray 124)).alloc (.cells Z.toArray 153)) (w.heap.size + 1) Z 153 := by rw [← alloc_size w (.cells (cb b).toArray 124)]; exact Bl.new _ _ _
  have hb0 : Below w.heap.size w ((w.alloc (.cells (cb b).toArray 124)).alloc (.cells Z.toArray 153)) := ((Below.refl _ w).alloc (Nat.le_refl _) _).alloc (by simp) _
  go_enter Tryz.func123, Tryz.ntmps123
  go_wp2_with (refine wpList_alloc_zero rfl 153 rfl Z HZS.out ?_)
  go_loopw [7] (fun i wr => ∃ k : Nat, k ≤ 64 ∧ i = .int .i64 k ∧ Bl wr w.heap.size (cb (half p b k)) 124 ∧ Bl wr (w.heap.size + 1) Z 153 ∧ Below w.heap.size w wr) (fun i _ => 64 - (intOf i).toNat)
  case atStart => exact ⟨0, by omega, rfl, by rw [half_zero]; exact b0, b1, hb0⟩
  case round =>
    clear b0 b1 hb0
    obtain ⟨k, hk, rfl, b0, b1, hb⟩ := hrel
    by_cases hlt : k < 64
    · have hc := b0.cell k
      rw [cb, List.getElem?_map, half_at p b k (by rw [HB.out]; exact hlt)] at hc
      have hc' : wr.cell? ⟨w.heap.size, k, none⟩ = some (.int .u8 (((b[k]'(by rw [HB.out]; exact hlt)).toNat : Nat) : Int)) := hc
      have hf := b0.frozen k
      have hx1 := (b[k]'(by rw [HB.out]; exact hlt)).toNat_lt
      have hx2 := p.toNat_lt
      clear hc
      go_wp2
      go_roundw
      case rel => exact ⟨k + 1, by omega, by go_num, half_cells (w := w) b0 (by rw [HB.out]; exact hlt), b1.set_other _ _ (by simp), hb.setCell (by simp) _⟩
      case measure => simp [intOf]; omega
    · have HK : Hid (k = b.length) := (by have := HB.out; omega : k = b.length)
      rw [HK.out, half_all] at b0
      have HKL : Hid ((kx p b).length = 64) := by unfold Hid; rw [kx_len, HB.out]
      have hT1 := HT.out.next hb
      have hsz := b1.lt
      go_wp2_with fail
      refine (new_any _ hT1).mono ?_
      rintro e w1 ⟨gs, rfl, hgs, hst, hb1⟩
      have b01 := b0.next hb1
      have b11 := b1.next hb1
      have hbw1 := hb.trans (hb1.mono hb.size)
      have hT2 := HT.out.next hbw1
      have hsl : Sl w1 (w.heap.size + 1) (some ⟨w.heap.size, 0, none⟩) 64 (cb (kx p b)) := b01.sl (o := 0) (n := 64) (by rw [List.drop_zero, List.take_of_length_le (by rw [cb_len, HKL.out]; omega)]) (by rw [cb_len, HKL.out]; omega)
      have h2g : 3 ≤ gs := by have := HT.out.size; omega
      have hoff : Off gs 64 (some ⟨w.heap.size, 0, none⟩) := hsl.off (by omega)
      have hsz1 := b11.lt
      clear b0 b1 b01 hb hT1 hb1
      go_wp2_with fail
      refine (add_any gs [] (kx p b) _ _ _ _ 64 hst hsl (by omega) hoff (by omega) (by simp) hT2 h2g (by rw [HKL.out]; simp)).mono ?_
      rintro e w2 ⟨rfl, hst2, hg2, hT3⟩
      rw [List.nil_append] at hst2
      obtain ⟨C, hC, hbC⟩ := hst2.cells
      have HCL := Lib.hid hC.len
      have HCO := Lib.hid hC.one
      have HC := Lib.hid hC
      have b12 := b11.grown hg2 (by simp; omega)
      have hbw2 := below_but hbw1 hg2 (by omega) (by omega)
      clear hst hsl hoff hT2 hT3 hst2 hg2 hC b11 hbw1
      go_wp2_with (first
        | (refine wpList_load_mid rfl 153 _ rfl _ _ rfl C _ hbC.whole Tryz.underlying153 rfl (by rw [size_state, HCL.out]) ?_)
        | (refine wpList_store_mid rfl 153 _ _ rfl _ _ C.toArray rfl rfl (b12.there_ (by simp [HCL.out, HZ.out])) (by rw [size_state, List.size_toArray, HCL.out]) (all_oneCell_toArray HCO.out) ?_))
      have hfin := b12.over (vs := C) (by rw [HCL.out, HZ.out])
      exact ret_row Tryz.results123 rfl hfin Tryz.underlying153 rfl (by rw [size_state, HCL.out]) rfl ⟨C, rfl, HC.out, below_setCells hbw2 (by omega) _ _⟩

end Go.Proofs.YtlnoopmblmkgkaaGreatDoor

namespace Go.Proofs.YtlnoopmblmkgkaaGreatDoor
set_option maxRecDepth 100000
open Go.RowKit
set_option linter.unusedVariables false
set_option linter.unusedSimpArgs false

def keyZ : List Value := stc ⟨0, 0, 0, 0, 0, 0, 0, 0⟩ (List.replicate 64 0) 0 ++ stc ⟨0, 0, 0, 0, 0, 0, 0, 0⟩ (List.replicate 64 0) 0
theorem keyZ_len : keyZ.length = 73 + 73 := by unfold keyZ; rw [List.length_append, stc_len _ _ _ (by simp)]
theorem zero_key : (Tryz.prog.info? 156).map (·.zero) = some (some (.agg keyZ.toArray)) := by kernel_rfl
theorem size_key : (Tryz.prog.info? 156).map (·.size) = some 146 := by kernel_rfl
theorem key_places : (match Tryz.prog.underlying 156 with | some (.struct fields) => fields.toList.mapM (fun f => (Tryz.prog.info? f.type).map fun i => (f.offset, i.size)) | _ => none) = some [(0, 73), (73, 73)] := by kernel_rfl
theorem built_key (C1 C2 : List Value) (h1 : C1.length = 73) (h2 : C2.length = 73) : Tryz.prog.built 156 [(0, .agg C1.toArray), (1, .agg C2.toArray)] = some (C1 ++ C2).toArray := by
  have hz := zero_key
  have hp := key_places
  unfold Program.built
  cases hq : Tryz.prog.info? 156 with
  | none => simp [hq] at hz
  | some it =>
    have hz' : it.zero = some (.agg keyZ.toArray) := by simpa [hq] using hz
    cases hu : Tryz.prog.underlying 156 with
    | none => rw [hu] at hp; simp at hp
    | some d =>
      rw [hu] at hp
      cases d <;> simp only [reduceCtorEq] at hp ⊢
      rename_i fields
      simp only [hz', hp]
      exact fill_two C1 C2 keyZ 73 h1 h2 keyZ_len

/-- The Key at block g is that of these bytes. -/
def Ky (w : World) (g : Nat) (key : List UInt8) : Prop := ∃ C1 C2, StC (kx 54 (kblk key)) C1 ∧ StC (kx 92 (kblk key)) C2 ∧ Bl w g (C1 ++ C2) 156
theorem Ky.keep {w w' : World} {g : Nat} {key : List UInt8} (h : Ky w g key) (hk : w'.heap[g]? = w.heap[g]?) : Ky w' g key := by
  obtain ⟨C1, C2, h1, h2, h3⟩ := h
  exact ⟨C1, C2, h1, h2, h3.keep hk⟩
theorem Ky.lt {w : World} {g : Nat} {key : List UInt8} (h : Ky w g key) : g < w.heap.size := by obtain ⟨_, _, _, _, h⟩ := h; exact h.lt
theorem Ky.next {w w' : World} {g : Nat} {key : List UInt8} (h : Ky w g key) (hb : Below w.heap.size w w') : Ky w' g key := h.keep (hb.block g h.lt)
theorem Ky.but {w w' : World} {g k : Nat} {key : List UInt8} (h : Ky w g key) (hg : w.grownBy w' (some k)) (hk : g ≠ k) : Ky w' g key := h.keep (hg.block g h.lt (fun e => hk (by injection e)))
theorem Ky.ranges {w : World} {g : Nat} {key : List UInt8} (h : Ky w g key) : ∃ C1 C2, StC (kx 54 (kblk key)) C1 ∧ StC (kx 92 (kblk key)) C2 ∧ w.rangeAt g 0 C1 ∧ w.rangeAt g 73 C2 := by
  obtain ⟨C1, C2, h1, h2, h3⟩ := h
  refine ⟨C1, C2, h1, h2, ?_, ?_⟩
  · have := h3.range 0 73
    rwa [List.drop_zero, List.take_append_of_le_length (by rw [h1.len]; omega), List.take_of_length_le (by rw [h1.len]; omega)] at this
  · have := h3.range 73 73
    rwa [List.drop_append_of_le_length (by rw [h1.len]; omega), List.drop_of_length_le (by rw [h1.len]; omega), List.nil_append, List.take_of_length_le (by rw [h2.len]; omega)] at this
def RetKy (w : World) (key : List UInt8) (e : Ending) (w' : World) : Prop := ∃ g, e = .returned (.pointer (some ⟨g, 0, none⟩)) ∧ w.heap.size ≤ g ∧ Ky w' g key ∧ Below w.heap.size w w'

end Go.Proofs.YtlnoopmblmkgkaaGreatDoor

namespace Go.Proofs.YtlnoopmblmkgkaaGreatDoor
set_option maxRecDepth 100000
open Go.RowKit
set_option linter.unusedVariables false
set_option linter.unusedSimpArgs false

theorem behind54 (b : List UInt8) (w : World) (hb : b.length = 64) (hT : Tabs w) :
    Calls Tryz.prog 123 #[.agg (cb b).toArray, .int .u8 54] w fun e w' => ∃ C, e = .returned (.agg C.toArray) ∧ StC (kx 54 b) C ∧ Below w.heap.size w w' := behind_any b 54 w hb hT
theorem behind92 (b : List UInt8) (w : World) (hb : b.length = 64) (hT : Tabs w) :
    Calls Tryz.prog 123 #[.agg (cb b).toArray, .int .u8 92] w fun e w' => ∃ C, e = .returned (.agg C.toArray) ∧ StC (kx 92 b) C ∧ Below w.heap.size w w' := behind_any b 92 w hb hT

set_option maxRecDepth 100000 in
set_option maxHeartbeats 800000 in
theorem mnew_any (key : List UInt8) (w : World) (B : Nat) (A : Option Addr) (n c : Nat) (h : Sl w B A n (cb key)) (hc : n ≤ c) (hA : A = none → c = 0) (hB : B ≤ w.heap.size) (hT : Tabs w) (hm : n ≤ 100000000) :
    Calls Tryz.prog 90 #[.slice A n c] w (RetKy w key) := by
  have HT := Lib.hid hT
  clear hT
  have HKL := Lib.hid (kblk_len key)
  obtain ⟨b, hbk⟩ : ∃ b, b = kblk key := ⟨_, rfl⟩
  have HBK := Lib.hid hbk
  rw [← hbk] at HKL
  obtain ⟨Z, hZ⟩ : ∃ Z, Z = zeros .u8 64 := ⟨_, rfl⟩
  have hzl : Z.length = 64 := by rw [hZ, zeros_len]
  have hz1 := zero_block
  rw [← hZ] at hz1
  have HZ1 := Lib.hid hz1
  have HZL := Lib.hid hzl
  clear hZ hz1 hzl
  go_enter Tryz.func90, Tryz.ntmps90
  go_wp2_with fail
  refine (blockOf_any key w B A n c h hc hA hB HT.out hm).mono ?_
  rintro e w1 ⟨rfl, hb1⟩
  rw [← hbk]
  clear hbk
  have hn := (Bl.new w1 Z 124)
  obtain ⟨W2, hW2⟩ : ∃ W, W = (w1.alloc (.cells Z.toArray 124)).setCells w1.heap.size 0 (cb b) := ⟨_, rfl⟩
  have b2 : Bl W2 w1.heap.size (cb b) 124 := by rw [hW2]; exact hn.over (by rw [cb_len, HKL.out, HZL.out])
  have hb2 : Below w.heap.size w W2 := by rw [hW2]; exact below_setCells (hb1.alloc hb1.size _) hb1.size _ _
  have HW2 := Lib.hid hW2
  clear hW2 hn hb1
  go_wp2_with (first
    | (refine wpList_alloc_zero rfl 124 rfl Z HZ1.out ?_)
    | (refine wpList_store_mid rfl 124 _ _ rfl _ _ (cb b).toArray rfl rfl (Bl.there_ (Bl.new _ Z 124) (by simp [cb_len, HKL.out, HZL.out])) (by rw [size_block, List.size_toArray, cb_len, HKL.out]) (all_oneCell_toArray (cb_one _)) ?_; change wpList _ _ _ _ _ (World.setCells (w1.alloc (.cells Z.toArray 124)) w1.heap.size 0 (cb b)); rw [← HW2.out]))
  have r2 : W2.drew.rangeAt w1.heap.size 0 (cb b) := b2.drew.whole
  have hT2 := (HT.out.next hb2).drew
  refine wp_region_any (by kernel_rfl) ?_
  change wpAny _ _ _ _ _ _ _ (World.drew _)
  refine wpAny_ready (rs := [0, 2]) (by kernel_rfl) (by simp) (AllReady.cons rfl (fun K hK => ?_) (AllReady.cons rfl (fun K hK => ?_) AllReady.nil))
  · simp only [List.getElem_toArray, List.getElem_cons_succ, List.getElem_cons_zero, Act.put, List.setIfInBounds_toArray, List.set_cons_zero, List.set_cons_succ]
    rw [if_pos (by rfl)]
    refine wp_load_mid 124 _ rfl w1.heap.size 0 rfl (cb b) _ r2 Tryz.underlying124 rfl (by rw [size_block, cb_len, HKL.out]) ?_
    refine hK _ _ ?_
    clear hK K
    simp only [List.getElem_toArray, List.getElem_cons_succ, List.getElem_cons_zero, Act.put, List.setIfInBounds_toArray, List.set_cons_zero, List.set_cons_succ]
    refine wpAny_ready (rs := [1, 2]) (by kernel_rfl) (by simp) (AllReady.cons rfl (fun K hK => ?_) (AllReady.cons rfl (fun K hK => ?_) AllReady.nil))
    · simp only [List.getElem_toArray, List.getElem_cons_succ, List.getElem_cons_zero, Act.put, List.setIfInBounds_toArray, List.set_cons_zero, List.set_cons_succ]
      go_simp
      refine (behind54 b _ HKL.out hT2).mono ?_
      rintro e w3 ⟨C1, rfl, hC1, hb3⟩
      refine hK _ _ ?_
      clear hK K
      have HC1 := Lib.hid hC1
      have HL1 := Lib.hid hC1.len
      have hbw3 : Below w.heap.size w w3 := hb2.drew.trans (hb3.mono hb2.size)
      have hT3 := HT.out.next hbw3
      have r3 : w3.rangeAt w1.heap.size 0 (cb b) := (b2.drew.next hb3).whole
      clear hb3 hC1
      refine wpAny_ready (rs := [2]) (by kernel_rfl) (by simp) (AllReady.cons rfl (fun K hK => ?_) AllReady.nil)
      simp only [List.getElem_toArray, List.getElem_cons_succ, List.getElem_cons_zero, Act.put, List.setIfInBounds_toArray, List.set_cons_zero, List.set_cons_succ]
      rw [if_pos (by rfl)]
      refine wp_load_mid 124 _ rfl w1.heap.size 0 rfl (cb b) _ r3 Tryz.underlying124 rfl (by rw [size_block, cb_len, HKL.out]) ?_
      refine hK _ _ ?_
      clear hK K
      simp only [List.getElem_toArray, List.getElem_cons_succ, List.getElem_cons_zero, Act.put, List.setIfInBounds_toArray, List.set_cons_zero, List.set_cons_succ]
      refine wpAny_ready (rs := [3]) (by kernel_rfl) (by simp) (AllReady.cons rfl (fun K hK => ?_) AllReady.nil)
      simp only [List.getElem_toArray, List.getElem_cons_succ, List.getElem_cons_zero, Act.put, List.setIfInBounds_toArray, List.set_cons_zero, List.set_cons_succ]
      go_simp
      refine (behind92 b _ HKL.out hT3).mono ?_
      rintro e w4 ⟨C2, rfl, hC2, hb4⟩
      refine hK _ _ ?_
      clear hK K
      have HC2 := Lib.hid hC2
      have HL2 := Lib.hid hC2.len
      have hbw4 := next hbw3 hb4
      clear hb4 hC2 r3 hT3 hbw3
      refine wpAny_take (i := 4) (v := .agg (C1 ++ C2).toArray) rfl (by kernel_rfl) (by kernel_rfl) (by kernel_rfl) (fun _ _ _ h => h) (Or.inl ⟨by rfl, exec_build 156 #[(0, .tmp 7), (1, .tmp 9)] rfl (C1 ++ C2) (built_key C1 C2 HL1.out HL2.out)⟩) ?_
      simp only [List.getElem_toArray, List.getElem_cons_succ, List.getElem_cons_zero, Act.put, List.setIfInBounds_toArray, List.set_cons_zero, List.set_cons_succ]
      refine wpAny_ready (rs := [5]) (by kernel_rfl) (by simp) (AllReady.cons rfl (fun K hK => ?_) AllReady.nil)
      simp only [List.getElem_toArray, List.getElem_cons_succ, List.getElem_cons_zero, Act.put, List.setIfInBounds_toArray, List.set_cons_zero, List.set_cons_succ]
      go_simp
      refine hK _ _ ?_
      clear hK K
      refine wpAny_take (i := 6) (v := (.pointer (some ⟨w4.heap.size, 0, none⟩))) rfl (by kernel_rfl) (by kernel_rfl) (by kernel_rfl) (fun _ _ _ h => h) (Or.inl ⟨by rfl, fun _ => by go_simp⟩) ?_
      simp only [List.getElem_toArray, List.getElem_cons_succ, List.getElem_cons_zero, Act.put, List.setIfInBounds_toArray, List.set_cons_zero, List.set_cons_succ]
      refine wpAny_done (by kernel_rfl) ?_ _
      go_wp2
      go_ret
      exact ⟨w4.heap.size, rfl, hbw4.size, ⟨C1, C2, by rw [← HBK.out]; exact HC1.out, by rw [← HBK.out]; exact HC2.out, Bl.new _ _ _⟩, hbw4.alloc hbw4.size _⟩
    · simp only [List.getElem_toArray, List.getElem_cons_succ, List.getElem_cons_zero, Act.put, List.setIfInBounds_toArray, List.set_cons_zero, List.set_cons_succ]
      rw [if_pos (by rfl)]
      refine wp_load_mid 124 _ rfl w1.heap.size 0 rfl (cb b) _ r2 Tryz.underlying124 rfl (by rw [size_block, cb_len, HKL.out]) ?_
      refine hK _ _ ?_
      clear hK K
      simp only [List.getElem_toArray, List.getElem_cons_succ, List.getElem_cons_zero, Act.put, List.setIfInBounds_toArray, List.set_cons_zero, List.set_cons_succ]
      refine wpAny_ready (rs := [1]) (by kernel_rfl) (by simp) (AllReady.cons rfl (fun K hK => ?_) AllReady.nil)
      simp only [List.getElem_toArray, List.getElem_cons_succ, List.getElem_cons_zero, Act.put, List.setIfInBounds_toArray, List.set_cons_zero, List.set_cons_succ]
      go_simp
      refine (behind54 b _ HKL.out hT2).mono ?_
      rintro e w3 ⟨C1, rfl, hC1, hb3⟩
      refine hK _ _ ?_
      clear hK K
      have HC1 := Lib.hid hC1
      have HL1 := Lib.hid hC1.len
      have hbw3 : Below w.heap.size w w3 := hb2.drew.trans (hb3.mono hb2.size)
      have hT3 := HT.out.next hbw3
      have r3 : w3.rangeAt w1.heap.size 0 (cb b) := (b2.drew.next hb3).whole
      clear hb3 hC1
      refine wpAny_ready (rs := [3]) (by kernel_rfl) (by simp) (AllReady.cons rfl (fun K hK => ?_) AllReady.nil)
      simp only [List.getElem_toArray, List.getElem_cons_succ, List.getElem_cons_zero, Act.put, List.setIfInBounds_toArray, List.set_cons_zero, List.set_cons_succ]
      go_simp
      refine (behind92 b _ HKL.out hT3).mono ?_
      rintro e w4 ⟨C2, rfl, hC2, hb4⟩
      refine hK _ _ ?_
      clear hK K
      have HC2 := Lib.hid hC2
      have HL2 := Lib.hid hC2.len
      have hbw4 := next hbw3 hb4
      clear hb4 hC2 r3 hT3 hbw3
      refine wpAny_take (i := 4) (v := .agg (C1 ++ C2).toArray) rfl (by kernel_rfl) (by kernel_rfl) (by kernel_rfl) (fun _ _ _ h => h) (Or.inl ⟨by rfl, exec_build 156 #[(0, .tmp 7), (1, .tmp 9)] rfl (C1 ++ C2) (built_key C1 C2 HL1.out HL2.out)⟩) ?_
      simp only [List.getElem_toArray, List.getElem_cons_succ, List.getElem_cons_zero, Act.put, List.setIfInBounds_toArray, List.set_cons_zero, List.set_cons_succ]
      refine wpAny_ready (rs := [5]) (by kernel_rfl) (by simp) (AllReady.cons rfl (fun K hK => ?_) AllReady.nil)
      simp only [List.getElem_toArray, List.getElem_cons_succ, List.getElem_cons_zero, Act.put, List.setIfInBounds_toArray, List.set_cons_zero, List.set_cons_succ]
      go_simp
      refine hK _ _ ?_
      clear hK K
      refine wpAny_take (i := 6) (v := (.pointer (some ⟨w4.heap.size, 0, none⟩))) rfl (by kernel_rfl) (by kernel_rfl) (by kernel_rfl) (fun _ _ _ h => h) (Or.inl ⟨by rfl, fun _ => by go_simp⟩) ?_
      simp only [List.getElem_toArray, List.getElem_cons_succ, List.getElem_cons_zero, Act.put, List.setIfInBounds_toArray, List.set_cons_zero, List.set_cons_succ]
      refine wpAny_done (by kernel_rfl) ?_ _
      go_wp2
      go_ret
      exact ⟨w4.heap.size, rfl, hbw4.size, ⟨C1, C2, by rw [← HBK.out]; exact HC1.out, by rw [← HBK.out]; exact HC2.out, Bl.new _ _ _⟩, hbw4.alloc hbw4.size _⟩
  · simp only [List.getElem_toArray, List.getElem_cons_succ, List.getElem_cons_zero, Act.put, List.setIfInBounds_toArray, List.set_cons_zero, List.set_cons_succ]
    rw [if_pos (by rfl)]
    refine wp_load_mid 124 _ rfl w1.heap.size 0 rfl (cb b) _ r2 Tryz.underlying124 rfl (by rw [size_block, cb_len, HKL.out]) ?_
    refine hK _ _ ?_
    clear hK K
    simp only [List.getElem_toArray, List.getElem_cons_succ, List.getElem_cons_zero, Act.put, List.setIfInBounds_toArray, List.set_cons_zero, List.set_cons_succ]
    refine wpAny_ready (rs := [0]) (by kernel_rfl) (by simp) (AllReady.cons rfl (fun K hK => ?_) AllReady.nil)
    simp only [List.getElem_toArray, List.getElem_cons_succ, List.getElem_cons_zero, Act.put, List.setIfInBounds_toArray, List.set_cons_zero, List.set_cons_succ]
    rw [if_pos (by rfl)]
    refine wp_load_mid 124 _ rfl w1.heap.size 0 rfl (cb b) _ r2 Tryz.underlying124 rfl (by rw [size_block, cb_len, HKL.out]) ?_
    refine hK _ _ ?_
    clear hK K
    simp only [List.getElem_toArray, List.getElem_cons_succ, List.getElem_cons_zero, Act.put, List.setIfInBounds_toArray, List.set_cons_zero, List.set_cons_succ]
    refine wpAny_ready (rs := [1]) (by kernel_rfl) (by simp) (AllReady.cons rfl (fun K hK => ?_) AllReady.nil)
    simp only [List.getElem_toArray, List.getElem_cons_succ, List.getElem_cons_zero, Act.put, List.setIfInBounds_toArray, List.set_cons_zero, List.set_cons_succ]
    go_simp
    refine (behind54 b _ HKL.out hT2).mono ?_
    rintro e w3 ⟨C1, rfl, hC1, hb3⟩
    refine hK _ _ ?_
    clear hK K
    have HC1 := Lib.hid hC1
    have HL1 := Lib.hid hC1.len
    have hbw3 : Below w.heap.size w w3 := hb2.drew.trans (hb3.mono hb2.size)
    have hT3 := HT.out.next hbw3
    have r3 : w3.rangeAt w1.heap.size 0 (cb b) := (b2.drew.next hb3).whole
    clear hb3 hC1
    refine wpAny_ready (rs := [3]) (by kernel_rfl) (by simp) (AllReady.cons rfl (fun K hK => ?_) AllReady.nil)
    simp only [List.getElem_toArray, List.getElem_cons_succ, List.getElem_cons_zero, Act.put, List.setIfInBounds_toArray, List.set_cons_zero, List.set_cons_succ]
    go_simp
    refine (behind92 b _ HKL.out hT3).mono ?_
    rintro e w4 ⟨C2, rfl, hC2, hb4⟩
    refine hK _ _ ?_
    clear hK K
    have HC2 := Lib.hid hC2
    have HL2 := Lib.hid hC2.len
    have hbw4 := next hbw3 hb4
    clear hb4 hC2 r3 hT3 hbw3
    refine wpAny_take (i := 4) (v := .agg (C1 ++ C2).toArray) rfl (by kernel_rfl) (by kernel_rfl) (by kernel_rfl) (fun _ _ _ h => h) (Or.inl ⟨by rfl, exec_build 156 #[(0, .tmp 7), (1, .tmp 9)] rfl (C1 ++ C2) (built_key C1 C2 HL1.out HL2.out)⟩) ?_
    simp only [List.getElem_toArray, List.getElem_cons_succ, List.getElem_cons_zero, Act.put, List.setIfInBounds_toArray, List.set_cons_zero, List.set_cons_succ]
    refine wpAny_ready (rs := [5]) (by kernel_rfl) (by simp) (AllReady.cons rfl (fun K hK => ?_) AllReady.nil)
    simp only [List.getElem_toArray, List.getElem_cons_succ, List.getElem_cons_zero, Act.put, List.setIfInBounds_toArray, List.set_cons_zero, List.set_cons_succ]
    go_simp
    refine hK _ _ ?_
    clear hK K
    refine wpAny_take (i := 6) (v := (.pointer (some ⟨w4.heap.size, 0, none⟩))) rfl (by kernel_rfl) (by kernel_rfl) (by kernel_rfl) (fun _ _ _ h => h) (Or.inl ⟨by rfl, fun _ => by go_simp⟩) ?_
    simp only [List.getElem_toArray, List.getElem_cons_succ, List.getElem_cons_zero, Act.put, List.setIfInBounds_toArray, List.set_cons_zero, List.set_cons_succ]
    refine wpAny_done (by kernel_rfl) ?_ _
    go_wp2
    go_ret
    exact ⟨w4.heap.size, rfl, hbw4.size, ⟨C1, C2, by rw [← HBK.out]; exact HC1.out, by rw [← HBK.out]; exact HC2.out, Bl.new _ _ _⟩, hbw4.alloc hbw4.size _⟩

end Go.Proofs.YtlnoopmblmkgkaaGreatDoor

namespace Go.Proofs.YtlnoopmblmkgkaaGreatDoor
set_option maxRecDepth 100000
open Go.RowKit
set_option linter.unusedVariables false
set_option linter.unusedSimpArgs false

set_option maxRecDepth 100000 in
set_option maxHeartbeats 800000 in
theorem ktag_any (g : Nat) (key : List UInt8) (ls : List (List UInt8)) (w : World) (B : Nat) (A : Option Addr) (n c : Nat) (hk : Ky w g key) (hp : Parts w B A n ls) (hB : B ≤ w.heap.size) (hn : n ≤ 1000000000) (hT : Tabs w) (hm : ls.flatten.length ≤ 10000000) :
    Calls Tryz.prog 124 #[.pointer (some ⟨g, 0, none⟩), .slice A n c] w fun e w' => e = .returned (.agg (cb (hmac key ls.flatten)).toArray) ∧ Below w.heap.size w w' := by
  have hpl := hp.len
  subst hpl
  have HT := Lib.hid hT
  clear hT
  obtain ⟨I, hI⟩ : ∃ I, I = kx 54 (kblk key) := ⟨_, rfl⟩
  obtain ⟨O, hO⟩ : ∃ O, O = kx 92 (kblk key) := ⟨_, rfl⟩
  have hIl : I.length = 64 := by rw [hI, kx_len, kblk_len]
  have hOl : O.length = 64 := by rw [hO, kx_len, kblk_len]
  obtain ⟨S, hS⟩ : ∃ S, S = sha (I ++ ls.flatten) := ⟨_, rfl⟩
  obtain ⟨R, hR⟩ : ∃ R, R = sha (O ++ S) := ⟨_, rfl⟩
  have HR : Hid (hmac key ls.flatten = R) := by unfold Hid hmac; rw [hR, hS, hI, hO]
  have HSL : Hid (S.length = 32) := by unfold Hid; rw [hS, sha_len]
  have HRL : Hid (R.length = 32) := by unfold Hid; rw [hR, sha_len]
  have HS := Lib.hid hS
  have HRR := Lib.hid hR
  have HIL := Lib.hid hIl
  have HOL := Lib.hid hOl
  rw [HR.out]
  have hkl := hk.lt
  have hb0 : Below w.heap.size w (w.alloc (.cells (zeros .u8 32).toArray 143)) := (Below.refl _ w).alloc (Nat.le_refl _) _
  obtain ⟨C1, C2, hC1, hC2, r1, r2⟩ := (hk.next hb0).ranges
  rw [← hI] at hC1
  rw [← hO] at hC2
  clear hI hO hS hR hIl hOl
  have b0 := Bl.new w (zeros .u8 32) 143
  obtain ⟨W0, hW0⟩ : ∃ W, W = w.alloc (.cells (zeros .u8 32).toArray 143) := ⟨_, rfl⟩
  rw [← hW0] at b0 r1 r2 hb0
  have HSZ : Hid (W0.heap.size = w.heap.size + 1) := by unfold Hid; rw [hW0]; simp
  have HW0 := Lib.hid hW0
  clear hW0
  go_enter Tryz.func124, Tryz.ntmps124
  go_wp2_with (refine wpList_alloc_zero rfl 143 rfl (zeros .u8 32) zero_sum ?_; rw [← HW0.out])
  refine wp_region_any (by kernel_rfl) ?_
  change wpAny _ _ _ _ _ _ _ (World.drew _)
  refine wpAny_take (i := 0) (v := (.pointer (some ⟨g, 0, none⟩))) rfl (by kernel_rfl) (by kernel_rfl) (by kernel_rfl) (fun _ _ _ h => h) (Or.inl ⟨by rfl, fun _ => by go_simp⟩) ?_
  simp only [List.getElem_toArray, List.getElem_cons_succ, List.getElem_cons_zero, Act.put, List.setIfInBounds_toArray, List.set_cons_zero, List.set_cons_succ]
  refine wpAny_take (i := 1) (v := (.pointer (some ⟨g, 0, none⟩))) rfl (by kernel_rfl) (by kernel_rfl) (by kernel_rfl) (fun _ _ _ h => h) (Or.inl ⟨by rfl, fun _ => by go_simp⟩) ?_
  simp only [List.getElem_toArray, List.getElem_cons_succ, List.getElem_cons_zero, Act.put, List.setIfInBounds_toArray, List.set_cons_zero, List.set_cons_succ]
  refine wpAny_take (i := 2) (v := (.pointer (some ⟨g, 0, none⟩))) rfl (by kernel_rfl) (by kernel_rfl) (by kernel_rfl) (fun _ _ _ h => h) (Or.inl ⟨by rfl, fun _ => by go_simp⟩) ?_
  simp only [List.getElem_toArray, List.getElem_cons_succ, List.getElem_cons_zero, Act.put, List.setIfInBounds_toArray, List.set_cons_zero, List.set_cons_succ]
  refine wpAny_take (i := 4) (v := (.pointer (some ⟨g, 0, none⟩))) rfl (by kernel_rfl) (by kernel_rfl) (by kernel_rfl) (fun _ _ _ h => h) (Or.inl ⟨by rfl, fun _ => by go_simp⟩) ?_
  simp only [List.getElem_toArray, List.getElem_cons_succ, List.getElem_cons_zero, Act.put, List.setIfInBounds_toArray, List.set_cons_zero, List.set_cons_succ]
  refine wpAny_take (i := 5) (v := (.pointer (some ⟨g, 0, none⟩))) rfl (by kernel_rfl) (by kernel_rfl) (by kernel_rfl) (fun _ _ _ h => h) (Or.inl ⟨by rfl, fun _ => by go_simp⟩) ?_
  simp only [List.getElem_toArray, List.getElem_cons_succ, List.getElem_cons_zero, Act.put, List.setIfInBounds_toArray, List.set_cons_zero, List.set_cons_succ]
  refine wpAny_take (i := 6) (v := (.pointer (some ⟨g, 73, none⟩))) rfl (by kernel_rfl) (by kernel_rfl) (by kernel_rfl) (fun _ _ _ h => h) (Or.inl ⟨by rfl, fun _ => by go_simp⟩) ?_
  simp only [List.getElem_toArray, List.getElem_cons_succ, List.getElem_cons_zero, Act.put, List.setIfInBounds_toArray, List.set_cons_zero, List.set_cons_succ]
  refine wpAny_ready (rs := [3]) (by kernel_rfl) (by simp) (AllReady.cons rfl (fun K hK => ?_) AllReady.nil)
  simp only [List.getElem_toArray, List.getElem_cons_succ, List.getElem_cons_zero, Act.put, List.setIfInBounds_toArray, List.set_cons_zero, List.set_cons_succ]
  go_simp
  have r1' : W0.drew.rangeAt g 0 C1 := r1
  have r2' : W0.drew.rangeAt g 73 C2 := r2
  refine (copyAt_any g 0 I C1 _ hC1 r1').mono ?_
  rintro e w1 ⟨gi, rfl, hgi, hsi, hb1⟩
  refine hK _ _ ?_
  clear hK K
  have hgi' : w.heap.size + 1 ≤ gi := by have h1 := HSZ.out; have h2 : W0.drew.heap.size = W0.heap.size := rfl; omega
  have r2w : w1.rangeAt g 73 C2 := fun j v hv => by
    rw [World.cell?_of_block (hb1.block g (by have h1 := HSZ.out; have h2 : W0.drew.heap.size = W0.heap.size := rfl; omega))]
    exact r2' j v hv
  refine wpAny_ready (rs := [7]) (by kernel_rfl) (by simp) (AllReady.cons rfl (fun K hK => ?_) AllReady.nil)
  simp only [List.getElem_toArray, List.getElem_cons_succ, List.getElem_cons_zero, Act.put, List.setIfInBounds_toArray, List.set_cons_zero, List.set_cons_succ]
  go_simp
  refine (copyAt_any g 73 O C2 _ hC2 r2w).mono ?_
  rintro e w2 ⟨go, rfl, hgo, hso, hb2⟩
  refine hK _ _ ?_
  clear hK K
  have hlt := hsi.lt
  have hsi2 := hsi.next hb2
  have b02 := (b0.drew.next hb1).next hb2
  have hbw1 : Below w.heap.size w w1 := hb0.drew.trans (hb1.mono hb0.size)
  have hbw2 := next hbw1 hb2
  have hT2 := HT.out.next hbw2
  have h2g : 3 ≤ gi := by have := HT.out.size; omega
  clear r1 r2 r1' r2' r2w hsi hb1 hb2 b0 hb0 hbw1 hC1 hC2 hgi hk
  refine wpAny_take (i := 8) (v := (.pointer (some ⟨gi, 0, none⟩))) rfl (by kernel_rfl) (by kernel_rfl) (by kernel_rfl) (fun _ _ _ h => h) (Or.inl ⟨by rfl, fun _ => by go_simp⟩) ?_
  simp only [List.getElem_toArray, List.getElem_cons_succ, List.getElem_cons_zero, Act.put, List.setIfInBounds_toArray, List.set_cons_zero, List.set_cons_succ]
  refine wpAny_take (i := 9) (v := (.pointer (some ⟨go, 0, none⟩))) rfl (by kernel_rfl) (by kernel_rfl) (by kernel_rfl) (fun _ _ _ h => h) (Or.inl ⟨by rfl, fun _ => by go_simp⟩) ?_
  simp only [List.getElem_toArray, List.getElem_cons_succ, List.getElem_cons_zero, Act.put, List.setIfInBounds_toArray, List.set_cons_zero, List.set_cons_succ]
  refine wpAny_done (by kernel_rfl) ?_ _
  go_wp2
  go_loopw [24] (fun i wr => ∃ k : Nat, k ≤ ls.length ∧ i = .int .i64 k ∧ St wr gi (I ++ (ls.take k).flatten) ∧ St wr go O ∧ Bl wr w.heap.size (zeros .u8 32) 143 ∧ Below w.heap.size w wr ∧ Tabs wr) (fun i _ => ls.length - (intOf i).toNat)
  case atStart => exact ⟨0, by omega, rfl, by simpa using hsi2, hso, b02, hbw2, hT2⟩
  case round =>
    clear hsi2 hso b02 hbw2 hT2
    obtain ⟨k, hk, rfl, hsi, hso, b0, hb, hT1⟩ := hrel
    by_cases hlt2 : k < ls.length
    · have hp2 := hp.below (hb.mono hB)
      obtain ⟨ad, A', c', rfl, hcell, hsl, hcc, hnn⟩ := hp2.at_ hlt2
      have hfl := flat_take ls k hlt2
      have hle := flat_le ls (k + 1)
      rw [hfl, List.length_append] at hle
      have hbs := hb.size
      have HF := Lib.hid hfl
      clear hp2 hfl
      go_wp2_with fail
      refine (add_any gi (I ++ (ls.take k).flatten) ls[k] _ _ A' _ c' hsi hsl (by omega) (hsl.off (by omega)) hcc hnn hT1 h2g (by rw [List.length_append, HIL.out]; omega)).mono ?_
      rintro e w3 ⟨rfl, hst2, hg2, hT3⟩
      have b03 := b0.grown hg2 (by simp; omega)
      have hso3 := hso.but hg2 (by omega)
      have hb3 := below_but hb hg2 hbs (by omega)
      rw [List.append_assoc, ← HF.out] at hst2
      clear hsi hsl hT1 b0 hb hg2 hso
      go_wp2
      go_roundw
      case rel => exact ⟨k + 1, by omega, by go_num, hst2, hso3, b03, hb3, hT3⟩
      case measure => simp [intOf]; omega
    · have HK : Hid (k = ls.length) := (by omega : k = ls.length)
      rw [HK.out, List.take_length] at hsi
      go_wp2_with fail
      refine (sum_any gi (I ++ ls.flatten) _ hsi hT1 (by rw [List.length_append, HIL.out]; omega)).mono ?_
      rintro e w3 ⟨rfl, hb3⟩
      rw [← HS.out]
      have b03 := b0.next hb3
      have hso3 := hso.next hb3
      have hbw3 := hb.trans (hb3.mono hb.size)
      have hgo3 := hso3.lt
      have hn := (Bl.new w3 (zeros .u8 32) 143)
      obtain ⟨W4, hW4⟩ : ∃ W, W = (w3.alloc (.cells (zeros .u8 32).toArray 143)).setCells w3.heap.size 0 (cb S) := ⟨_, rfl⟩
      have b24 : Bl W4 w3.heap.size (cb S) 143 := by rw [hW4]; exact hn.over (by rw [cb_len, HSL.out, zeros_len])
      have hb4 : Below w3.heap.size w3 W4 := by rw [hW4]; exact below_setCells ((Below.refl _ w3).alloc (Nat.le_refl _) _) (Nat.le_refl _) _ _
      have b04 := b03.next hb4
      have hso4 := hso3.next hb4
      have hbw4 := next hbw3 hb4
      have hT4 := HT.out.next hbw4
      have hs4 : Sl W4 (w3.heap.size + 1) (some ⟨w3.heap.size, 0, none⟩) 32 (cb S) := b24.sl (o := 0) (n := 32) (by rw [List.drop_zero, List.take_of_length_le (by rw [cb_len, HSL.out]; omega)]) (by rw [cb_len, HSL.out]; omega)
      have hoff : Off go 32 (some ⟨w3.heap.size, 0, none⟩) := by intro _ ad e1; injection e1 with e1; rw [← e1]; simp; omega
      have hsz4 : w3.heap.size + 1 ≤ W4.heap.size := by have := b24.lt; omega
      have hsz3 : w.heap.size ≤ W4.heap.size := hbw4.size
      have HW4 := Lib.hid hW4
      clear hW4 hn b03 hbw3 hb4 b24 hso hso3 hsi hb3 hT1 b0 hb
      go_wp2_with (first
        | (refine wpList_alloc_zero rfl 143 rfl (zeros .u8 32) zero_sum ?_)
        | (refine wpList_store_mid rfl 143 _ _ rfl _ _ (cb S).toArray rfl rfl (Bl.there_ (Bl.new _ (zeros .u8 32) 143) (by simp [zeros, cb_len, HSL.out])) (by rw [size_sum, List.size_toArray, cb_len, HSL.out]) (all_oneCell_toArray (cb_one _)) ?_; change wpList _ _ _ _ _ (World.setCells (w3.alloc (.cells (zeros .u8 32).toArray 143)) w3.heap.size 0 (cb S)); rw [← HW4.out]))
      refine (add_any go O S _ _ _ _ 32 hso4 hs4 hsz4 hoff (by omega) (by simp) hT4 (by omega) (by rw [HOL.out, HSL.out]; omega)).mono ?_
      rintro e w5 ⟨rfl, hst5, hg5, hT5⟩
      have b05 := b04.grown hg5 (by simp; omega)
      have hb5 := below_but hbw4 hg5 hsz3 (by omega)
      clear hso4 hs4 hoff hT4 hg5 b04 hbw4
      go_wp2_with fail
      refine (sum_any go (O ++ S) _ hst5 hT5 (by rw [List.length_append, HOL.out, HSL.out]; omega)).mono ?_
      rintro e w6 ⟨rfl, hb6⟩
      rw [← HRR.out]
      have b06 := b05.next hb6
      have hbw6 := next hb5 hb6
      clear b05 hb5 hb6 hst5 hT5
      go_wp2_with (refine wpList_store_mid rfl 143 _ _ rfl _ _ (cb R).toArray rfl rfl (b06.there_ (by simp [zeros, cb_len, HRL.out])) (by rw [size_sum, List.size_toArray, cb_len, HRL.out]) (all_oneCell_toArray (cb_one _)) ?_)
      have hc := b06.over (vs := cb R) (by rw [cb_len, HRL.out, zeros_len])
      exact ret_row Tryz.results124 rfl hc Tryz.underlying143 rfl (by rw [size_sum, cb_len, HRL.out]) rfl ⟨rfl, below_setCells hbw6 (Nat.le_refl _) _ _⟩

end Go.Proofs.YtlnoopmblmkgkaaGreatDoor

namespace Go.Proofs.YtlnoopmblmkgkaaGreatDoor
set_option maxRecDepth 100000
open Go.RowKit
set_option linter.unusedVariables false
set_option linter.unusedSimpArgs false

set_option maxHeartbeats 400000 in
theorem tag_any (key : List UInt8) (ls : List (List UInt8)) (w : World) (B B' : Nat) (A A' : Option Addr) (n c n' c' : Nat) (h : Sl w B A n (cb key)) (hc : n ≤ c) (hA : A = none → c = 0) (hB : B ≤ w.heap.size) (hm : n ≤ 100000000) (hp : Parts w B' A' n' ls) (hB' : B' ≤ w.heap.size) (hn : n' ≤ 1000000000) (hT : Tabs w) (hl : ls.flatten.length ≤ 10000000) :
    Calls Tryz.prog 118 #[.slice A n c, .slice A' n' c'] w fun e w' => e = .returned (.agg (cb (hmac key ls.flatten)).toArray) ∧ Below w.heap.size w w' := by
  have HT := Lib.hid hT
  clear hT
  have HRL := Lib.hid (hmac_len key ls.flatten)
  obtain ⟨R, hR⟩ : ∃ R, R = hmac key ls.flatten := ⟨_, rfl⟩
  rw [← hR] at HRL ⊢
  have HR := Lib.hid hR
  clear hR
  have b0 := Bl.new w (zeros .u8 32) 143
  have hb0 : Below w.heap.size w (w.alloc (.cells (zeros .u8 32).toArray 143)) := (Below.refl _ w).alloc (Nat.le_refl _) _
  obtain ⟨W0, hW0⟩ : ∃ W, W = w.alloc (.cells (zeros .u8 32).toArray 143) := ⟨_, rfl⟩
  rw [← hW0] at b0 hb0
  have HW0 := Lib.hid hW0
  clear hW0
  have h1 := (h.up hB).below hb0
  go_enter Tryz.func118, Tryz.ntmps118
  go_wp2_with (refine wpList_alloc_zero rfl 143 rfl (zeros .u8 32) zero_sum ?_; rw [← HW0.out])
  refine (mnew_any key _ _ _ _ _ h1 hc hA hb0.size (HT.out.next hb0) hm).mono ?_
  rintro e w1 ⟨gk, rfl, hgk, hky, hb1⟩
  have b01 := b0.next hb1
  have hbw1 := next hb0 hb1
  have hp1 := hp.below (hbw1.mono hB')
  clear b0 hb0 hb1 h1
  go_wp2_with fail
  refine (ktag_any gk key ls _ _ _ _ _ hky hp1 (Nat.le_trans hB' hbw1.size) hn (HT.out.next hbw1) hl).mono ?_
  rintro e w2 ⟨rfl, hb2⟩
  rw [← HR.out]
  have b02 := b01.next hb2
  have hbw2 := next hbw1 hb2
  clear b01 hbw1 hb2 hky hp1
  go_wp2_with (refine wpList_store_mid rfl 143 _ _ rfl _ _ (cb R).toArray rfl rfl (b02.there_ (by simp [zeros, cb_len, HRL.out])) (by rw [size_sum, List.size_toArray, cb_len, HRL.out]) (all_oneCell_toArray (cb_one _)) ?_)
  have hf := b02.over (vs := cb R) (by rw [cb_len, HRL.out, zeros_len])
  exact ret_row Tryz.results118 rfl hf Tryz.underlying143 rfl (by rw [size_sum, cb_len, HRL.out]) rfl ⟨rfl, below_setCells hbw2 (Nat.le_refl _) _ _⟩

set_option maxHeartbeats 400000 in
theorem ktag_nil (ls : List (List UInt8)) (w : World) (B : Nat) (A : Option Addr) (n c : Nat) (hp : Parts w B A n ls) (hB : B ≤ w.heap.size) (hn : n ≤ 1000000000) (hT : Tabs w) (hm : ls.flatten.length ≤ 10000000) :
    Calls Tryz.prog 124 #[.pointer none, .slice A n c] w fun e w' => e = .returned (.agg (cb (hmac [] ls.flatten)).toArray) ∧ Below w.heap.size w w' := by
  have HT := Lib.hid hT
  clear hT
  have HRL := Lib.hid (hmac_len [] ls.flatten)
  obtain ⟨R, hR⟩ : ∃ R, R = hmac [] ls.flatten := ⟨_, rfl⟩
  rw [← hR] at HRL ⊢
  have HR := Lib.hid hR
  clear hR
  have b0 := Bl.new w (zeros .u8 32) 143
  have hb0 : Below w.heap.size w (w.alloc (.cells (zeros .u8 32).toArray 143)) := (Below.refl _ w).alloc (Nat.le_refl _) _
  obtain ⟨W0, hW0⟩ : ∃ W, W = w.alloc (.cells (zeros .u8 32).toArray 143) := ⟨_, rfl⟩
  rw [← hW0] at b0 hb0
  have HW0 := Lib.hid hW0
  clear hW0
  have hp1 := hp.below (hb0.mono hB)
  go_enter Tryz.func124, Tryz.ntmps124
  go_wp2_with (refine wpList_alloc_zero rfl 143 rfl (zeros .u8 32) zero_sum ?_; rw [← HW0.out])
  refine (tag_any [] ls _ 0 B none A 0 0 n c Sl.nil_ (Nat.le_refl _) (fun _ => rfl) (Nat.zero_le _) (by omega) hp1 (Nat.le_trans hB hb0.size) hn (HT.out.next hb0) hm).mono ?_
  rintro e w2 ⟨rfl, hb2⟩
  rw [← HR.out]
  have b02 := b0.next hb2
  have hbw2 := next hb0 hb2
  clear b0 hb0 hb2 hp1
  go_wp2_with (refine wpList_store_mid rfl 143 _ _ rfl _ _ (cb R).toArray rfl rfl (b02.there_ (by simp [zeros, cb_len, HRL.out])) (by rw [size_sum, List.size_toArray, cb_len, HRL.out]) (all_oneCell_toArray (cb_one _)) ?_)
  have hf := b02.over (vs := cb R) (by rw [cb_len, HRL.out, zeros_len])
  exact ret_row Tryz.results124 rfl hf Tryz.underlying143 rfl (by rw [size_sum, cb_len, HRL.out]) rfl ⟨rfl, below_setCells hbw2 (Nat.le_refl _) _ _⟩

/-- A Key, or nil, which is the empty key's. -/
def Kp (w : World) (p : Option Addr) (key : List UInt8) : Prop := (∃ g, p = some ⟨g, 0, none⟩ ∧ Ky w g key) ∨ (p = none ∧ key = [])
theorem Kp.next {w w' : World} {p : Option Addr} {key : List UInt8} (h : Kp w p key) (hb : Below w.heap.size w w') : Kp w' p key := by
  rcases h with ⟨g, e, h⟩ | h
  · exact .inl ⟨g, e, h.next hb⟩
  · exact .inr h
/-- A Key that lies below a block that turns. -/
theorem Kp.below {w w' : World} {p : Option Addr} {key : List UInt8} {B : Nat} (h : Kp w p key) (hB : w.heap.size ≤ B) (hb : Below w.heap.size w w') : Kp w' p key := h.next hb

theorem kptag_any (p : Option Addr) (key : List UInt8) (ls : List (List UInt8)) (w : World) (B : Nat) (A : Option Addr) (n c : Nat) (hk : Kp w p key) (hp : Parts w B A n ls) (hB : B ≤ w.heap.size) (hn : n ≤ 1000000000) (hT : Tabs w) (hm : ls.flatten.length ≤ 10000000) :
    Calls Tryz.prog 124 #[.pointer p, .slice A n c] w fun e w' => e = .returned (.agg (cb (hmac key ls.flatten)).toArray) ∧ Below w.heap.size w w' := by
  rcases hk with ⟨g, rfl, hk⟩ | ⟨rfl, rfl⟩
  · exact ktag_any g key ls w B A n c hk hp hB hn hT hm
  · exact ktag_nil ls w B A n c hp hB hn hT hm

end Go.Proofs.YtlnoopmblmkgkaaGreatDoor

namespace Go.Proofs.YtlnoopmblmkgkaaGreatDoor
set_option maxRecDepth 100000
open Go.RowKit
set_option linter.unusedVariables false
set_option linter.unusedSimpArgs false

/-- Sums one after the other, noughts behind them. -/
def sumsTo (ts : List (List UInt8)) (k : Nat) : List UInt8 := (ts.take k).flatten ++ List.replicate (32 * (ts.length - k)) 0
theorem flat32 : ∀ (ts : List (List UInt8)), (∀ t ∈ ts, t.length = 32) → ts.flatten.length = 32 * ts.length
  | [], _ => rfl
  | t :: ts, h => by
    rw [List.flatten_cons, List.length_append, h t (by simp), flat32 ts (fun x hx => h x (by simp [hx])), List.length_cons]; omega
theorem sumsTo_zero (ts : List (List UInt8)) : sumsTo ts 0 = List.replicate (32 * ts.length) 0 := by simp [sumsTo]
theorem sumsTo_all (ts : List (List UInt8)) : sumsTo ts ts.length = ts.flatten := by simp [sumsTo]
theorem sumsTo_pre (ts : List (List UInt8)) (h : ∀ t ∈ ts, t.length = 32) (k : Nat) (hk : k ≤ ts.length) : (ts.take k).flatten.length = 32 * k := by
  rw [flat32 _ (fun t ht => h t (List.mem_of_mem_take ht)), List.length_take, Nat.min_eq_left hk]
theorem sumsTo_len (ts : List (List UInt8)) (h : ∀ t ∈ ts, t.length = 32) (k : Nat) (hk : k ≤ ts.length) : (sumsTo ts k).length = 32 * ts.length := by
  unfold sumsTo
  rw [List.length_append, sumsTo_pre ts h k hk, List.length_replicate]; omega
theorem sumsTo_next (ts : List (List UInt8)) (h : ∀ t ∈ ts, t.length = 32) (k : Nat) (hk : k < ts.length) : splice (cb (sumsTo ts k)) (32 * k) (cb ts[k]) = cb (sumsTo ts (k + 1)) := by
  have hp := sumsTo_pre ts h k (by omega)
  have hl : ts[k].length = 32 := h _ (List.getElem_mem hk)
  unfold splice sumsTo
  rw [cb_append, List.take_append_of_le_length (by rw [cb_len]; omega), List.take_of_length_le (by rw [cb_len]; omega), List.drop_append, List.drop_of_length_le (by rw [cb_len, cb_len]; omega), List.nil_append, flat_take ts k hk,
    cb_append, cb_append, List.append_assoc, cb_len, cb_len, hp, hl]
  congr 2
  rw [show 32 * k + 32 - 32 * k = 32 by omega, show 32 * (ts.length - k) = 32 + 32 * (ts.length - (k + 1)) by omega]
  simp [cb]

end Go.Proofs.YtlnoopmblmkgkaaGreatDoor
