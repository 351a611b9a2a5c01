/- quarter of the reference of package cipher. -/
import Derived.Test.YtnhpamfmbledmaaDoorChaD
import Derived.StillTailTactics
namespace Go.Proofs.YtnhpamfmbledmaaDoor
open Go.RowKit
set_option linter.unusedVariables false
set_option linter.unusedSimpArgs false

theorem rturn_to (x : Nat) (n : Int) (k y : Nat) (w : World) (h1 : x < 4294967296) (hk : turnK n = k) (hy : y = rotN x k) :
    Calls Tryd.prog 31 #[.int .u32 x, .int .i64 n] w fun e w' => e = .returned (.int .u32 (y : Nat)) ∧ w = w' := by
  subst hk; subst hy; exact rturn_any x n w h1

theorem wrap32_int (a b y : Nat) (h : y = add32 a b) : IntKind.u32.wrap ((a : Int) + (b : Int)) = (y : Int) := by rw [IntKind.wrap_u32]; exact add32_int a b y h

theorem put8 (x : List Nat) (a b c d a1 b1 c1 d1 ra rb rc rd : Nat) (n1 : a ≠ b) (n2 : a ≠ c) (n3 : a ≠ d) (n4 : b ≠ c) (n5 : b ≠ d) (n6 : c ≠ d) :
    (((((((x.set a a1).set d d1).set c c1).set b b1).set a ra).set d rd).set c rc).set b rb = (((x.set a ra).set b rb).set c rc).set d rd := by
  apply List.ext_getElem?
  intro i
  simp only [List.getElem?_set, List.length_set]
  by_cases ha : a = i <;> by_cases hb : b = i <;> by_cases hc : c = i <;> by_cases hd : d = i <;> simp_all

/-- The call's own list of words. -/
def Own16 (w : World) (base g cap : Nat) (L : List Nat) : Prop := w.ownsRow base 23 1 (.slice (some ⟨g, 0, none⟩) 16 cap) 16 (us L) ∧ L.length = 16
theorem Own16.cell {w : World} {base g cap : Nat} {L : List Nat} (h : Own16 w base g cap L) {j v : Nat} (hj : j < 16) (hv : L.getD j 0 = v) : w.cell? ⟨g, j, none⟩ = some (.int .u32 (v : Int)) := by
  rw [← hv]; exact own_u32 h.1 h.2 hj
theorem Own16.frozen {w : World} {base g cap : Nat} {L : List Nat} (h : Own16 w base g cap L) (j : Nat) : w.frozen? ⟨g, j, none⟩ = false := h.1.frozenAt j
theorem Own16.set {w : World} {base g cap : Nat} {L : List Nat} (h : Own16 w base g cap L) (j v : Nat) : Own16 (w.setCell ⟨g, j, none⟩ (.int .u32 (v : Int))) base g cap (L.set j v) := by
  refine ⟨?_, by rw [List.length_set]; exact h.2⟩
  have := (h.1.stored j (.int .u32 (v : Int))).1
  rw [show (us L).set j (.int .u32 (v : Int)) = us (L.set j v) by simp [us, List.map_set, uc]] at this
  exact this

set_option maxHeartbeats 600000 in
theorem rquarter_any (x : List Nat) (q : Q4) (A : Option Addr) (c B : Nat) (w : World) (h : Sl w B A 16 (us x)) (hA : A = none → c = 0) (hB : B ≤ w.heap.size) (hW : Wds x) (hq : q.apart) (y : List Nat) (hy : y = qAt x q) :
    Calls Tryd.prog 21 #[.slice A 16 c, .int .i64 q.a, .int .i64 q.b, .int .i64 q.c, .int .i64 q.d] w (RetRow 23 w 16 (us y)) := by
  have HY := Lib.hid hy
  have hxl : x.length = 16 := by have := h.1; rwa [us_len] at this
  obtain ⟨i0, hi, hz0, hz1, hz2⟩ := info_parts u32_info
  have h0 := World.ownsRow_lit (base := w.heap.size) (e := 23) (size := 1) w #[] 0 (Nat.le_refl _) (by decide) rfl
  have st := qsteps (four x q)
  have hk := qr_ok _ (four_ok hW q)
  have hf := four_ok hW q
  obtain ⟨r, hr⟩ : ∃ r, r = qr (four x q) := ⟨_, rfl⟩
  have HR := Lib.hid hr
  rw [← hr] at st hk
  clear hr hy
  obtain ⟨ha, hb, hc, hd⟩ := hf
  obtain ⟨ka, kb, kc, kd⟩ := hk
  obtain ⟨a1, x1, d1, c1, x2, b1, x3, x4, s1, s2, s3, s4, s5, s6, s7, s8, s9, s10, s11, s12⟩ := st
  obtain ⟨a0, hva⟩ : ∃ v, v = (four x q).a := ⟨_, rfl⟩
  obtain ⟨b0, hvb⟩ : ∃ v, v = (four x q).b := ⟨_, rfl⟩
  obtain ⟨c0, hvc⟩ : ∃ v, v = (four x q).c := ⟨_, rfl⟩
  obtain ⟨d0, hvd⟩ : ∃ v, v = (four x q).d := ⟨_, rfl⟩
  obtain ⟨ra, hra⟩ : ∃ v, v = r.a := ⟨_, rfl⟩
  obtain ⟨rb, hrb⟩ : ∃ v, v = r.b := ⟨_, rfl⟩
  obtain ⟨rc, hrc⟩ : ∃ v, v = r.c := ⟨_, rfl⟩
  obtain ⟨rd, hrd⟩ : ∃ v, v = r.d := ⟨_, rfl⟩
  rw [← hva] at ha s1
  rw [← hvb] at hb s1 s5
  rw [← hvc] at hc s4
  rw [← hvd] at hd s2
  rw [← hra] at ka s7 s8
  rw [← hrb] at kb s12
  rw [← hrc] at kc s10 s11
  rw [← hrd] at kd s9 s10
  have la1 : a1 < 4294967296 := by rw [s1]; exact add32_lt _ _
  have lx1 : x1 < 4294967296 := by rw [s2]; exact xor32_lt hd la1
  have ld1 : d1 < 4294967296 := by rw [s3]; exact rotN_lt _ _ lx1 (by omega)
  have lc1 : c1 < 4294967296 := by rw [s4]; exact add32_lt _ _
  have lx2 : x2 < 4294967296 := by rw [s5]; exact xor32_lt hb lc1
  have lb1 : b1 < 4294967296 := by rw [s6]; exact rotN_lt _ _ lx2 (by omega)
  have lx3 : x3 < 4294967296 := by rw [s8]; exact xor32_lt ld1 ka
  have lx4 : x4 < 4294967296 := by rw [s11]; exact xor32_lt lb1 kc
  have e1 := wrap32_int _ _ _ s1
  have e2 := xor32_int _ _ _ hd la1 s2
  have e4 := wrap32_int _ _ _ s4
  have e5 := xor32_int _ _ _ hb lc1 s5
  have e7 := wrap32_int _ _ _ s7
  have e8 := xor32_int _ _ _ ld1 ka s8
  have e10 := wrap32_int _ _ _ s10
  have e11 := xor32_int _ _ _ lb1 kc s11
  have f1 := add32_int _ _ _ s1
  have f4 := add32_int _ _ _ s4
  have f7 := add32_int _ _ _ s7
  have f10 := add32_int _ _ _ s10
  have H3 := Lib.hid s3
  have H6 := Lib.hid s6
  have H9 := Lib.hid s9
  have H12 := Lib.hid s12
  have HA := Lib.hid hra
  have HB := Lib.hid hrb
  have HC := Lib.hid hrc
  have HD := Lib.hid hrd
  have HVA : Hid (x.getD q.a 0 = a0) := hva.symm
  have HVB : Hid (x.getD q.b 0 = b0) := hvb.symm
  have HVC : Hid (x.getD q.c 0 = c0) := hvc.symm
  have HVD : Hid (x.getD q.d 0 = d0) := hvd.symm
  have HH0 := Lib.hid h0
  have HXL := Lib.hid hxl
  clear s1 s2 s3 s4 s5 s6 s7 s8 s9 s10 s11 s12 hra hrb hrc hrd hva hvb hvc hvd h0 hxl
  obtain ⟨ia, ib, ic, id, n1, n2, n3, n4, n5, n6⟩ := hq
  have ja : (q.a : Int) < 16 := by omega
  have jb : (q.b : Int) < 16 := by omega
  have jc : (q.c : Int) < 16 := by omega
  have jd : (q.d : Int) < 16 := by omega
  go_enter Tryd.func21, Tryd.ntmps21
  go_wp2_with (at_builtin; refine wpList_append_sl _ rfl _ _ 49 rfl w.heap.size 23 i0 (.int .u32 0) 4 Tryd.underlying49 hi hz0 hz1 hz2 rfl _ 0 [] rfl HH0.out B A 16 c (us x) rfl (h.alloc hB _) hA (us_one x) (by unfold maxLen; omega) (by omega) (by simp) ?_; intro v' W0 hown' hgrow hat; obtain ⟨g, cap, rfl, hgb, hgl⟩ := hown'.form (by omega))
  have hb : Below w.heap.size w W0 := below_app ((Below.refl w.heap.size w).alloc (Nat.le_refl _) _) (Nat.le_refl _) HH0.out hgrow
  have ho : Own16 W0 w.heap.size g cap x := ⟨by simpa using hown', HXL.out⟩
  clear hgrow hat HH0 hown'
  have Ga := HVA
  have Gb := HVB
  have Gc := HVC
  have Gd := HVD
  obtain ⟨L0, hL0⟩ : ∃ L, L = x := ⟨_, rfl⟩
  rw [← hL0] at ho Ga Gb Gc Gd
  have HL0 := Lib.hid hL0
  clear hL0 HVA HVB HVC HVD
  have hc1 := ho.cell ia Ga.out
  have hc2 := ho.cell ib Gb.out
  have hf := ho.frozen q.a
  have hn : Own16 (W0.setCell ⟨g, q.a, none⟩ (.int .u32 (a1 : Int))).drew w.heap.size g cap (L0.set q.a a1) := ho.set q.a a1
  have hbn := (hb.setCell (p := ⟨g, q.a, none⟩) hgb (.int .u32 (a1 : Int))).drew
  go_still_tail 12, (by kernel_rfl)
  go_wp2
  obtain ⟨W1, hWe⟩ : ∃ W, W = (W0.setCell ⟨g, q.a, none⟩ (.int .u32 (a1 : Int))).drew := ⟨_, rfl⟩
  obtain ⟨L1, hLe⟩ : ∃ L, L = L0.set q.a a1 := ⟨_, rfl⟩
  have Ga' : Hid (L1.getD q.a 0 = a1) := by unfold Hid; rw [hLe]; simp [ho.2, ia]
  have Gb' : Hid (L1.getD q.b 0 = b0) := by unfold Hid; rw [hLe, ← Gb.out]; simp [List.getElem?_set_ne n1]
  have Gc' : Hid (L1.getD q.c 0 = c0) := by unfold Hid; rw [hLe, ← Gc.out]; simp [List.getElem?_set_ne n2]
  have Gd' : Hid (L1.getD q.d 0 = d0) := by unfold Hid; rw [hLe, ← Gd.out]; simp [List.getElem?_set_ne n3]
  rw [← hWe, ← hLe] at hn
  rw [← hWe] at hbn ⊢
  have HL1 := Lib.hid hLe
  clear hc1 hc2 hf ho hb hWe hLe Ga Gb Gc Gd
  have ho := hn
  have hb := hbn
  have Ga := Ga'
  have Gb := Gb'
  have Gc := Gc'
  have Gd := Gd'
  clear hn hbn Ga' Gb' Gc' Gd'
  have hc1 := ho.cell id Gd.out
  have hc2 := ho.cell ia Ga.out
  have hf := ho.frozen q.d
  have hn : Own16 (W1.setCell ⟨g, q.d, none⟩ (.int .u32 (d1 : Int))).drew w.heap.size g cap (L1.set q.d d1) := ho.set q.d d1
  have hbn := (hb.setCell (p := ⟨g, q.d, none⟩) hgb (.int .u32 (d1 : Int))).drew
  refine wp_region_still_tail 13 (by kernel_rfl) (by kernel_rfl) ?_
  simp only [List.take_succ_cons, List.take_zero, List.drop_succ_cons, List.drop_zero]
  repeat still_step
  still_call (still_of (rturn_to x1 16 16 d1 _ lx1 (by decide) H3.out))
  repeat still_step
  refine wpStill_nil ?_
  go_wp2
  obtain ⟨W2, hWe⟩ : ∃ W, W = (W1.setCell ⟨g, q.d, none⟩ (.int .u32 (d1 : Int))).drew := ⟨_, rfl⟩
  obtain ⟨L2, hLe⟩ : ∃ L, L = L1.set q.d d1 := ⟨_, rfl⟩
  have Ga' : Hid (L2.getD q.a 0 = a1) := by unfold Hid; rw [hLe, ← Ga.out]; simp [List.getElem?_set_ne (Ne.symm n3)]
  have Gb' : Hid (L2.getD q.b 0 = b0) := by unfold Hid; rw [hLe, ← Gb.out]; simp [List.getElem?_set_ne (Ne.symm n5)]
  have Gc' : Hid (L2.getD q.c 0 = c0) := by unfold Hid; rw [hLe, ← Gc.out]; simp [List.getElem?_set_ne (Ne.symm n6)]
  have Gd' : Hid (L2.getD q.d 0 = d1) := by unfold Hid; rw [hLe]; simp [ho.2, id]
  rw [← hWe, ← hLe] at hn
  rw [← hWe] at hbn ⊢
  have HL2 := Lib.hid hLe
  clear hc1 hc2 hf ho hb hWe hLe Ga Gb Gc Gd
  have ho := hn
  have hb := hbn
  have Ga := Ga'
  have Gb := Gb'
  have Gc := Gc'
  have Gd := Gd'
  clear hn hbn Ga' Gb' Gc' Gd'
  have hc1 := ho.cell ic Gc.out
  have hc2 := ho.cell id Gd.out
  have hf := ho.frozen q.c
  have hn : Own16 (W2.setCell ⟨g, q.c, none⟩ (.int .u32 (c1 : Int))).drew w.heap.size g cap (L2.set q.c c1) := ho.set q.c c1
  have hbn := (hb.setCell (p := ⟨g, q.c, none⟩) hgb (.int .u32 (c1 : Int))).drew
  go_still_tail 12, (by kernel_rfl)
  go_wp2
  obtain ⟨W3, hWe⟩ : ∃ W, W = (W2.setCell ⟨g, q.c, none⟩ (.int .u32 (c1 : Int))).drew := ⟨_, rfl⟩
  obtain ⟨L3, hLe⟩ : ∃ L, L = L2.set q.c c1 := ⟨_, rfl⟩
  have Ga' : Hid (L3.getD q.a 0 = a1) := by unfold Hid; rw [hLe, ← Ga.out]; simp [List.getElem?_set_ne (Ne.symm n2)]
  have Gb' : Hid (L3.getD q.b 0 = b0) := by unfold Hid; rw [hLe, ← Gb.out]; simp [List.getElem?_set_ne (Ne.symm n4)]
  have Gc' : Hid (L3.getD q.c 0 = c1) := by unfold Hid; rw [hLe]; simp [ho.2, ic]
  have Gd' : Hid (L3.getD q.d 0 = d1) := by unfold Hid; rw [hLe, ← Gd.out]; simp [List.getElem?_set_ne n6]
  rw [← hWe, ← hLe] at hn
  rw [← hWe] at hbn ⊢
  have HL3 := Lib.hid hLe
  clear hc1 hc2 hf ho hb hWe hLe Ga Gb Gc Gd
  have ho := hn
  have hb := hbn
  have Ga := Ga'
  have Gb := Gb'
  have Gc := Gc'
  have Gd := Gd'
  clear hn hbn Ga' Gb' Gc' Gd'
  have hc1 := ho.cell ib Gb.out
  have hc2 := ho.cell ic Gc.out
  have hf := ho.frozen q.b
  have hn : Own16 (W3.setCell ⟨g, q.b, none⟩ (.int .u32 (b1 : Int))).drew w.heap.size g cap (L3.set q.b b1) := ho.set q.b b1
  have hbn := (hb.setCell (p := ⟨g, q.b, none⟩) hgb (.int .u32 (b1 : Int))).drew
  refine wp_region_still_tail 13 (by kernel_rfl) (by kernel_rfl) ?_
  simp only [List.take_succ_cons, List.take_zero, List.drop_succ_cons, List.drop_zero]
  repeat still_step
  still_call (still_of (rturn_to x2 12 12 b1 _ lx2 (by decide) H6.out))
  repeat still_step
  refine wpStill_nil ?_
  go_wp2
  obtain ⟨W4, hWe⟩ : ∃ W, W = (W3.setCell ⟨g, q.b, none⟩ (.int .u32 (b1 : Int))).drew := ⟨_, rfl⟩
  obtain ⟨L4, hLe⟩ : ∃ L, L = L3.set q.b b1 := ⟨_, rfl⟩
  have Ga' : Hid (L4.getD q.a 0 = a1) := by unfold Hid; rw [hLe, ← Ga.out]; simp [List.getElem?_set_ne (Ne.symm n1)]
  have Gb' : Hid (L4.getD q.b 0 = b1) := by unfold Hid; rw [hLe]; simp [ho.2, ib]
  have Gc' : Hid (L4.getD q.c 0 = c1) := by unfold Hid; rw [hLe, ← Gc.out]; simp [List.getElem?_set_ne n4]
  have Gd' : Hid (L4.getD q.d 0 = d1) := by unfold Hid; rw [hLe, ← Gd.out]; simp [List.getElem?_set_ne n5]
  rw [← hWe, ← hLe] at hn
  rw [← hWe] at hbn ⊢
  have HL4 := Lib.hid hLe
  clear hc1 hc2 hf ho hb hWe hLe Ga Gb Gc Gd
  have ho := hn
  have hb := hbn
  have Ga := Ga'
  have Gb := Gb'
  have Gc := Gc'
  have Gd := Gd'
  clear hn hbn Ga' Gb' Gc' Gd'
  have hc1 := ho.cell ia Ga.out
  have hc2 := ho.cell ib Gb.out
  have hf := ho.frozen q.a
  have hn : Own16 (W4.setCell ⟨g, q.a, none⟩ (.int .u32 (ra : Int))).drew w.heap.size g cap (L4.set q.a ra) := ho.set q.a ra
  have hbn := (hb.setCell (p := ⟨g, q.a, none⟩) hgb (.int .u32 (ra : Int))).drew
  go_still_tail 12, (by kernel_rfl)
  go_wp2
  obtain ⟨W5, hWe⟩ : ∃ W, W = (W4.setCell ⟨g, q.a, none⟩ (.int .u32 (ra : Int))).drew := ⟨_, rfl⟩
  obtain ⟨L5, hLe⟩ : ∃ L, L = L4.set q.a ra := ⟨_, rfl⟩
  have Ga' : Hid (L5.getD q.a 0 = ra) := by unfold Hid; rw [hLe]; simp [ho.2, ia]
  have Gb' : Hid (L5.getD q.b 0 = b1) := by unfold Hid; rw [hLe, ← Gb.out]; simp [List.getElem?_set_ne n1]
  have Gc' : Hid (L5.getD q.c 0 = c1) := by unfold Hid; rw [hLe, ← Gc.out]; simp [List.getElem?_set_ne n2]
  have Gd' : Hid (L5.getD q.d 0 = d1) := by unfold Hid; rw [hLe, ← Gd.out]; simp [List.getElem?_set_ne n3]
  rw [← hWe, ← hLe] at hn
  rw [← hWe] at hbn ⊢
  have HL5 := Lib.hid hLe
  clear hc1 hc2 hf ho hb hWe hLe Ga Gb Gc Gd
  have ho := hn
  have hb := hbn
  have Ga := Ga'
  have Gb := Gb'
  have Gc := Gc'
  have Gd := Gd'
  clear hn hbn Ga' Gb' Gc' Gd'
  have hc1 := ho.cell id Gd.out
  have hc2 := ho.cell ia Ga.out
  have hf := ho.frozen q.d
  have hn : Own16 (W5.setCell ⟨g, q.d, none⟩ (.int .u32 (rd : Int))).drew w.heap.size g cap (L5.set q.d rd) := ho.set q.d rd
  have hbn := (hb.setCell (p := ⟨g, q.d, none⟩) hgb (.int .u32 (rd : Int))).drew
  refine wp_region_still_tail 13 (by kernel_rfl) (by kernel_rfl) ?_
  simp only [List.take_succ_cons, List.take_zero, List.drop_succ_cons, List.drop_zero]
  repeat still_step
  still_call (still_of (rturn_to x3 8 8 rd _ lx3 (by decide) H9.out))
  repeat still_step
  refine wpStill_nil ?_
  go_wp2
  obtain ⟨W6, hWe⟩ : ∃ W, W = (W5.setCell ⟨g, q.d, none⟩ (.int .u32 (rd : Int))).drew := ⟨_, rfl⟩
  obtain ⟨L6, hLe⟩ : ∃ L, L = L5.set q.d rd := ⟨_, rfl⟩
  have Ga' : Hid (L6.getD q.a 0 = ra) := by unfold Hid; rw [hLe, ← Ga.out]; simp [List.getElem?_set_ne (Ne.symm n3)]
  have Gb' : Hid (L6.getD q.b 0 = b1) := by unfold Hid; rw [hLe, ← Gb.out]; simp [List.getElem?_set_ne (Ne.symm n5)]
  have Gc' : Hid (L6.getD q.c 0 = c1) := by unfold Hid; rw [hLe, ← Gc.out]; simp [List.getElem?_set_ne (Ne.symm n6)]
  have Gd' : Hid (L6.getD q.d 0 = rd) := by unfold Hid; rw [hLe]; simp [ho.2, id]
  rw [← hWe, ← hLe] at hn
  rw [← hWe] at hbn ⊢
  have HL6 := Lib.hid hLe
  clear hc1 hc2 hf ho hb hWe hLe Ga Gb Gc Gd
  have ho := hn
  have hb := hbn
  have Ga := Ga'
  have Gb := Gb'
  have Gc := Gc'
  have Gd := Gd'
  clear hn hbn Ga' Gb' Gc' Gd'
  have hc1 := ho.cell ic Gc.out
  have hc2 := ho.cell id Gd.out
  have hf := ho.frozen q.c
  have hn : Own16 (W6.setCell ⟨g, q.c, none⟩ (.int .u32 (rc : Int))).drew w.heap.size g cap (L6.set q.c rc) := ho.set q.c rc
  have hbn := (hb.setCell (p := ⟨g, q.c, none⟩) hgb (.int .u32 (rc : Int))).drew
  go_still_tail 12, (by kernel_rfl)
  go_wp2
  obtain ⟨W7, hWe⟩ : ∃ W, W = (W6.setCell ⟨g, q.c, none⟩ (.int .u32 (rc : Int))).drew := ⟨_, rfl⟩
  obtain ⟨L7, hLe⟩ : ∃ L, L = L6.set q.c rc := ⟨_, rfl⟩
  have Ga' : Hid (L7.getD q.a 0 = ra) := by unfold Hid; rw [hLe, ← Ga.out]; simp [List.getElem?_set_ne (Ne.symm n2)]
  have Gb' : Hid (L7.getD q.b 0 = b1) := by unfold Hid; rw [hLe, ← Gb.out]; simp [List.getElem?_set_ne (Ne.symm n4)]
  have Gc' : Hid (L7.getD q.c 0 = rc) := by unfold Hid; rw [hLe]; simp [ho.2, ic]
  have Gd' : Hid (L7.getD q.d 0 = rd) := by unfold Hid; rw [hLe, ← Gd.out]; simp [List.getElem?_set_ne n6]
  rw [← hWe, ← hLe] at hn
  rw [← hWe] at hbn ⊢
  have HL7 := Lib.hid hLe
  clear hc1 hc2 hf ho hb hWe hLe Ga Gb Gc Gd
  have ho := hn
  have hb := hbn
  have Ga := Ga'
  have Gb := Gb'
  have Gc := Gc'
  have Gd := Gd'
  clear hn hbn Ga' Gb' Gc' Gd'
  have hc1 := ho.cell ib Gb.out
  have hc2 := ho.cell ic Gc.out
  have hf := ho.frozen q.b
  have hn : Own16 (W7.setCell ⟨g, q.b, none⟩ (.int .u32 (rb : Int))).drew w.heap.size g cap (L7.set q.b rb) := ho.set q.b rb
  have hbn := (hb.setCell (p := ⟨g, q.b, none⟩) hgb (.int .u32 (rb : Int))).drew
  refine wp_region_still_tail 13 (by kernel_rfl) (by kernel_rfl) ?_
  simp only [List.take_succ_cons, List.take_zero, List.drop_succ_cons, List.drop_zero]
  repeat still_step
  still_call (still_of (rturn_to x4 7 7 rb _ lx4 (by decide) H12.out))
  repeat still_step
  refine wpStill_nil ?_
  go_wp2
  go_ret
  have HE : Hid (L7.set q.b rb = y) := by
    unfold Hid
    rw [HL7.out, HL6.out, HL5.out, HL4.out, HL3.out, HL2.out, HL1.out, HL0.out, put8 _ _ _ _ _ _ _ _ _ _ _ _ _ n1 n2 n3 n4 n5 n6, HY.out, qAt, ← HR.out, put4, HA.out, HB.out, HC.out, HD.out]
  rw [HE.out] at hn
  exact retRow rfl rfl hn.1 hbn

end Go.Proofs.YtnhpamfmbledmaaDoor
