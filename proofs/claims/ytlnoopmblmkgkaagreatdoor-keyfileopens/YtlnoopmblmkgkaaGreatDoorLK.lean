/- quarter of the reference of package cipher. -/
import Derived.Test.YtlnoopmblmkgkaaGreatDoorLC
import Derived.StillTailTactics
import Derived.Test.YtlnoopmblmkgkaaGreatDoorLI
namespace Go.Proofs.YtlnoopmblmkgkaaGreatDoor
set_option maxRecDepth 100000
open Go.RowKit
set_option linter.unusedVariables false
set_option linter.unusedSimpArgs false

theorem rturn_to (x : Nat) (n : Int) (k y : Nat) (w : World) (h1 : x < 4294967296) (hk : turnK n = k) (hy : y = rotN x k) :
    Calls Tryz.prog 139 #[.int .u32 x, .int .i64 n] w fun e w' => e = .returned (.int .u32 (y : Nat)) ∧ w = w' := by
  subst hk; subst hy; exact rturn_any x n w h1

theorem wrap32_int (a b y : Nat) (h : y = add32 a b) : IntKind.u32.wrap ((a : Int) + (b : Int)) = (y : Int) := by rw [IntKind.wrap_u32]; exact add32_int a b y h

theorem put8 (x : List Nat) (a b c d a1 b1 c1 d1 ra rb rc rd : Nat) (n1 : a ≠ b) (n2 : a ≠ c) (n3 : a ≠ d) (n4 : b ≠ c) (n5 : b ≠ d) (n6 : c ≠ d) :
    (((((((x.set a a1).set d d1).set c c1).set b b1).set a ra).set d rd).set c rc).set b rb = (((x.set a ra).set b rb).set c rc).set d rd := by
  apply List.ext_getElem?
  intro i
  simp only [List.getElem?_set, List.length_set]
  by_cases ha : a = i <;> by_cases hb : b = i <;> by_cases hc : c = i <;> by_cases hd : d = i <;> simp_all

/-- The call's own list of words. -/
def Own16 (w : World) (base g cap : Nat) (L : List Nat) : Prop := w.ownsRow base 81 1 (.slice (some ⟨g, 0, none⟩) 16 cap) 16 (us L) ∧ L.length = 16
theorem Own16.cell {w : World} {base g cap : Nat} {L : List Nat} (h : Own16 w base g cap L) {j v : Nat} (hj : j < 16) (hv : L.getD j 0 = v) : w.cell? ⟨g, j, none⟩ = some (.int .u32 (v : Int)) := by
  rw [← hv]; exact own_u32 h.1 h.2 hj
theorem Own16.frozen {w : World} {base g cap : Nat} {L : List Nat} (h : Own16 w base g cap L) (j : Nat) : w.frozen? ⟨g, j, none⟩ = false := h.1.frozenAt j
theorem Own16.set {w : World} {base g cap : Nat} {L : List Nat} (h : Own16 w base g cap L) (j v : Nat) : Own16 (w.setCell ⟨g, j, none⟩ (.int .u32 (v : Int))) base g cap (L.set j v) := by
  refine ⟨?_, by rw [List.length_set]; exact h.2⟩
  have := (h.1.stored j (.int .u32 (v : Int))).1
  rw [show (us L).set j (.int .u32 (v : Int)) = us (L.set j v) by simp [us, List.map_set, uc]] at this
  exact this

set_option maxHeartbeats 600000 in
theorem rquarter_any (x : List Nat) (q : Q4) (A : Option Addr) (c B : Nat) (w : World) (h : Sl w B A 16 (us x)) (hA : A = none → c = 0) (hB : B ≤ w.heap.size) (hW : Wds x) (hq : q.apart) (y : List Nat) (hy : y = qAt x q) :
    Calls Tryz.prog 107 #[.slice A 16 c, .int .i64 q.a, .int .i64 q.b, .int .i64 q.c, .int .i64 q.d] w (RetRow 81 w 16 (us y)) := by
  have HY := Lib.hid hy
  have hxl : x.length = 16 := by have := h.1; rwa [us_len] at this
  obtain ⟨i0, hi, hz0, hz1, hz2⟩ := info_parts u32_info
  have h0 := World.ownsRow_lit (base := w.heap.size) (e := 81) (size := 1) w #[] 0 (Nat.le_refl _) (by decide) rfl
  have st := qsteps (four x q)
  have hk := qr_ok _ (four_ok hW q)
  have hf := four_ok hW q
  obtain ⟨r, hr⟩ : ∃ r, r = qr (four x q) := ⟨_, rfl⟩
  have HR := Lib.hid hr
  rw [← hr] at st hk
  clear hr hy
  obtain ⟨ha, hb, hc, hd⟩ := hf
  obtain ⟨ka, kb, kc, kd⟩ := hk
  obtain ⟨a1, x1, d1, c1, x2, b1, x3, x4, s1, s2, s3, s4, s5, s6, s7, s8, s9, s10, s11, s12⟩ := st
  obtain ⟨a0, hva⟩ : ∃ v, v = (four x q).a := ⟨_, rfl⟩
  obtain ⟨b0, hvb⟩ : ∃ v, v = (four x q).b := ⟨_, rfl⟩
  obtain ⟨c0, hvc⟩ : ∃ v, v = (four x q).c := ⟨_, rfl⟩
  obtain ⟨d0, hvd⟩ : ∃ v, v = (four x q).d := ⟨_, rfl⟩
  obtain ⟨ra, hra⟩ : ∃ v, v = r.a := ⟨_, rfl⟩
  obtain ⟨rb, hrb⟩ : ∃ v, v = r.b := ⟨_, rfl⟩
  obtain ⟨rc, hrc⟩ : ∃ v, v = r.c := ⟨_, rfl⟩
  obtain ⟨rd, hrd⟩ : ∃ v, v = r.d := ⟨_, rfl⟩
  rw [← hva] at ha s1
  rw [← hvb] at hb s1 s5
  rw [← hvc] at hc s4
  rw [← hvd] at hd s2
  rw [← hra] at ka s7 s8
  rw [← hrb] at kb s12
  rw [← hrc] at kc s10 s11
  rw [← hrd] at kd s9 s10
  have la1 : a1 < 4294967296 := by rw [s1]; exact add32_lt _ _
  have lx1 : x1 < 4294967296 := by rw [s2]; exact xor32_lt hd la1
  have ld1 : d1 < 4294967296 := by rw [s3]; exact rotN_lt _ _ lx1 (by omega)
  have lc1 : c1 < 4294967296 := by rw [s4]; exact add32_lt _ _
  have lx2 : x2 < 4294967296 := by rw [s5]; exact xor32_lt hb lc1
  have lb1 : b1 < 4294967296 := by rw [s6]; exact rotN_lt _ _ lx2 (by omega)
  have lx3 : x3 < 4294967296 := by rw [s8]; exact xor32_lt ld1 ka
  have lx4 : x4 < 4294967296 := by rw [s11]; exact xor32_lt lb1 kc
  have e1 := wrap32_int _ _ _ s1
  have e2 := xor32_int _ _ _ hd la1 s2
  have e4 := wrap32_int _ _ _ s4
  have e5 := xor32_int _ _ _ hb lc1 s5
  have e7 := wrap32_int _ _ _ s7
  have e8 := xor32_int _ _ _ ld1 ka s8
  have e10 := wrap32_int _ _ _ s10
  have e11 := xor32_int _ _ _ lb1 kc s11
  have f1 := add32_int _ _ _ s1
  have f4 := add32_int _ _ _ s4
  have f7 := add32_int _ _ _ s7
  have f10 := add32_int _ _ _ s10
  have H3 := Lib.hid s3
  have H6 := Lib.hid s6
  have H9 := Lib.hid s9
  have H12 := Lib.hid s12
  have HA := Lib.hid hra
  have HB := Lib.hid hrb
  have HC := Lib.hid hrc
  have HD := Lib.hid hrd
  have HVA : Hid (x.getD q.a 0 = a0) := hva.symm
  have HVB : Hid (x.getD q.b 0 = b0) := hvb.symm
  have HVC : Hid (x.getD q.c 0 = c0) := hvc.symm
  have HVD : Hid (x.getD q.d 0 = d0) := hvd.symm
  have HH0 := Lib.hid h0
  have HXL := Lib.hid hxl
  clear s1 s2 s3 s4 s5 s6 s7 s8 s9 s10 s11 s12 hra hrb hrc hrd hva hvb hvc hvd h0 hxl
  obtain ⟨ia, ib, ic, id, n1, n2, n3, n4, n5, n6⟩ := hq
  have ja : (q.a : Int) < 16 := by omega
  have jb : (q.b : Int) < 16 := by omega
  have jc : (q.c : Int) < 16 := by omega
  have jd : (q.d : Int) < 16 := by omega
  go_enter Tryz.func107, Tryz.ntmps107
  go_wp2_with (at_builtin; refine wpList_append_sl _ rfl _ _ 135 rfl w.heap.size 81 i0 (.int .u32 0) 4 Tryz.underlying135 hi hz0 hz1 hz2 rfl _ 0 [] rfl HH0.out B A 16 c (us x) rfl (h.alloc hB _) hA (us_one x) (by unfold maxLen; omega) (by omega) (by simp) ?_; intro v' W0 hown' hgrow hat; obtain ⟨g, cap, rfl, hgb, hgl⟩ := hown'.form (by omega))
  have hb : Below w.heap.size w W0 := below_app ((Below.refl w.heap.size w).alloc (Nat.le_refl _) _) (Nat.le_refl _) HH0.out hgrow
  have ho : Own16 W0 w.heap.size g cap x := ⟨by simpa using hown', HXL.out⟩
  clear hgrow hat HH0 hown'
  have Ga := HVA
  have Gb := HVB
  have Gc := HVC
  have Gd := HVD
  obtain ⟨L0, hL0⟩ : ∃ L, L = x := ⟨_, rfl⟩
  rw [← hL0] at ho Ga Gb Gc Gd
  have HL0 := Lib.hid hL0
  clear hL0 HVA HVB HVC HVD
  have hc1 := ho.cell ia Ga.out
  have hc2 := ho.cell ib Gb.out
  have hf := ho.frozen q.a
  have hn : Own16 (W0.setCell ⟨g, q.a, none⟩ (.int .u32 (a1 : Int))).drew w.heap.size g cap (L0.set q.a a1) := ho.set q.a a1
  have hbn := (hb.setCell (p := ⟨g, q.a, none⟩) hgb (.int .u32 (a1 : Int))).drew
  go_still_tail 12, (by kernel_rfl)
  go_wp2
  obtain ⟨W1, hWe⟩ : ∃ W, W = (W0.setCell ⟨g, q.a, none⟩ (.int .u32 (a1 : Int))).drew := ⟨_, rfl⟩
  obtain ⟨L1, hLe⟩ : ∃ L, L = L0.set q.a a1 := ⟨_, rfl⟩
  have Ga' : Hid (L1.getD q.a 0 = a1) := by unfold Hid; rw [hLe]; simp [ho.2, ia]
  have Gb' : Hid (L1.getD q.b 0 = b0) := by unfold Hid; rw [hLe, ← Gb.out]; simp [List.getElem?_set_ne n1]
  have Gc' : Hid (L1.getD q.c 0 = c0) := by unfold Hid; rw [hLe, ← Gc.out]; simp [List.getElem?_set_ne n2]
  have Gd' : Hid (L1.getD q.d 0 = d0) := by unfold Hid; rw [hLe, ← Gd.out]; simp [List.getElem?_set_ne n3]
  rw [← hWe, ← hLe] at hn
  rw [← hWe] at hbn ⊢
  have HL1 := Lib.hid hLe
  clear hc1 hc2 hf ho hb hWe hLe Ga Gb Gc Gd
  have ho := hn
  have hb := hbn
  have Ga := Ga'
  have Gb := Gb'
  have Gc := Gc'
  have Gd := Gd'
  clear hn hbn Ga' Gb' Gc' Gd'
  have hc1 := ho.cell id Gd.out
  have hc2 := ho.cell ia Ga.out
  have hf := ho.frozen q.d
  have hn : Own16 (W1.setCell ⟨g, q.d, none⟩ (.int .u32 (d1 : Int))).drew w.heap.size g cap (L1.set q.d d1) := ho.set q.d d1
  have hbn := (hb.setCell (p := ⟨g, q.d, none⟩) hgb (.int .u32 (d1 : Int))).drew
  refine wp_region_still_tail 13 (by kernel_rfl) (by kernel_rfl) ?_
  simp only [List.take_succ_cons, List.take_zero, List.drop_succ_cons, List.drop_zero]
  repeat still_step
  still_call (still_of (rturn_to x1 16 16 d1 _ lx1 (by decide) H3.out))
  repeat still_step
  refine wpStill_nil ?_
  go_wp2
  obtain ⟨W2, hWe⟩ : ∃ W, W = (W1.setCell ⟨g, q.d, none⟩ (.int .u32 (d1 : Int))).drew := ⟨_, rfl⟩
  obtain ⟨L2, hLe⟩ : ∃ L, L = L1.set q.d d1 := ⟨_, rfl⟩
  have Ga' : Hid (L2.getD q.a 0 = a1) := by unfold Hid; rw [hLe, ← Ga.out]; simp [List.getElem?_set_ne (Ne.symm n3)]
  have Gb' : Hid (L2.getD q.b 0 = b0) := by unfold Hid; rw [hLe, ← Gb.out]; simp [List.getElem?_set_ne (Ne.symm n5)]
  have Gc' : Hid (L2.getD q.c 0 = c0) := by unfold Hid; rw [hLe, ← Gc.out]; simp [List.getElem?_set_ne (Ne.symm n6)]
  have Gd' : Hid (L2.getD q.d 0 = d1) := by unfold Hid; rw [hLe]; simp [ho.2, id]
  rw [← hWe, ← hLe] at hn
  rw [← hWe] at hbn ⊢
  have HL2 := Lib.hid hLe
  clear hc1 hc2 hf ho hb hWe hLe Ga Gb Gc Gd
  have ho := hn
  have hb := hbn
  have Ga := Ga'
  have Gb := Gb'
  have Gc := Gc'
  have Gd := Gd'
  clear hn hbn Ga' Gb' Gc' Gd'
  have hc1 := ho.cell ic Gc.out
  have hc2 := ho.cell id Gd.out
  have hf := ho.frozen q.c
  have hn : Own16 (W2.setCell ⟨g, q.c, none⟩ (.int .u32 (c1 : Int))).drew w.heap.size g cap (L2.set q.c c1) := ho.set q.c c1
  have hbn := (hb.setCell (p := ⟨g, q.c, none⟩) hgb (.int .u32 (c1 : Int))).drew
  go_still_tail 12, (by kernel_rfl)
  go_wp2
  obtain ⟨W3, hWe⟩ : ∃ W, W = (W2.setCell ⟨g, q.c, none⟩ (.int .u32 (c1 : Int))).drew := ⟨_, rfl⟩
  obtain ⟨L3, hLe⟩ : ∃ L, L = L2.set q.c c1 := ⟨_, rfl⟩
  have Ga' : Hid (L3.getD q.a 0 = a1) := by unfold Hid; rw [hLe, ← Ga.out]; simp [List.getElem?_set_ne (Ne.symm n2)]
  have Gb' : Hid (L3.getD q.b 0 = b0) := by unfold Hid; rw [hLe, ← Gb.out]; simp [List.getElem?_set_ne (Ne.symm n4)]
  have Gc' : Hid (L3.getD q.c 0 = c1) := by unfold Hid; rw [hLe]; simp [ho.2, ic]
  have Gd' : Hid (L3.getD q.d 0 = d1) := by unfold Hid; rw [hLe, ← Gd.out]; simp [List.getElem?_set_ne n6]
  rw [← hWe, ← hLe] at hn
  rw [← hWe] at hbn ⊢
  have HL3 := Lib.hid hLe
  clear hc1 hc2 hf ho hb hWe hLe Ga Gb Gc Gd
  have ho := hn
  have hb := hbn
  have Ga := Ga'
  have Gb := Gb'
  have Gc := Gc'
  have Gd := Gd'
  clear hn hbn Ga' Gb' Gc' Gd'
  have hc1 := ho.cell ib Gb.out
  have hc2 := ho.cell ic Gc.out
  have hf := ho.frozen q.b
  have hn : Own16 (W3.setCell ⟨g, q.b, none⟩ (.int .u32 (b1 : Int))).drew w.heap.size g cap (L3.set q.b b1) := ho.set q.b b1
  have hbn := (hb.setCell (p := ⟨g, q.b, none⟩) hgb (.int .u32 (b1 : Int))).drew
  refine wp_region_still_tail 13 (by kernel_rfl) (by kernel_rfl) ?_
  simp only [List.take_succ_cons, List.take_zero, List.drop_succ_cons, List.drop_zero]
  repeat still_step
  still_call (still_of (rturn_to x2 12 12 b1 _ lx2 (by decide) H6.out))
  repeat still_step
  refine wpStill_nil ?_
  go_wp2
  obtain ⟨W4, hWe⟩ : ∃ W, W = (W3.setCell ⟨g, q.b, none⟩ (.int .u32 (b1 : Int))).drew := ⟨_, rfl⟩
  obtain ⟨L4, hLe⟩ : ∃ L, L = L3.set q.b b1 := ⟨_, rfl⟩
  have Ga' : Hid (L4.getD q.a 0 = a1) := by unfold Hid; rw [hLe, ← Ga.out]; simp [List.getElem?_set_ne (Ne.symm n1)]
  have Gb' : Hid (L4.getD q.b 0 = b1) := by unfold Hid; rw [hLe]; simp [ho.2, ib]
  have Gc' : Hid (L4.getD q.c 0 = c1) := by unfold Hid; rw [hLe, ← Gc.out]; simp [List.getElem?_set_ne n4]
  have Gd' : Hid (L4.getD q.d 0 = d1) := by unfold Hid; rw [hLe, ← Gd.out]; simp [List.getElem?_set_ne n5]
  rw [← hWe, ← hLe] at hn
  rw [← hWe] at hbn ⊢
  have HL4 := Lib.hid hLe
  clear hc1 hc2 hf ho hb hWe hLe Ga Gb Gc Gd
  have ho := hn
  have hb := hbn
  have Ga := Ga'
  have Gb := Gb'
  have Gc := Gc'
  have Gd := Gd'
  clear hn hbn Ga' Gb' Gc' Gd'
  have hc1 := ho.cell ia Ga.out
  have hc2 := ho.cell ib Gb.out
  have hf := ho.frozen q.a
  have hn : Own16 (W4.setCell ⟨g, q.a, none⟩ (.int .u32 (ra : Int))).drew w.heap.size g cap (L4.set q.a ra) := ho.set q.a ra
  have hbn := (hb.setCell (p := ⟨g, q.a, none⟩) hgb (.int .u32 (ra : Int))).drew
  go_still_tail 12, (by kernel_rfl)
  go_wp2
  obtain ⟨W5, hWe⟩ : ∃ W, W = (W4.setCell ⟨g, q.a, none⟩ (.int .u32 (ra : Int))).drew := ⟨_, rfl⟩
  obtain ⟨L5, hLe⟩ : ∃ L, L = L4.set q.a ra := ⟨_, rfl⟩
  have Ga' : Hid (L5.getD q.a 0 = ra) := by unfold Hid; rw [hLe]; simp [ho.2, ia]
  have Gb' : Hid (L5.getD q.b 0 = b1) := by unfold Hid; rw [hLe, ← Gb.out]; simp [List.getElem?_set_ne n1]
  have Gc' : Hid (L5.getD q.c 0 = c1) := by unfold Hid; rw [hLe, ← Gc.out]; simp [List.getElem?_set_ne n2]
  have Gd' : Hid (L5.getD q.d 0 = d1) := by unfold Hid; rw [hLe, ← Gd.out]; simp [List.getElem?_set_ne n3]
  rw [← hWe, ← hLe] at hn
  rw [← hWe] at hbn ⊢
  have HL5 := Lib.hid hLe
  clear hc1 hc2 hf ho hb hWe hLe Ga Gb Gc Gd
  have ho := hn
  have hb := hbn
  have Ga := Ga'
  have Gb := Gb'
  have Gc := Gc'
  have Gd := Gd'
  clear hn hbn Ga' Gb' Gc' Gd'
  have hc1 := ho.cell id Gd.out
  have hc2 := ho.cell ia Ga.out
  have hf := ho.frozen q.d
  have hn : Own16 (W5.setCell ⟨g, q.d, none⟩ (.int .u32 (rd : Int))).drew w.heap.size g cap (L5.set q.d rd) := ho.set q.d rd
  have hbn := (hb.setCell (p := ⟨g, q.d, none⟩) hgb (.int .u32 (rd : Int))).drew
  refine wp_region_still_tail 13 (by kernel_rfl) (by kernel_rfl) ?_
  simp only [List.take_succ_cons, List.take_zero, List.drop_succ_cons, List.drop_zero]
  repeat still_step
  still_call (still_of (rturn_to x3 8 8 rd _ lx3 (by decide) H9.out))
  repeat still_step
  refine wpStill_nil ?_
  go_wp2
  obtain ⟨W6, hWe⟩ : ∃ W, W = (W5.setCell ⟨g, q.d, none⟩ (.int .u32 (rd : Int))).drew := ⟨_, rfl⟩
  obtain ⟨L6, hLe⟩ : ∃ L, L = L5.set q.d rd := ⟨_, rfl⟩
  have Ga' : Hid (L6.getD q.a 0 = ra) := by unfold Hid; rw [hLe, ← Ga.out]; simp [List.getElem?_set_ne (Ne.symm n3)]
  have Gb' : Hid (L6.getD q.b 0 = b1) := by unfold Hid; rw [hLe, ← Gb.out]; simp [List.getElem?_set_ne (Ne.symm n5)]
  have Gc' : Hid (L6.getD q.c 0 = c1) := by unfold Hid; rw [hLe, ← Gc.out]; simp [List.getElem?_set_ne (Ne.symm n6)]
  have Gd' : Hid (L6.getD q.d 0 = rd) := by unfold Hid; rw [hLe]; simp [ho.2, id]
  rw [← hWe, ← hLe] at hn
  rw [← hWe] at hbn ⊢
  have HL6 := Lib.hid hLe
  clear hc1 hc2 hf ho hb hWe hLe Ga Gb Gc Gd
  have ho := hn
  have hb := hbn
  have Ga := Ga'
  have Gb := Gb'
  have Gc := Gc'
  have Gd := Gd'
  clear hn hbn Ga' Gb' Gc' Gd'
  have hc1 := ho.cell ic Gc.out
  have hc2 := ho.cell id Gd.out
  have hf := ho.frozen q.c
  have hn : Own16 (W6.setCell ⟨g, q.c, none⟩ (.int .u32 (rc : Int))).drew w.heap.size g cap (L6.set q.c rc) := ho.set q.c rc
  have hbn := (hb.setCell (p := ⟨g, q.c, none⟩) hgb (.int .u32 (rc : Int))).drew
  go_still_tail 12, (by kernel_rfl)
  go_wp2
  obtain ⟨W7, hWe⟩ : ∃ W, W = (W6.setCell ⟨g, q.c, none⟩ (.int .u32 (rc : Int))).drew := ⟨_, rfl⟩
  obtain ⟨L7, hLe⟩ : ∃ L, L = L6.set q.c rc := ⟨_, rfl⟩
  have Ga' : Hid (L7.getD q.a 0 = ra) := by unfold Hid; rw [hLe, ← Ga.out]; simp [List.getElem?_set_ne (Ne.symm n2)]
  have Gb' : Hid (L7.getD q.b 0 = b1) := by unfold Hid; rw [hLe, ← Gb.out]; simp [List.getElem?_set_ne (Ne.symm n4)]
  have Gc' : Hid (L7.getD q.c 0 = rc) := by unfold Hid; rw [hLe]; simp [ho.2, ic]
  have Gd' : Hid (L7.getD q.d 0 = rd) := by unfold Hid; rw [hLe, ← Gd.out]; simp [List.getElem?_set_ne n6]
  rw [← hWe, ← hLe] at hn
  rw [← hWe] at hbn ⊢
  have HL7 := Lib.hid hLe
  clear hc1 hc2 hf ho hb hWe hLe Ga Gb Gc Gd
  have ho := hn
  have hb := hbn
  have Ga := Ga'
  have Gb := Gb'
  have Gc := Gc'
  have Gd := Gd'
  clear hn hbn Ga' Gb' Gc' Gd'
  have hc1 := ho.cell ib Gb.out
  have hc2 := ho.cell ic Gc.out
  have hf := ho.frozen q.b
  have hn : Own16 (W7.setCell ⟨g, q.b, none⟩ (.int .u32 (rb : Int))).drew w.heap.size g cap (L7.set q.b rb) := ho.set q.b rb
  have hbn := (hb.setCell (p := ⟨g, q.b, none⟩) hgb (.int .u32 (rb : Int))).drew
  refine wp_region_still_tail 13 (by kernel_rfl) (by kernel_rfl) ?_
  simp only [List.take_succ_cons, List.take_zero, List.drop_succ_cons, List.drop_zero]
  repeat still_step
  still_call (still_of (rturn_to x4 7 7 rb _ lx4 (by decide) H12.out))
  repeat still_step
  refine wpStill_nil ?_
  go_wp2
  go_ret
  have HE : Hid (L7.set q.b rb = y) := by
    unfold Hid
    rw [HL7.out, HL6.out, HL5.out, HL4.out, HL3.out, HL2.out, HL1.out, HL0.out, put8 _ _ _ _ _ _ _ _ _ _ _ _ _ n1 n2 n3 n4 n5 n6, HY.out, qAt, ← HR.out, put4, HA.out, HB.out, HC.out, HD.out]
  rw [HE.out] at hn
  exact retRow rfl rfl hn.1 hbn

end Go.Proofs.YtlnoopmblmkgkaaGreatDoor

namespace Go.Proofs.YtlnoopmblmkgkaaGreatDoor
set_option maxRecDepth 100000
open Go.RowKit
set_option linter.unusedVariables false
set_option linter.unusedSimpArgs false

theorem us_one_snoc (l : List UInt8) (k y : Nat) (hy : y = wdL l k) : us (wdsL l (k + 1)) = us (wdsL l k) ++ [.int .u32 (y : Int)] := by
  rw [wdsL_succ, us_append, hy]; rfl

set_option maxHeartbeats 400000 in
theorem crwords_any (l : List UInt8) (m : Nat) (w : World) (B : Nat) (A : Option Addr) (n c : Nat) (h : Sl w B A n (cb l)) (h4 : n = 4 * m) (hm : n ≤ 1000) (hc : n ≤ c) (hA : A = none → c = 0) (hB : B ≤ w.heap.size) :
    Calls Tryz.prog 106 #[.slice A n c] w (RetRow 81 w m (us (wdsL l m))) := by
  obtain ⟨i0, hi, hz0, hz1, hz2⟩ := info_parts u32_info
  have H4 := Lib.hid h4
  have hmb : m ≤ 250 := by omega
  clear h4
  go_enter Tryz.func106, Tryz.ntmps106
  go_wp2
  go_loopw [3, 4] (fun v i wr => ∃ k K4 : Nat, k ≤ m ∧ Hid (K4 = 4 * k) ∧ i = .int .i64 (K4 : Int) ∧ wr.ownsRow w.heap.size 81 1 v k (us (wdsL l k)) ∧ Below w.heap.size w wr) (fun _ i _ => 4 * m - (intOf i).toNat)
  case atStart => exact ⟨0, 0, Nat.zero_le _, (rfl : _ = _), rfl, World.ownsRow_nil _ _ _ _, Below.refl _ _⟩
  case round =>
    obtain ⟨k, K4, hk, HK4, rfl, hown, hbel⟩ := hrel
    have hK4 := HK4.out
    have hK4b : K4 ≤ 1000 := by have := H4.out; omega
    by_cases hlt : k < m
    · have hle : K4 + 4 ≤ n := by have := H4.out; omega
      have hsl := h.below (hbel.mono hB)
      have hs2 := sl_mid (l := K4) (h := K4 + 4) hsl (by omega) (by omega) hc
      rw [show K4 + 4 - K4 = 4 by omega, ← cb_slice] at hs2
      obtain ⟨y, hy⟩ : ∃ y, y = wdL l k := ⟨_, rfl⟩
      have HY : Hid (loadV ((l.drop K4).take 4) true = y) := by unfold Hid; rw [hy, hK4]; rfl
      have HS := Lib.hid (us_one_snoc l k y hy)
      have hbz := hbel.size
      have HS2 := Lib.hid hs2
      clear hy hK4 hs2 hsl
      go_wp2_with (refine wpList_slice_lh rfl 22 _ _ _ rfl 5 Tryz.underlying22 u8_size A n c K4 (K4 + 4) .i64 .i64 _ _ rfl rfl rfl rfl (by omega) (by omega) (by omega) hA ?_; intro A2 HA2)
      have hs3 := HS2.out
      rw [← HA2.out] at hs3
      refine (rload_any ((l.drop K4).take 4) true _ _ _ _ _ hs3 (by decide) (Nat.le_trans hB hbz)).mono ?_
      rintro e w1 ⟨rfl, hb1⟩
      rw [HY.out]
      have hown1 := own_below hown hb1
      have hbw1 := next hbel hb1
      have hbz1 := hbw1.size
      clear hown hbel hb1 hs3 HS2
      go_wp2_with (at_builtin; refine wpList_append_own_at _ rfl _ _ 135 rfl w.heap.size 81 i0 (.int .u32 0) 1 4 Tryz.underlying135 hi hz0 hz1 hz2 rfl (by decide) _ _ _ rfl (hown1.alloc _) ⟨w1.heap.size, 0, none⟩ 1 1 _ rfl rfl (cell_one_new _ _ _) (by simp [Value.oneCell']) (by unfold maxLen; omega) (by omega) (by simp; omega) ?_; intro v' w2 hown' hgrow hnil hat)
      have hb2 := below_app1 hbw1 (Nat.le_refl _) hown1 hgrow
      have HO := Lib.hid hown'
      clear hown' hgrow hnil hat hown1
      go_wp2
      go_roundw
      case rel => exact ⟨k + 1, K4 + 4, by omega, (by have := HK4.out; omega : K4 + 4 = 4 * (k + 1)), by go_num, by rw [HS.out]; exact HO.out, hb2⟩
      case measure => simp [intOf]; have := HK4.out; omega
    · have HK : Hid (k = m) := (by omega : k = m)
      clear hK4
      have hgt : ¬ (K4 : Int) + 4 ≤ (n : Int) := by have := HK4.out; have := H4.out; omega
      go_wp2
      go_ret
      exact retRow HK.out (by rw [HK.out]) hown hbel

end Go.Proofs.YtlnoopmblmkgkaaGreatDoor

namespace Go.Proofs.YtlnoopmblmkgkaaGreatDoor
set_option maxRecDepth 100000
open Go.RowKit
set_option linter.unusedVariables false
set_option linter.unusedSimpArgs false

/-- quarter at places that are written out. -/
theorem rq_lit (x : List Nat) (q : Q4) (a b c d : Int) (A : Option Addr) (k : Nat) (w : World) (h : Sl w w.heap.size A 16 (us x)) (hA : A = none → k = 0) (hW : Wds x) (hq : q.apart) (y : List Nat) (hy : y = qAt x q) (ea : a = q.a) (eb : b = q.b) (ec : c = q.c) (ed : d = q.d) :
    Calls Tryz.prog 107 #[.slice A 16 k, .int .i64 a, .int .i64 b, .int .i64 c, .int .i64 d] w (RetRow 81 w 16 (us y)) := by
  subst ea; subst eb; subst ec; subst ed
  exact rquarter_any x q A k _ w h hA (Nat.le_refl _) hW hq y hy

/-- append onto a slice of the call's own, as one operation. -/
theorem wp_append_sl {P : Program} {o : Oper} {a : Act} {w : World} {K : Act → World → Prop} {Q : Exit → Act → World → Prop} (s x : Operand) (t : TypeId)
    (ho : o.op = .call { callee := .builtin .append, args := #[s, x], argTypes := #[t, t] })
    (base : Nat) (e : TypeId) (i : TypeInfo) (z : Value) (bytes : Nat) (ht : P.underlying t = some (.slice e)) (hi : P.info? e = some i) (hz : i.zero = some z)
    (hsize : i.size = 1) (hby : i.bytes = bytes) (hzs : z.cells.size = 1)
    (v : Value) (n : Nat) (xs : List Value) (hs : a.eval s = v) (hown : w.ownsRow base e 1 v n xs)
    (B : Nat) (A : Option Addr) (m c : Nat) (news : List Value) (hx : a.eval x = .slice A m c) (hr : Sl w B A m news) (hc : A = none → c = 0) (h1 : ∀ u ∈ news, u.oneCell' = true)
    (h63 : n + m ≤ maxLen) (hbytes : (n + m) * bytes ≤ 140737488355328) (hbase : base ≤ w.heap.size)
    (h : ∀ v' w', w'.ownsRow base e 1 v' (n + m) (xs ++ news) → w.grownBy w' v.ownBlock → (v'.ownBlock = v.ownBlock ∨ v'.ownBlock = some w.heap.size) → K (a.put o.dst v') w') : Oper.wp P o a w K Q := by
  obtain ⟨v', w', hrun, h2, h3, h4⟩ := run_append_sl (P := P) w base t o.type e i z bytes ht hi hz hsize hby hzs v n xs hown B A m c news hr hc h1 h63 hbytes hbase
  unfold Oper.wp execOp
  simp only [ho, resolve, invoke, builtin, Sem.run_bind, Sem.run_pure, Result.andThen_ok, List.map_toArray, List.map_cons, List.map_nil, hs, hx, hrun]
  exact h v' w' h2 h3 h4

theorem us_cst : Instr.fill (fun j => some (j, 1)) (zeros .u32 4).toArray [(0, .int .u32 1634760805), (1, .int .u32 857760878), (2, .int .u32 2036477234), (3, .int .u32 1797285236)] = some (us cst).toArray := by rfl

theorem st_cells (K N : List Nat) (n : Nat) : us cst ++ us K ++ [.int .u32 (n : Int)] ++ us N = us (cst ++ (K ++ (n :: N))) := by simp [us, uc]

theorem quTo8 (x : List Nat) : quTo x 8 = qAt (qAt (qAt (qAt (qAt (qAt (qAt (qAt x (quarAt 0)) (quarAt 1)) (quarAt 2)) (quarAt 3)) (quarAt 4)) (quarAt 5)) (quarAt 6)) (quarAt 7) := rfl

set_option maxRecDepth 100000 in
set_option maxHeartbeats 1000000 in
theorem crblock_any (key nonce : List UInt8) (n : Nat) (w : World) (A0 A1 : Option Addr) (c0 c1 : Nat) (h0 : Sl w w.heap.size A0 32 (cb key)) (h1 : Sl w w.heap.size A1 12 (cb nonce)) (k0 : 32 ≤ c0) (k1 : 12 ≤ c1) (z0 : A0 = none → c0 = 0) (z1 : A1 = none → c1 = 0) (hn : n < 4294967296) (O : List UInt8) (hO : O = cblk key nonce n) :
    Calls Tryz.prog 73 #[.slice A0 32 c0, .slice A1 12 c1, .int .u32 n] w (RetBytes 5 w 64 O) := by
  obtain ⟨i0, hi, hz0, hz1, hz2⟩ := info_parts u32_info
  obtain ⟨j0, hj', hy0, hy1, hy2⟩ := info_parts u8_info
  have HO := Lib.hid hO
  obtain ⟨C, hC⟩ : ∃ C, C = us cst := ⟨_, rfl⟩
  have HCL : Hid (C.length = 4) := by unfold Hid; rw [hC]; rfl
  have HFI := us_cst
  rw [← hC] at HFI
  have HFI' := Lib.hid HFI
  have hl := World.ownsRow_lit (base := w.heap.size) (e := 81) (size := 1) w C.toArray 4 (Nat.le_refl _) (by decide) (by rw [List.size_toArray, HCL.out])
  have hb1 : Below w.heap.size w (w.alloc (.cells C.toArray 81)) := (Below.refl _ w).alloc (Nat.le_refl _) _
  obtain ⟨W1, hW1⟩ : ∃ W, W = w.alloc (.cells C.toArray 81) := ⟨_, rfl⟩
  rw [← hW1] at hl hb1
  have HW1 := Lib.hid hW1
  have HC := Lib.hid hC
  clear hC HFI hW1 hO
  go_enter Tryz.func73, Tryz.ntmps73
  go_wp2_with (refine wpList_buildSlice_to rfl 135 4 _ rfl 81 i0 .u32 Tryz.underlying135 hi hz0 hz1 (by omega) (by omega) C HFI'.out ?_; rw [← HW1.out])
  refine (crwords_any key 8 _ _ _ 32 c0 (h0.nx hb1) rfl (by omega) k0 z0 (Nat.le_refl _)).mono ?_
  rintro e w2 ⟨A2, d2, rfl, ho2, hb2⟩
  have hl2 := own_below hl hb2
  have hbw2 := next hb1 hb2
  have hs2 := Sl.own ho2
  have hn2 := own_none ho2
  have hbz2 := hbw2.size
  clear hl hb1 hb2 ho2
  obtain ⟨K, hK⟩ : ∃ K, K = wdsL key 8 := ⟨_, rfl⟩
  rw [← hK] at hs2
  have HKK := Lib.hid hK
  clear hK
  go_wp2_with (first
    | (at_builtin; refine wpList_append_sl _ rfl _ _ 135 rfl w.heap.size 81 i0 (.int .u32 0) 4 Tryz.underlying135 hi hz0 hz1 hz2 rfl _ 4 _ rfl hl2 _ A2 8 d2 (us K) rfl hs2 hn2 (us_one _) (by unfold maxLen; omega) (by omega) hbz2 ?_; intro v3 w3 hown3 hgrow3 hat3; have hb3 := below_app hbw2 (Nat.le_refl _) hl2 hgrow3; have hbz3 := hb3.size; clear hs2 hn2 hgrow3 hat3; obtain ⟨gA, cA, rfl, _, _⟩ := hown3.form (by omega))
    | (at_builtin; have hk3 := hbz3; refine wpList_append_own_at _ rfl _ _ 135 rfl w.heap.size 81 i0 (.int .u32 0) 1 4 Tryz.underlying135 hi hz0 hz1 hz2 rfl (by decide) _ _ _ rfl (hown3.alloc _) ⟨w3.heap.size, 0, none⟩ 1 1 _ rfl rfl (cell_one_new _ _ _) (by simp [Value.oneCell']) (by unfold maxLen; omega) (by omega) (by simp; omega) ?_; intro v4 w4 hown4 hgrow4 hnil4 hat4; have hb4 := below_app1 hb3 (Nat.le_refl _) hown3 hgrow4; have hbz4 := hb4.size; clear hgrow4 hnil4 hat4 hk3 hbz3; obtain ⟨gB, cB, rfl, _, _⟩ := hown4.form (by omega)))
  refine (crwords_any nonce 3 _ _ _ 12 c1 (h1.nx hb4) rfl (by omega) k1 z1 (Nat.le_refl _)).mono ?_
  rintro e w5 ⟨A5, d5, rfl, ho5, hb5⟩
  have hl5 := own_below hown4 hb5
  have hbw5 := next hb4 hb5
  have hs5 := Sl.own ho5
  have hn5 := own_none ho5
  have hbz5 := hbw5.size
  clear hl2 hown3 hb3 hown4 hb4 hb5 ho5 hbw2 hbz4
  obtain ⟨N, hN⟩ : ∃ N, N = wdsL nonce 3 := ⟨_, rfl⟩
  rw [← hN] at hs5
  have HN := Lib.hid hN
  clear hN
  go_wp2_with (at_builtin; refine wpList_append_sl _ rfl _ _ 135 rfl w.heap.size 81 i0 (.int .u32 0) 4 Tryz.underlying135 hi hz0 hz1 hz2 rfl _ _ _ rfl hl5 _ A5 3 d5 (us N) rfl hs5 hn5 (us_one _) (by unfold maxLen; omega) (by omega) hbz5 ?_; intro v6 w6 hown6 hgrow6 hat6; have hb6 := below_app hbw5 (Nat.le_refl _) hl5 hgrow6; clear hs5 hn5 hgrow6 hat6; obtain ⟨gF, cF, rfl, _, _⟩ := hown6.form (by omega))
  obtain ⟨F, hF⟩ : ∃ F, F = stOf key nonce n := ⟨_, rfl⟩
  have HE : Hid (C ++ us K ++ [.int .u32 (n : Int)] ++ us N = us F) := by unfold Hid; rw [HC.out, st_cells, hF, HKK.out, HN.out]; rfl
  have HFL : Hid (F.length = 16) := by unfold Hid; rw [hF, stOf_len]
  have HFW : Hid (Wds F) := by unfold Hid; rw [hF]; exact stOf_ok _ _ _ hn
  have HF := Lib.hid hF
  rw [HE.out] at hown6
  have hF6 : Sl w6 w6.heap.size (some ⟨gF, 0, none⟩) 16 (us F) := Sl.own hown6
  clear hF hl5 hown6 hbw5 hbz5 hbz2
  go_loopw [8, 9] (fun v i wr => ∃ (k : Nat) (A : Option Addr) (c : Nat), k ≤ 10 ∧ i = .int .i64 k ∧ v = .slice A 16 c ∧ (A = none → c = 0) ∧ Sl wr wr.heap.size A 16 (us (rds F k)) ∧ Sl wr wr.heap.size (some ⟨gF, 0, none⟩) 16 (us F) ∧ Below w.heap.size w wr) (fun _ i _ => 10 - (intOf i).toNat)
  case atStart => exact ⟨0, _, _, by omega, rfl, rfl, (fun h => by cases h), hF6, hF6, hb6⟩
  case round =>
    clear hF6 hb6
    obtain ⟨k, B0, d0, hk, rfl, rfl, f0, z0, g0, hb0⟩ := hrel
    obtain ⟨X0, hX0⟩ : ∃ X, X = rds F k := ⟨_, rfl⟩
    rw [← hX0] at z0
    have HX0 := Lib.hid hX0
    have HW0 : Hid (Wds X0) := by unfold Hid; rw [hX0]; exact rds_ok HFW.out _
    clear hX0
    by_cases hlt : k < 10
    · obtain ⟨v0, hv0⟩ : ∃ x, x = wr := ⟨wr, rfl⟩
      subst hv0
      obtain ⟨X1, hX⟩ : ∃ X, X = qAt X0 (quarAt 0) := ⟨_, rfl⟩
      have HX1 := Lib.hid hX
      have HW1 : Hid (Wds X1) := by unfold Hid; rw [hX]; exact qAt_ok HW0.out _
      go_wp2_with fail
      refine (rq_lit X0 (quarAt 0) 0 4 8 12 B0 d0 _ z0 f0 HW0.out (quar_apart 0 (by omega)) X1 hX rfl rfl rfl rfl).mono ?_
      clear hX
      rintro e v1 ⟨B1, d1, rfl, ho, hbn⟩
      have z1 := Sl.own ho
      have f1 := own_none ho
      have g1 := g0.nx hbn
      have hb1 := next hb0 hbn
      clear ho hbn z0 f0 g0 hb0
      obtain ⟨X2, hX⟩ : ∃ X, X = qAt X1 (quarAt 1) := ⟨_, rfl⟩
      have HX2 := Lib.hid hX
      have HW2 : Hid (Wds X2) := by unfold Hid; rw [hX]; exact qAt_ok HW1.out _
      go_wp2_with fail
      refine (rq_lit X1 (quarAt 1) 1 5 9 13 B1 d1 _ z1 f1 HW1.out (quar_apart 1 (by omega)) X2 hX rfl rfl rfl rfl).mono ?_
      clear hX
      rintro e v2 ⟨B2, d2, rfl, ho, hbn⟩
      have z2 := Sl.own ho
      have f2 := own_none ho
      have g2 := g1.nx hbn
      have hb2 := next hb1 hbn
      clear ho hbn z1 f1 g1 hb1
      obtain ⟨X3, hX⟩ : ∃ X, X = qAt X2 (quarAt 2) := ⟨_, rfl⟩
      have HX3 := Lib.hid hX
      have HW3 : Hid (Wds X3) := by unfold Hid; rw [hX]; exact qAt_ok HW2.out _
      go_wp2_with fail
      refine (rq_lit X2 (quarAt 2) 2 6 10 14 B2 d2 _ z2 f2 HW2.out (quar_apart 2 (by omega)) X3 hX rfl rfl rfl rfl).mono ?_
      clear hX
      rintro e v3 ⟨B3, d3, rfl, ho, hbn⟩
      have z3 := Sl.own ho
      have f3 := own_none ho
      have g3 := g2.nx hbn
      have hb3 := next hb2 hbn
      clear ho hbn z2 f2 g2 hb2
      obtain ⟨X4, hX⟩ : ∃ X, X = qAt X3 (quarAt 3) := ⟨_, rfl⟩
      have HX4 := Lib.hid hX
      have HW4 : Hid (Wds X4) := by unfold Hid; rw [hX]; exact qAt_ok HW3.out _
      go_wp2_with fail
      refine (rq_lit X3 (quarAt 3) 3 7 11 15 B3 d3 _ z3 f3 HW3.out (quar_apart 3 (by omega)) X4 hX rfl rfl rfl rfl).mono ?_
      clear hX
      rintro e v4 ⟨B4, d4, rfl, ho, hbn⟩
      have z4 := Sl.own ho
      have f4 := own_none ho
      have g4 := g3.nx hbn
      have hb4 := next hb3 hbn
      clear ho hbn z3 f3 g3 hb3
      obtain ⟨X5, hX⟩ : ∃ X, X = qAt X4 (quarAt 4) := ⟨_, rfl⟩
      have HX5 := Lib.hid hX
      have HW5 : Hid (Wds X5) := by unfold Hid; rw [hX]; exact qAt_ok HW4.out _
      go_wp2_with fail
      refine (rq_lit X4 (quarAt 4) 0 5 10 15 B4 d4 _ z4 f4 HW4.out (quar_apart 4 (by omega)) X5 hX rfl rfl rfl rfl).mono ?_
      clear hX
      rintro e v5 ⟨B5, d5, rfl, ho, hbn⟩
      have z5 := Sl.own ho
      have f5 := own_none ho
      have g5 := g4.nx hbn
      have hb5 := next hb4 hbn
      clear ho hbn z4 f4 g4 hb4
      obtain ⟨X6, hX⟩ : ∃ X, X = qAt X5 (quarAt 5) := ⟨_, rfl⟩
      have HX6 := Lib.hid hX
      have HW6 : Hid (Wds X6) := by unfold Hid; rw [hX]; exact qAt_ok HW5.out _
      go_wp2_with fail
      refine (rq_lit X5 (quarAt 5) 1 6 11 12 B5 d5 _ z5 f5 HW5.out (quar_apart 5 (by omega)) X6 hX rfl rfl rfl rfl).mono ?_
      clear hX
      rintro e v6 ⟨B6, d6, rfl, ho, hbn⟩
      have z6 := Sl.own ho
      have f6 := own_none ho
      have g6 := g5.nx hbn
      have hb6 := next hb5 hbn
      clear ho hbn z5 f5 g5 hb5
      obtain ⟨X7, hX⟩ : ∃ X, X = qAt X6 (quarAt 6) := ⟨_, rfl⟩
      have HX7 := Lib.hid hX
      have HW7 : Hid (Wds X7) := by unfold Hid; rw [hX]; exact qAt_ok HW6.out _
      go_wp2_with fail
      refine (rq_lit X6 (quarAt 6) 2 7 8 13 B6 d6 _ z6 f6 HW6.out (quar_apart 6 (by omega)) X7 hX rfl rfl rfl rfl).mono ?_
      clear hX
      rintro e v7 ⟨B7, d7, rfl, ho, hbn⟩
      have z7 := Sl.own ho
      have f7 := own_none ho
      have g7 := g6.nx hbn
      have hb7 := next hb6 hbn
      clear ho hbn z6 f6 g6 hb6
      obtain ⟨X8, hX⟩ : ∃ X, X = qAt X7 (quarAt 7) := ⟨_, rfl⟩
      have HX8 := Lib.hid hX
      have HW8 : Hid (Wds X8) := by unfold Hid; rw [hX]; exact qAt_ok HW7.out _
      go_wp2_with fail
      refine (rq_lit X7 (quarAt 7) 3 4 9 14 B7 d7 _ z7 f7 HW7.out (quar_apart 7 (by omega)) X8 hX rfl rfl rfl rfl).mono ?_
      clear hX
      rintro e v8 ⟨B8, d8, rfl, ho, hbn⟩
      have z8 := Sl.own ho
      have f8 := own_none ho
      have g8 := g7.nx hbn
      have hb8 := next hb7 hbn
      clear ho hbn z7 f7 g7 hb7
      have HNX : Hid (X8 = rds F (k + 1)) := by
        unfold Hid
        rw [rds, ← HX0.out, quTo8, HX8.out, HX7.out, HX6.out, HX5.out, HX4.out, HX3.out, HX2.out, HX1.out]
      go_wp2
      go_roundw
      case rel => exact ⟨k + 1, _, _, by omega, by go_num, rfl, f8, by rw [← HNX.out]; exact z8, g8, hb8⟩
      case measure => simp [intOf]; omega
    · have HK : Hid (k = 10) := (by omega : k = 10)
      obtain ⟨w7, hw7⟩ : ∃ x, x = wr := ⟨wr, rfl⟩
      subst hw7
      obtain ⟨ad, rfl, hadb, hcR⟩ := z0.2 (by omega)
      obtain ⟨Z, hZ⟩ : ∃ Z, Z = sumL X0 F := ⟨_, rfl⟩
      have HX0L : Hid (X0.length = 16) := by unfold Hid; have := z0.1; rwa [us_len] at this
      have HZL : Hid (Z.length = 16) := by unfold Hid; rw [hZ, sumL_len _ _ (by rw [HX0L.out, HFL.out]), HX0L.out]
      have HOZ : Hid (O = outL Z) := by unfold Hid; rw [HO.out, cblk, blkS, ← HF.out, hZ, HX0.out, HK.out]
      have HCR := Lib.hid hcR
      have HG := Lib.hid g0
      have hbz := hb0.size
      have HZZ := Lib.hid hZ
      clear z0 hcR g0 hZ
      go_wp2
      go_loopw [10, 11] (fun v i wr => ∃ j : Nat, j ≤ 16 ∧ i = .int .i64 j ∧ wr.ownsRow w7.heap.size 5 1 v (4 * j) (cb (outL (Z.take j))) ∧ Below w7.heap.size w7 wr) (fun _ i _ => 16 - (intOf i).toNat)
      case atStart => exact ⟨0, by omega, rfl, World.ownsRow_nil _ _ _ _, Below.refl _ _⟩
      case round =>
        obtain ⟨j, hj, rfl, hown, hbel⟩ := hrel
        obtain ⟨Av, cv, rfl⟩ := own_form hown
        by_cases hjl : j < 16
        · obtain ⟨r, hr⟩ : ∃ r, r = X0.getD j 0 := ⟨_, rfl⟩
          obtain ⟨y, hy⟩ : ∃ y, y = F.getD j 0 := ⟨_, rfl⟩
          obtain ⟨z, hz⟩ : ∃ z, z = add32 r y := ⟨_, rfl⟩
          have ez := wrap32_int _ _ _ hz
          have hzl : z < 4294967296 := by rw [hz]; exact add32_lt _ _
          have HS : Hid (outL (Z.take (j + 1)) = outL (Z.take j) ++ stored z true) := by
            unfold Hid
            rw [outL_take _ _ (by rw [HZL.out]; exact hjl), HZZ.out, sumL_at _ _ _ (by rw [HX0L.out]; exact hjl) (by rw [HFL.out]; exact hjl), ← hr, ← hy, ← hz]
          obtain ⟨S, hSd⟩ : ∃ S : World → Prop, S = fun w' => Below w7.heap.size w7 w' := ⟨_, rfl⟩
          have HSI : Hid (∀ w', Below w7.heap.size w7 w' → S w') := by unfold Hid; intro w' h; rw [hSd]; exact h
          have HSR : Hid (∀ w', S w' → w'.cell? (ad.add j) = some (.int .u32 (r : Int))) := by
            unfold Hid; intro w' h; rw [hSd] at h
            rw [h.cell (by rw [add_block]; exact hadb)]
            exact HCR.out j _ (by rw [us_at (by rw [HX0L.out]; exact hjl), hr])
          have HSF : Hid (∀ w', S w' → w'.cell? ⟨gF, j, none⟩ = some (.int .u32 (y : Int))) := by
            unfold Hid; intro w' h; rw [hSd] at h
            exact (HG.out.nx h).cell0 (by rw [us_at (by rw [HFL.out]; exact hjl), hy])
          have hji : (j : Int) < 16 := by omega
          have hbd : Below w7.heap.size w7 wr.drew := hbel.drew
          have hS := HSI.out _ hbd
          have hownd : wr.drew.ownsRow w7.heap.size 5 1 (.slice Av (4 * j) cv) (4 * j) (cb (outL (Z.take j))) := hown
          clear hr hy hz hSd hown hbel
          go_wp2
          refine wp_region_held_drew (S := S) (by kernel_rfl) hS (fun _ => ?_)
          refine wpAnyH_take (i := 0) (v := (.slice Av (4 * j) cv)) rfl (by kernel_rfl) (by kernel_rfl) (by kernel_rfl) (fun _ _ _ h => h) (Or.inl ⟨by rfl, fun _ hSw => by go_simp⟩) hS ?_
          simp only [List.getElem_toArray, List.getElem_cons_succ, List.getElem_cons_zero, Act.put, List.setIfInBounds_toArray, List.set_cons_zero, List.set_cons_succ]
          refine wpAnyH_take (i := 1) (v := (.slice (some ad) 16 d0)) rfl (by kernel_rfl) (by kernel_rfl) (by kernel_rfl) (fun _ _ _ h => h) (Or.inl ⟨by rfl, fun _ hSw => by go_simp⟩) hS ?_
          simp only [List.getElem_toArray, List.getElem_cons_succ, List.getElem_cons_zero, Act.put, List.setIfInBounds_toArray, List.set_cons_zero, List.set_cons_succ]
          refine wpAnyH_take (i := 2) (v := (.int .i64 (j : Int))) rfl (by kernel_rfl) (by kernel_rfl) (by kernel_rfl) (fun _ _ _ h => h) (Or.inl ⟨by rfl, fun _ hSw => by go_simp⟩) hS ?_
          simp only [List.getElem_toArray, List.getElem_cons_succ, List.getElem_cons_zero, Act.put, List.setIfInBounds_toArray, List.set_cons_zero, List.set_cons_succ]
          refine wpAnyH_take (i := 3) (v := (.pointer (some (ad.add j)))) rfl (by kernel_rfl) (by kernel_rfl) (by kernel_rfl) (fun _ _ _ h => h) (Or.inl ⟨by rfl, fun _ hSw => by go_simp⟩) hS ?_
          simp only [List.getElem_toArray, List.getElem_cons_succ, List.getElem_cons_zero, Act.put, List.setIfInBounds_toArray, List.set_cons_zero, List.set_cons_succ]
          refine wpAnyH_take (i := 4) (v := .int .u32 (r : Int)) rfl (by kernel_rfl) (by kernel_rfl) (by kernel_rfl) (fun _ _ _ h => h) (Or.inl ⟨by rfl, fun w' hSw => by have hq := HSR.out w' hSw; go_simp⟩) hS ?_
          simp only [List.getElem_toArray, List.getElem_cons_succ, List.getElem_cons_zero, Act.put, List.setIfInBounds_toArray, List.set_cons_zero, List.set_cons_succ]
          refine wpAnyH_take (i := 5) (v := (.slice (some ⟨gF, 0, none⟩) 16 cF)) rfl (by kernel_rfl) (by kernel_rfl) (by kernel_rfl) (fun _ _ _ h => h) (Or.inl ⟨by rfl, fun _ hSw => by go_simp⟩) hS ?_
          simp only [List.getElem_toArray, List.getElem_cons_succ, List.getElem_cons_zero, Act.put, List.setIfInBounds_toArray, List.set_cons_zero, List.set_cons_succ]
          refine wpAnyH_take (i := 6) (v := (.int .i64 (j : Int))) rfl (by kernel_rfl) (by kernel_rfl) (by kernel_rfl) (fun _ _ _ h => h) (Or.inl ⟨by rfl, fun _ hSw => by go_simp⟩) hS ?_
          simp only [List.getElem_toArray, List.getElem_cons_succ, List.getElem_cons_zero, Act.put, List.setIfInBounds_toArray, List.set_cons_zero, List.set_cons_succ]
          refine wpAnyH_take (i := 7) (v := (.pointer (some ⟨gF, j, none⟩))) rfl (by kernel_rfl) (by kernel_rfl) (by kernel_rfl) (fun _ _ _ h => h) (Or.inl ⟨by rfl, fun _ hSw => by go_simp⟩) hS ?_
          simp only [List.getElem_toArray, List.getElem_cons_succ, List.getElem_cons_zero, Act.put, List.setIfInBounds_toArray, List.set_cons_zero, List.set_cons_succ]
          refine wpAnyH_take (i := 8) (v := .int .u32 (y : Int)) rfl (by kernel_rfl) (by kernel_rfl) (by kernel_rfl) (fun _ _ _ h => h) (Or.inl ⟨by rfl, fun w' hSw => by have hq := HSF.out w' hSw; go_simp⟩) hS ?_
          simp only [List.getElem_toArray, List.getElem_cons_succ, List.getElem_cons_zero, Act.put, List.setIfInBounds_toArray, List.set_cons_zero, List.set_cons_succ]
          refine wpAnyH_take (i := 9) (v := (.int .u32 (z : Int))) rfl (by kernel_rfl) (by kernel_rfl) (by kernel_rfl) (fun _ _ _ h => h) (Or.inl ⟨by rfl, fun _ hSw => by go_simp⟩) hS ?_
          simp only [List.getElem_toArray, List.getElem_cons_succ, List.getElem_cons_zero, Act.put, List.setIfInBounds_toArray, List.set_cons_zero, List.set_cons_succ]
          refine wpAnyH_ready (rs := [10]) (by kernel_rfl) (by simp) (AllReadyH.cons rfl (fun K hK => ?_) AllReadyH.nil)
          simp only [List.getElem_toArray, List.getElem_cons_succ, List.getElem_cons_zero, Act.put, List.setIfInBounds_toArray, List.set_cons_zero, List.set_cons_succ]
          go_simp
          refine (rstore_any z true _ hzl).mono ?_
          rintro e w8 ⟨A8, c8, rfl, hnew⟩
          have hown8 := own_below hownd hnew.below
          have hb8 : Below w7.heap.size w7 w8 := next hbd hnew.below
          replace hS := HSI.out _ hb8
          refine hK.out _ _ hS (fun _ => ?_)
          clear hK K hownd hbd
          have hs8 := hnew.sl
          have hn8 := hnew.none_
          have hbz8 := hb8.size
          refine wpAnyH_ready (rs := [11]) (by kernel_rfl) (by simp) (AllReadyH.cons rfl (fun K hK => ?_) AllReadyH.nil)
          simp only [List.getElem_toArray, List.getElem_cons_succ, List.getElem_cons_zero, Act.put, List.setIfInBounds_toArray, List.set_cons_zero, List.set_cons_succ]
          rw [if_pos (by rfl)]
          refine wp_append_sl _ _ 22 rfl w7.heap.size 5 j0 (.int .u8 0) 1 Tryz.underlying22 hj' hy0 hy1 hy2 rfl _ (4 * j) _ rfl hown8 _ A8 4 c8 (cb (stored z true)) rfl hs8 hn8 (cb_one _) (by unfold maxLen; omega) (by omega) hbz8 ?_
          intro v9 w9 hown9 hgrow9 hat9
          have hb9 : Below w7.heap.size w7 w9 := below_app hb8 (Nat.le_refl _) hown8 hgrow9
          rw [← cb_append, ← HS.out] at hown9
          have HO9 := Lib.hid hown9
          replace hS := HSI.out _ hb9
          refine hK.out _ _ hS (fun _ => ?_)
          clear hK K hown8 hgrow9 hs8 hown9 hnew hb8 hat9
          simp only [List.getElem_toArray, List.getElem_cons_succ, List.getElem_cons_zero, Act.put, List.setIfInBounds_toArray, List.set_cons_zero, List.set_cons_succ]
          refine wpAnyH_take (i := 12) (v := (v9)) rfl (by kernel_rfl) (by kernel_rfl) (by kernel_rfl) (fun _ _ _ h => h) (Or.inl ⟨by rfl, fun _ hSw => by go_simp⟩) hS ?_
          simp only [List.getElem_toArray, List.getElem_cons_succ, List.getElem_cons_zero, Act.put, List.setIfInBounds_toArray, List.set_cons_zero, List.set_cons_succ]
          refine wpAnyH_done (by kernel_rfl) ?_ _
          go_wp2
          go_roundw
          case rel => exact ⟨j + 1, by omega, by go_num, by rw [show 4 * (j + 1) = 4 * j + 4 by omega]; exact HO9.out, hb9⟩
          case measure => simp [intOf]; omega
        · have HJ : Hid (j = 16) := (by omega : j = 16)
          go_wp2
          go_ret
          exact retBytes (by rw [HJ.out]) (by rw [HJ.out, List.take_of_length_le (by rw [HZL.out]; omega), HOZ.out]) (own_down hown (by omega)) (hb0.trans (hbel.mono hbz))

end Go.Proofs.YtlnoopmblmkgkaaGreatDoor

namespace Go.Proofs.YtlnoopmblmkgkaaGreatDoor
set_option maxRecDepth 100000
open Go.RowKit
set_option linter.unusedVariables false
set_option linter.unusedSimpArgs false

theorem rmix_none (key nonce b : List UInt8) (f : Nat) (A0 A1 A3 : Option Addr) (n0 n1 n3 c0 c1 c3 : Nat) (w : World) (h0 : Sl w w.heap.size A0 n0 (cb key)) (h1 : Sl w w.heap.size A1 n1 (cb nonce)) (hfit : ¬ fitK key nonce = true) :
    Calls Tryz.prog 70 #[.slice A0 n0 c0, .slice A1 n1 c1, .int .u32 f, .slice A3 n3 c3] w (RetFill 5 w (mixR key nonce f b) (mixE key nonce f b)) := by
  have hn0 : n0 = key.length := by rw [← h0.1, cb_len]
  have hn1 : n1 = nonce.length := by rw [← h1.1, cb_len]
  have hq : (n0 == 32 && n1 == 12) = false := by rw [hn0, hn1]; simpa [fitK] using hfit
  have HR : Hid (mixR key nonce f b = []) := by unfold Hid mixR; rw [if_neg hfit]
  have HE : Hid (mixE key nonce f b = 1) := by unfold Hid mixE; rw [if_neg hfit]
  have hf := cright_any n0 n1 c0 c1 A0 A1 w
  rw [hq] at hf
  have HF := Lib.hid hf
  clear hf hq hn0 hn1 hfit
  go_enter Tryz.func70, Tryz.ntmps70
  go_wp2_with fail
  refine HF.out.mono ?_
  rintro e w' ⟨rfl, rfl⟩
  go_wp2
  go_ret2
  rw [HR.out, HE.out]
  exact ⟨none, 0, 0, rfl, World.ownsRow_nil _ _ _ _, Below.refl _ _⟩

theorem blks_case (n k : Nat) (hk : k = blksN n) : ((n : Int) % 64 = 0 ∧ (n : Int) / 64 = (k : Int)) ∨ (0 < (n : Int) % 64 ∧ (n : Int) / 64 + 1 = (k : Int)) := by
  subst hk; unfold blksN; omega

theorem rmix_cap (key nonce b : List UInt8) (f : Nat) (A0 A1 A3 : Option Addr) (n0 n1 n3 c0 c1 c3 : Nat) (w : World) (hf : f < 4294967296) (h0 : Sl w w.heap.size A0 n0 (cb key)) (h1 : Sl w w.heap.size A1 n1 (cb nonce)) (h3 : Sl w w.heap.size A3 n3 (cb b)) (hm : n3 ≤ 1000000000) (hfit : fitK key nonce = true) (hcap : ¬ blksN b.length ≤ 4294967296 - f) :
    Calls Tryz.prog 70 #[.slice A0 n0 c0, .slice A1 n1 c1, .int .u32 f, .slice A3 n3 c3] w (RetFill 5 w (mixR key nonce f b) (mixE key nonce f b)) := by
  have hn0 : n0 = key.length := by rw [← h0.1, cb_len]
  have hn1 : n1 = nonce.length := by rw [← h1.1, cb_len]
  have hn3 : n3 = b.length := by rw [← h3.1, cb_len]
  have hq : (n0 == 32 && n1 == 12) = true := by rw [hn0, hn1]; simpa [fitK] using hfit
  have HR : Hid (mixR key nonce f b = []) := by unfold Hid mixR; rw [if_pos hfit, if_neg hcap]
  have HE : Hid (mixE key nonce f b = 10) := by unfold Hid mixE; rw [if_pos hfit, if_neg hcap]
  have hff := cright_any n0 n1 c0 c1 A0 A1 w
  rw [hq] at hff
  have HF := Lib.hid hff
  rw [← hn3] at hcap
  obtain ⟨k, hk⟩ : ∃ k, k = blksN n3 := ⟨_, rfl⟩
  have hkb : k ≤ 100000000 := by rw [hk]; unfold blksN; omega
  rw [← hk] at hcap
  have hcs := blks_case n3 k hk
  have hgt : (4294967296 : Int) - (f : Int) < (k : Int) := by omega
  clear hff hq hn0 hn1 hn3 hfit hcap hk
  rcases hcs with ⟨hr, hd⟩ | ⟨hr, hd⟩
  all_goals
    go_enter Tryz.func70, Tryz.ntmps70
    go_wp2_with fail
    refine HF.out.mono ?_
    rintro e w' ⟨rfl, rfl⟩
    go_wp2
    go_ret2
    rw [HR.out, HE.out]
    exact ⟨none, 0, 0, rfl, World.ownsRow_nil _ _ _ _, Below.refl _ _⟩

theorem mixL_take (key nonce : List UInt8) (f : Nat) (b : List UInt8) (j : Nat) (hj : j < b.length) (x y : UInt8) (hx : b[j]? = some x) (hy : (cblk key nonce (f + j / 64))[j % 64]? = some y) : cb ((mixL key nonce f b).take (j + 1)) = cb ((mixL key nonce f b).take j) ++ [.int .u8 ((x ^^^ y).toNat : Int)] := by
  have h : (mixL key nonce f b)[j]? = some (x ^^^ y) := by
    simp [mixL, hj, List.getD_eq_getElem?_getD, hx, hy]
    simpa [List.getElem?_eq_getElem hj] using hx
  exact cb_take_succ _ _ _ h

end Go.Proofs.YtlnoopmblmkgkaaGreatDoor

namespace Go.Proofs.YtlnoopmblmkgkaaGreatDoor
set_option maxRecDepth 100000
open Go.RowKit
set_option linter.unusedVariables false
set_option linter.unusedSimpArgs false

/-- No byte of a slice lies in the block that v owns. -/
def Apart (v : Value) (A : Option Addr) : Prop := ∀ g, v.ownBlock = some g → ∀ ad, A = some ad → ad.block ≠ g

set_option maxRecDepth 100000 in
set_option maxHeartbeats 1000000 in
theorem rmix_main (key nonce b : List UInt8) (f : Nat) (A0 A1 A3 : Option Addr) (n c0 c1 c3 : Nat) (w : World) (hf : f < 4294967296) (h0 : Sl w w.heap.size A0 32 (cb key)) (h1 : Sl w w.heap.size A1 12 (cb nonce)) (h3 : Sl w w.heap.size A3 n (cb b)) (k0 : 32 ≤ c0) (k1 : 12 ≤ c1) (z0 : A0 = none → c0 = 0) (z1 : A1 = none → c1 = 0) (hm : n ≤ 1000000000) (hcap : blksN n ≤ 4294967296 - f) :
    Calls Tryz.prog 70 #[.slice A0 32 c0, .slice A1 12 c1, .int .u32 f, .slice A3 n c3] w (RetFill 5 w (mixL key nonce f b) 0) := by
  have hn3 : n = b.length := by rw [← h3.1, cb_len]
  have HN3 := Lib.hid hn3
  obtain ⟨j0, hj', hy0, hy1, hy2⟩ := info_parts u8_info
  have HF : Hid (Calls Tryz.prog 69 #[.slice A0 32 c0, .slice A1 12 c1] w fun e w' => e = .returned (.bool true) ∧ w = w') := cright_any 32 12 c0 c1 A0 A1 _
  obtain ⟨k, hk⟩ : ∃ k, k = blksN n := ⟨_, rfl⟩
  have hkb : k ≤ 100000000 := by rw [hk]; unfold blksN; omega
  rw [← hk] at hcap
  have hcs := blks_case n k hk
  have hgt : ¬ (4294967296 : Int) - (f : Int) < (k : Int) := by omega
  have HKQ : Hid (∀ j, j < n → j / 64 < k) := by unfold Hid; intro j hj; rw [hk]; unfold blksN; omega
  obtain ⟨M, hM⟩ : ∃ M, M = mixL key nonce f b := ⟨_, rfl⟩
  rw [← hM]
  have HML : Hid (M.length = n) := by unfold Hid; rw [hM, mixL_len, HN3.out]
  have HM := Lib.hid hM
  clear hn3 hk hM
  rcases hcs with ⟨hr, hd⟩ | ⟨hr, hd⟩
  all_goals
    go_enter Tryz.func70, Tryz.ntmps70
    go_wp2_with fail
    refine HF.out.mono ?_
    rintro e w' ⟨rfl, rfl⟩
    go_wp2
    clear hr hd hgt
    go_loopw [11, 12, 13] (fun v x i wr => ∃ (j : Nat) (Ax : Option Addr) (nx cx : Nat), j ≤ n ∧ i = .int .i64 j ∧ x = .slice Ax nx cx ∧ (j % 64 ≠ 0 → nx = 64 ∧ Sl wr wr.heap.size Ax 64 (cb (cblk key nonce (f + j / 64))) ∧ Apart v Ax) ∧ wr.ownsRow w.heap.size 5 1 v j (cb (M.take j)) ∧ Below w.heap.size w wr) (fun _ _ i _ => n - (intOf i).toNat)
    case atStart => exact ⟨0, none, 0, 0, by omega, rfl, rfl, (fun h => absurd rfl h), World.ownsRow_nil _ _ _ _, Below.refl _ _⟩
    case round =>
      obtain ⟨j, Ax, nx, cx, hj, rfl, rfl, hx, hown, hbel⟩ := hrel
      obtain ⟨Av, cv, rfl⟩ := own_form hown
      by_cases hjl : j < n
      · obtain ⟨q, hq⟩ : ∃ q, q = j / 64 := ⟨_, rfl⟩
        obtain ⟨m, hm'⟩ : ∃ m, m = j % 64 := ⟨_, rfl⟩
        obtain ⟨N, hN⟩ : ∃ N, N = f + q := ⟨_, rfl⟩
        have hqk := HKQ.out j hjl
        rw [← hq] at hqk hx
        rw [← hm'] at hx
        rw [← hN] at hx
        obtain ⟨Bk, hBk⟩ : ∃ B, B = cblk key nonce N := ⟨_, rfl⟩
        rw [← hBk] at hx
        have HBL : Hid (Bk.length = 64) := by unfold Hid; rw [hBk, cblk_len]
        have hml : m < 64 := by omega
        have e1 : (j : Int) / 64 = (q : Int) := by omega
        have e2 : (j : Int) % 64 = (m : Int) := by omega
        have e3 : (f : Int) + (q : Int) = (N : Int) := by omega
        have hNl : N < 4294967296 := by omega
        have hql : q < 4294967296 := by omega
        obtain ⟨xb, hxb⟩ : ∃ x, b[j]? = some x := ⟨_, List.getElem?_eq_getElem (by rw [← HN3.out]; exact hjl)⟩
        obtain ⟨yb, hyb⟩ : ∃ y, Bk[m]? = some y := ⟨_, List.getElem?_eq_getElem (by rw [HBL.out]; exact hml)⟩
        have HS : Hid (cb (M.take (j + 1)) = cb (M.take j) ++ [.int .u8 ((xb ^^^ yb).toNat : Int)]) := by
          unfold Hid; rw [HM.out]; exact mixL_take key nonce f b j (by rw [← HN3.out]; exact hjl) xb yb hxb (by rw [← hq, ← hN, ← hBk, ← hm']; exact hyb)
        have HQ := Lib.hid hq
        have HMM := Lib.hid hm'
        have HNN := Lib.hid hN
        have HBk := Lib.hid hBk
        have HXB := Lib.hid hxb
        have HYB := Lib.hid hyb
        clear hq hm' hN hBk hxb hyb hqk
        have hcase : (m = 0 ∧ (1 : Nat) ≤ 2) ∨ (m ≠ 0 ∧ (1 : Nat) ≤ 2) := by omega
        rcases hcase with ⟨hm0, _⟩ | ⟨hm0, _⟩
        all_goals first
          | (have hq0 : ((m : Int) == 0) = true := (by rw [hm0]; rfl)
             go_wp2_with fail
             refine (crblock_any key nonce N _ A0 A1 c0 c1 (h0.nx hbel) (h1.nx hbel) k0 k1 z0 z1 hNl Bk HBk.out).mono ?_
             rintro e Wc ⟨Xa, Xc, rfl, hnew⟩
             have hsx := hnew.sl
             have hownc := own_below hown hnew.below
             have hbelc := next hbel hnew.below
             have hdis : Apart (.slice Av j cv) Xa := (fun g hg ad e => by have h1 := own_lt hown hg; have h2 := own_new (w' := wr) hnew.own ad e; omega)
             clear hnew hown hbel hx
             go_wp2)
          | (have hq0 : ((m : Int) == 0) = false := (by simp; omega)
             obtain ⟨Wc, hWc⟩ : ∃ x, x = wr := ⟨wr, rfl⟩
             subst hWc
             obtain ⟨rfl, hsx, hdis⟩ := hx hm0
             obtain ⟨Xa, hXa⟩ : ∃ x, x = Ax := ⟨Ax, rfl⟩
             subst hXa
             obtain ⟨Xc, hXc⟩ : ∃ x, x = cx := ⟨cx, rfl⟩
             subst hXc
             have hownc := hown
             have hbelc := hbel
             clear hx hown hbel
             go_wp2)
        all_goals
          obtain ⟨adx, rfl, hxblk, hcx⟩ := hsx.2 (by omega)
          obtain ⟨adb, eA, hbblk, hcb⟩ := (h3.below hbelc).2 (by omega)
          have hcb1 := hcb j (.int .u8 (xb.toNat : Int)) (by simp [cb, HXB.out, bc])
          have hcx1 := hcx m (.int .u8 (yb.toNat : Int)) (by simp [cb, HYB.out, bc])
          have hbz := hbelc.size
          obtain ⟨S, hSd⟩ : ∃ S : World → Prop, S = fun w' => w'.cell? (adb.add j) = some (.int .u8 (xb.toNat : Int)) ∧ w'.cell? (adx.add m) = some (.int .u8 (yb.toNat : Int)) := ⟨_, rfl⟩
          have HSI : Hid (∀ w', w'.heap[adb.block]? = Wc.heap[adb.block]? → w'.heap[adx.block]? = Wc.heap[adx.block]? → S w') := by
            unfold Hid; intro w' ha hb; rw [hSd]
            exact ⟨by rw [World.cell?_of_block (w := Wc) (by rw [add_block]; exact ha)]; exact hcb1, by rw [World.cell?_of_block (w := Wc) (by rw [add_block]; exact hb)]; exact hcx1⟩
          have HSb : Hid (∀ w', S w' → w'.cell? (adb.add j) = some (.int .u8 (xb.toNat : Int))) := by unfold Hid; intro w' h; rw [hSd] at h; exact h.1
          have HSx : Hid (∀ w', S w' → w'.cell? (adx.add m) = some (.int .u8 (yb.toNat : Int))) := by unfold Hid; intro w' h; rw [hSd] at h; exact h.2
          have hS : S Wc.drew := HSI.out _ rfl rfl
          have hxx := xb.toNat_lt
          have hyy := yb.toNat_lt
          have hji : (j : Int) < (n : Int) := by omega
          have hmi : (m : Int) < 64 := by omega
          obtain ⟨zb, hzb⟩ : ∃ z, z = xb ^^^ yb := ⟨_, rfl⟩
          have HX : Hid (bits BinOp.xor IntKind.u8 (xb.toNat : Int) (yb.toNat : Int) = (zb.toNat : Int)) := by unfold Hid; rw [hzb]; exact byte_xor2 xb yb
          have HS2 : Hid (cb (M.take (j + 1)) = cb (M.take j) ++ [.int .u8 (zb.toNat : Int)]) := by unfold Hid; rw [HS.out, hzb]
          have hzl := zb.toNat_lt
          clear hzb HS
          have e4 : (j : Int).tmod 64 = (m : Int) := by rw [Int.tmod_eq_emod_of_nonneg (by omega)]; exact e2
          subst eA
          clear hSd hcb1 hcx1 hcb hcx e1 e3 hq0 hm0
          refine wp_region_held_drew (S := S) (by kernel_rfl) hS (fun _ => ?_)
          refine wpAnyH_take (i := 0) (v := (.slice Av j cv)) rfl (by kernel_rfl) (by kernel_rfl) (by kernel_rfl) (fun _ _ _ h => h) (Or.inl ⟨by rfl, fun _ hSw => by go_simp⟩) hS ?_
          simp only [List.getElem_toArray, List.getElem_cons_succ, List.getElem_cons_zero, Act.put, List.setIfInBounds_toArray, List.set_cons_zero, List.set_cons_succ]
          refine wpAnyH_take (i := 1) (v := (.slice (some adb) n c3)) rfl (by kernel_rfl) (by kernel_rfl) (by kernel_rfl) (fun _ _ _ h => h) (Or.inl ⟨by rfl, fun _ hSw => by go_simp⟩) hS ?_
          simp only [List.getElem_toArray, List.getElem_cons_succ, List.getElem_cons_zero, Act.put, List.setIfInBounds_toArray, List.set_cons_zero, List.set_cons_succ]
          refine wpAnyH_take (i := 2) (v := (.int .i64 (j : Int))) rfl (by kernel_rfl) (by kernel_rfl) (by kernel_rfl) (fun _ _ _ h => h) (Or.inl ⟨by rfl, fun _ hSw => by go_simp⟩) hS ?_
          simp only [List.getElem_toArray, List.getElem_cons_succ, List.getElem_cons_zero, Act.put, List.setIfInBounds_toArray, List.set_cons_zero, List.set_cons_succ]
          refine wpAnyH_take (i := 3) (v := (.pointer (some (adb.add j)))) rfl (by kernel_rfl) (by kernel_rfl) (by kernel_rfl) (fun _ _ _ h => h) (Or.inl ⟨by rfl, fun _ hSw => by go_simp⟩) hS ?_
          simp only [List.getElem_toArray, List.getElem_cons_succ, List.getElem_cons_zero, Act.put, List.setIfInBounds_toArray, List.set_cons_zero, List.set_cons_succ]
          refine wpAnyH_take (i := 4) (v := .int .u8 (xb.toNat : Int)) rfl (by kernel_rfl) (by kernel_rfl) (by kernel_rfl) (fun _ _ _ h => h) (Or.inl ⟨by rfl, fun w' hSw => by have hq := HSb.out w' hSw; go_simp⟩) hS ?_
          simp only [List.getElem_toArray, List.getElem_cons_succ, List.getElem_cons_zero, Act.put, List.setIfInBounds_toArray, List.set_cons_zero, List.set_cons_succ]
          refine wpAnyH_take (i := 5) (v := (.slice (some adx) 64 Xc)) rfl (by kernel_rfl) (by kernel_rfl) (by kernel_rfl) (fun _ _ _ h => h) (Or.inl ⟨by rfl, fun _ hSw => by go_simp⟩) hS ?_
          simp only [List.getElem_toArray, List.getElem_cons_succ, List.getElem_cons_zero, Act.put, List.setIfInBounds_toArray, List.set_cons_zero, List.set_cons_succ]
          refine wpAnyH_take (i := 6) (v := (.int .i64 (j : Int))) rfl (by kernel_rfl) (by kernel_rfl) (by kernel_rfl) (fun _ _ _ h => h) (Or.inl ⟨by rfl, fun _ hSw => by go_simp⟩) hS ?_
          simp only [List.getElem_toArray, List.getElem_cons_succ, List.getElem_cons_zero, Act.put, List.setIfInBounds_toArray, List.set_cons_zero, List.set_cons_succ]
          refine wpAnyH_take (i := 7) (v := (.int .i64 (m : Int))) rfl (by kernel_rfl) (by kernel_rfl) (by kernel_rfl) (fun _ _ _ h => h) (Or.inl ⟨by rfl, fun _ hSw => by go_simp⟩) hS ?_
          simp only [List.getElem_toArray, List.getElem_cons_succ, List.getElem_cons_zero, Act.put, List.setIfInBounds_toArray, List.set_cons_zero, List.set_cons_succ]
          refine wpAnyH_take (i := 8) (v := (.pointer (some (adx.add m)))) rfl (by kernel_rfl) (by kernel_rfl) (by kernel_rfl) (fun _ _ _ h => h) (Or.inl ⟨by rfl, fun _ hSw => by go_simp⟩) hS ?_
          simp only [List.getElem_toArray, List.getElem_cons_succ, List.getElem_cons_zero, Act.put, List.setIfInBounds_toArray, List.set_cons_zero, List.set_cons_succ]
          refine wpAnyH_take (i := 9) (v := .int .u8 (yb.toNat : Int)) rfl (by kernel_rfl) (by kernel_rfl) (by kernel_rfl) (fun _ _ _ h => h) (Or.inl ⟨by rfl, fun w' hSw => by have hq := HSx.out w' hSw; go_simp⟩) hS ?_
          simp only [List.getElem_toArray, List.getElem_cons_succ, List.getElem_cons_zero, Act.put, List.setIfInBounds_toArray, List.set_cons_zero, List.set_cons_succ]
          refine wpAnyH_take (i := 10) (v := (.int .u8 (zb.toNat : Int))) rfl (by kernel_rfl) (by kernel_rfl) (by kernel_rfl) (fun _ _ _ h => h) (Or.inl ⟨by rfl, fun _ hSw => by go_simp; exact HX.out⟩) hS ?_
          simp only [List.getElem_toArray, List.getElem_cons_succ, List.getElem_cons_zero, Act.put, List.setIfInBounds_toArray, List.set_cons_zero, List.set_cons_succ]
          clear e2 e4
          refine wpAnyH_ready (rs := [11]) (by kernel_rfl) (by simp) (AllReadyH.cons rfl (fun K hK => ?_) AllReadyH.nil)
          simp only [List.getElem_toArray, List.getElem_cons_succ, List.getElem_cons_zero, Act.put, List.setIfInBounds_toArray, List.set_cons_zero, List.set_cons_succ]
          go_simp
          obtain ⟨W2, hW2⟩ : ∃ W, W = (Wc.alloc (.cells #[.int .u8 (zb.toNat : Int)] 5)).drew := ⟨_, rfl⟩
          have hsn : Sl (Wc.alloc (.cells #[.int .u8 (zb.toNat : Int)] 5)).drew (Wc.heap.size + 1) (some ⟨Wc.heap.size, 0, none⟩) 1 [.int .u8 (zb.toNat : Int)] := Sl.new Wc #[.int .u8 (zb.toNat : Int)] 5
          have hown2 : (Wc.alloc (.cells #[.int .u8 (zb.toNat : Int)] 5)).drew.ownsRow w.heap.size 5 1 (.slice Av j cv) j (cb (M.take j)) := hownc.alloc _
          have hbel2 : Below w.heap.size w (Wc.alloc (.cells #[.int .u8 (zb.toNat : Int)] 5)).drew := (hbelc.alloc hbz _).drew
          have hgr2 : Wc.grownBy (Wc.alloc (.cells #[.int .u8 (zb.toNat : Int)] 5)).drew none := ⟨rfl, rfl, rfl, by simp, fun i hi _ => Below.heap_alloc Wc _ i hi⟩
          have hsz2 : (Wc.alloc (.cells #[.int .u8 (zb.toNat : Int)] 5)).drew.heap.size = Wc.heap.size + 1 := by simp
          rw [← hW2] at hsn hown2 hbel2 hgr2 hsz2 ⊢
          have hbb2 : adb.block < Wc.heap.size := by omega
          have hh1 := hgr2.block adb.block hbb2 (by simp)
          have hh2 := hgr2.block adx.block hxblk (by simp)
          have hsx2 := sl_row hsx hgr2 (by simp)
          replace hS := HSI.out _ hh1 hh2
          refine hK.out _ _ hS (fun _ => ?_)
          have HSZ2 := Lib.hid hsz2
          clear hK K hW2 hownc hbelc hgr2 hsx hsz2
          have hbz2 := hbel2.size
          refine wpAnyH_ready (rs := [12]) (by kernel_rfl) (by simp) (AllReadyH.cons rfl (fun K hK => ?_) AllReadyH.nil)
          simp only [List.getElem_toArray, List.getElem_cons_succ, List.getElem_cons_zero, Act.put, List.setIfInBounds_toArray, List.set_cons_zero, List.set_cons_succ]
          rw [if_pos (by rfl)]
          refine wp_append_sl _ _ 22 rfl w.heap.size 5 j0 (.int .u8 0) 1 Tryz.underlying22 hj' hy0 hy1 hy2 rfl _ j _ rfl hown2 _ (some ⟨Wc.heap.size, 0, none⟩) 1 1 [.int .u8 (zb.toNat : Int)] rfl hsn (by intro h; cases h) (by intro u hu; simp at hu; subst hu; rfl) (by unfold maxLen; omega) (by omega) hbz2 ?_
          intro v9 w9 hown9 hgrow9 hat9
          have hb9 : Below w.heap.size w w9 := below_app hbel2 (Nat.le_refl _) hown2 hgrow9
          rw [← HS2.out] at hown9
          have hne1 : some adb.block ≠ (Value.slice Av j cv).ownBlock := fun e => by have h1 := own_blk hown2 e.symm; omega
          have hne2 : some adx.block ≠ (Value.slice Av j cv).ownBlock := fun e => hdis _ e.symm adx rfl rfl
          have hk1 := (hgrow9.block adb.block (by have := HSZ2.out; omega) hne1).trans hh1
          have hk2 := (hgrow9.block adx.block (by have := HSZ2.out; omega) hne2).trans hh2
          have hsx9 := sl_row hsx2 hgrow9 (fun _ ad e => by injection e with e; subst e; exact fun e => hne2 e.symm)
          have hdis9 : Apart v9 (some adx) := fun g hg ad e => by
            injection e with e
            subst e
            rcases hat9 with hat9 | hat9
            · rw [hat9] at hg; exact hdis g hg adx rfl
            · rw [hat9] at hg; injection hg with hg; have := HSZ2.out; omega
          have HO9 := Lib.hid hown9
          replace hS := HSI.out _ hk1 hk2
          refine hK.out _ _ hS (fun _ => ?_)
          clear hK K hown2 hgrow9 hown9 hat9 hne1 hne2 hk1 hk2 hsx2 hbel2 hsn hh1 hh2
          simp only [List.getElem_toArray, List.getElem_cons_succ, List.getElem_cons_zero, Act.put, List.setIfInBounds_toArray, List.set_cons_zero, List.set_cons_succ]
          refine wpAnyH_take (i := 13) (v := (v9)) rfl (by kernel_rfl) (by kernel_rfl) (by kernel_rfl) (fun _ _ _ h => h) (Or.inl ⟨by rfl, fun _ hSw => by go_simp⟩) hS ?_
          simp only [List.getElem_toArray, List.getElem_cons_succ, List.getElem_cons_zero, Act.put, List.setIfInBounds_toArray, List.set_cons_zero, List.set_cons_succ]
          refine wpAnyH_done (by kernel_rfl) ?_ _
          go_wp2
          go_roundw
          case rel =>
            refine ⟨j + 1, some adx, 64, Xc, by omega, by go_num, rfl, fun hne => ⟨rfl, ?_, hdis9⟩, HO9.out, hb9⟩
            have e9 : (j + 1) / 64 = q := by have := HQ.out; omega
            rw [e9, ← HNN.out, ← HBk.out]
            exact hsx9
          case measure => simp [intOf]; omega
      · have HJ : Hid (j = n) := (by omega : j = n)
        go_wp2
        go_ret2
        rw [HJ.out, List.take_of_length_le (by rw [HML.out]; omega)] at hown
        rw [HJ.out]
        exact ⟨Av, n, cv, rfl, hown, hbel⟩

end Go.Proofs.YtlnoopmblmkgkaaGreatDoor

namespace Go.Proofs.YtlnoopmblmkgkaaGreatDoor
set_option maxRecDepth 100000
open Go.RowKit
set_option linter.unusedVariables false
set_option linter.unusedSimpArgs false

theorem mixO_any (key nonce b : List UInt8) (f : Nat) (A0 A1 A3 : Option Addr) (n0 n1 n3 c0 c1 c3 : Nat) (w : World) (hf : f < 4294967296) (h0 : Sl w w.heap.size A0 n0 (cb key)) (h1 : Sl w w.heap.size A1 n1 (cb nonce)) (h3 : Sl w w.heap.size A3 n3 (cb b)) (k0 : n0 ≤ c0) (k1 : n1 ≤ c1) (k3 : n3 ≤ c3) (z0 : A0 = none → c0 = 0) (z1 : A1 = none → c1 = 0) (z3 : A3 = none → c3 = 0) (hm : n3 ≤ 1000000000) (hT : TabC w) :
    Calls Tryz.prog 63 #[.slice A0 n0 c0, .slice A1 n1 c1, .int .u32 f, .slice A3 n3 c3] w (RetFill 5 w (mixR key nonce f b) (mixE key nonce f b)) := by
  by_cases hfit : fitK key nonce = true
  · by_cases hcap : blksN b.length ≤ 4294967296 - f
    · have hq : key.length = 32 ∧ nonce.length = 12 := by simpa [fitK] using hfit
      have hn0 : n0 = 32 := by rw [← h0.1, cb_len]; exact hq.1
      have hn1 : n1 = 12 := by rw [← h1.1, cb_len]; exact hq.2
      have hn3 : n3 = b.length := by rw [← h3.1, cb_len]
      subst hn0; subst hn1
      unfold mixR mixE
      rw [if_pos hfit, if_pos hcap, if_pos hfit, if_pos hcap]
      exact mix_main key nonce b f A0 A1 A3 n3 c0 c1 c3 w hf h0 h1 h3 k0 k1 z0 z1 k3 z3 hm (by rw [hn3]; exact hcap) hT
    · exact mix_cap key nonce b f A0 A1 A3 n0 n1 n3 c0 c1 c3 w hf h0 h1 h3 hm hfit hcap
  · exact mix_none key nonce b f A0 A1 A3 n0 n1 n3 c0 c1 c3 w h0 h1 hfit

theorem mix_any (key nonce b : List UInt8) (f : Nat) (A0 A1 A3 : Option Addr) (n0 n1 n3 c0 c1 c3 : Nat) (w : World) (hf : f < 4294967296) (h0 : Sl w w.heap.size A0 n0 (cb key)) (h1 : Sl w w.heap.size A1 n1 (cb nonce)) (h3 : Sl w w.heap.size A3 n3 (cb b)) (k0 : n0 ≤ c0) (k1 : n1 ≤ c1) (k3 : n3 ≤ c3) (z0 : A0 = none → c0 = 0) (z1 : A1 = none → c1 = 0) (z3 : A3 = none → c3 = 0) (hm : n3 ≤ 1000000000) (hT : TabC w) :
    Calls Tryz.prog 63 #[.slice A0 n0 c0, .slice A1 n1 c1, .int .u32 f, .slice A3 n3 c3] w (RetSl w (mixR key nonce f b) (mixE key nonce f b)) := by
  refine (mixO_any key nonce b f A0 A1 A3 n0 n1 n3 c0 c1 c3 w hf h0 h1 h3 k0 k1 k3 z0 z1 z3 hm hT).mono ?_
  rintro e w' ⟨A, n, c, rfl, h⟩
  exact ⟨A, n, c, rfl, h.sl, by rw [← cb_len, h.sl.1], own_cap h.own, h.none_, own_new (w' := w') h.own, h.below⟩

theorem rmixO_any (key nonce b : List UInt8) (f : Nat) (A0 A1 A3 : Option Addr) (n0 n1 n3 c0 c1 c3 : Nat) (w : World) (hf : f < 4294967296) (h0 : Sl w w.heap.size A0 n0 (cb key)) (h1 : Sl w w.heap.size A1 n1 (cb nonce)) (h3 : Sl w w.heap.size A3 n3 (cb b)) (k0 : n0 ≤ c0) (k1 : n1 ≤ c1) (z0 : A0 = none → c0 = 0) (z1 : A1 = none → c1 = 0) (hm : n3 ≤ 1000000000) :
    Calls Tryz.prog 70 #[.slice A0 n0 c0, .slice A1 n1 c1, .int .u32 f, .slice A3 n3 c3] w (RetFill 5 w (mixR key nonce f b) (mixE key nonce f b)) := by
  by_cases hfit : fitK key nonce = true
  · by_cases hcap : blksN b.length ≤ 4294967296 - f
    · have hq : key.length = 32 ∧ nonce.length = 12 := by simpa [fitK] using hfit
      have hn0 : n0 = 32 := by rw [← h0.1, cb_len]; exact hq.1
      have hn1 : n1 = 12 := by rw [← h1.1, cb_len]; exact hq.2
      have hn3 : n3 = b.length := by rw [← h3.1, cb_len]
      subst hn0; subst hn1
      unfold mixR mixE
      rw [if_pos hfit, if_pos hcap, if_pos hfit, if_pos hcap]
      exact rmix_main key nonce b f A0 A1 A3 n3 c0 c1 c3 w hf h0 h1 h3 k0 k1 z0 z1 hm (by rw [hn3]; exact hcap)
    · exact rmix_cap key nonce b f A0 A1 A3 n0 n1 n3 c0 c1 c3 w hf h0 h1 h3 hm hfit hcap
  · exact rmix_none key nonce b f A0 A1 A3 n0 n1 n3 c0 c1 c3 w h0 h1 hfit

theorem rmix_any (key nonce b : List UInt8) (f : Nat) (A0 A1 A3 : Option Addr) (n0 n1 n3 c0 c1 c3 : Nat) (w : World) (hf : f < 4294967296) (h0 : Sl w w.heap.size A0 n0 (cb key)) (h1 : Sl w w.heap.size A1 n1 (cb nonce)) (h3 : Sl w w.heap.size A3 n3 (cb b)) (k0 : n0 ≤ c0) (k1 : n1 ≤ c1) (z0 : A0 = none → c0 = 0) (z1 : A1 = none → c1 = 0) (hm : n3 ≤ 1000000000) :
    Calls Tryz.prog 70 #[.slice A0 n0 c0, .slice A1 n1 c1, .int .u32 f, .slice A3 n3 c3] w (RetSl w (mixR key nonce f b) (mixE key nonce f b)) := by
  refine (rmixO_any key nonce b f A0 A1 A3 n0 n1 n3 c0 c1 c3 w hf h0 h1 h3 k0 k1 z0 z1 hm).mono ?_
  rintro e w' ⟨A, n, c, rfl, h⟩
  exact ⟨A, n, c, rfl, h.sl, by rw [← cb_len, h.sl.1], own_cap h.own, h.none_, own_new (w' := w') h.own, h.below⟩

def knownK : List UInt8 := (List.range 32).map UInt8.ofNat
def knownN : List UInt8 := [0, 0, 0, 9, 0, 0, 0, 74, 0, 0, 0, 0]
theorem known_fit : fitK knownK knownN = true := by decide
theorem knownK_at (k : Nat) (h : k < 32) : knownK[k]? = some (UInt8.ofNat k) := by simp [knownK, h]
theorem known_fill : Instr.fill (fun j => some (j, 1)) (zeros .u8 12).toArray [(0, .int .u8 0), (1, .int .u8 0), (2, .int .u8 0), (3, .int .u8 9), (4, .int .u8 0), (5, .int .u8 0), (6, .int .u8 0), (7, .int .u8 74), (8, .int .u8 0), (9, .int .u8 0), (10, .int .u8 0), (11, .int .u8 0)] = some (cb knownN).toArray := by rfl

end Go.Proofs.YtlnoopmblmkgkaaGreatDoor
