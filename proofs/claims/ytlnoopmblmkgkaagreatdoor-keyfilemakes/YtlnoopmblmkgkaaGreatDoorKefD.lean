/- Layer 11, keyfile: header, Put. -/
import Derived.Test.YtlnoopmblmkgkaaGreatDoorKefA
import Derived.Test.YtlnoopmblmkgkaaGreatDoorLE
import Derived.OrdersHeld
namespace Go.Proofs.YtlnoopmblmkgkaaGreatDoor
set_option maxRecDepth 100000
open Go Go.RowKit
set_option linter.unusedVariables false
set_option linter.unusedSimpArgs false

theorem parts_bl {w : World} {B g : Nat} {t : TypeId} {vs : List Value} {ls : List (List UInt8)} (hb : Bl w g vs t) (hg : g < B) (hl : vs.length = ls.length) (h : ∀ j (h : j < ls.length), ∃ v, vs[j]? = some v ∧ PartOk w B v ls[j]) : Parts w B (some ⟨g, 0, none⟩) ls.length ls :=
  ⟨vs, (hb.sl (o := 0) (n := ls.length) (by rw [List.drop_zero, List.take_of_length_le (by omega)]) (by omega)).up hg, hl, h⟩
theorem By.part {w : World} {A : Option Addr} {n c : Nat} {l : List UInt8} (h : By w A n c l) : PartOk w w.heap.size (.slice A n c) l := by
  obtain ⟨h1, rfl, h3, h4⟩ := h
  exact ⟨A, c, rfl, h1, h3, h4⟩
/-- Five lists of bytes in a list of their own. -/
theorem list_five {w : World} (t : TypeId) {A0 A1 A2 A3 A4 : Option Addr} {n0 n1 n2 n3 n4 c0 c1 c2 c3 c4 : Nat} {l0 l1 l2 l3 l4 : List UInt8} (h0 : By w A0 n0 c0 l0) (h1 : By w A1 n1 c1 l1) (h2 : By w A2 n2 c2 l2) (h3 : By w A3 n3 c3 l3) (h4 : By w A4 n4 c4 l4) :
    Parts (w.alloc (.cells #[.slice A0 n0 c0, .slice A1 n1 c1, .slice A2 n2 c2, .slice A3 n3 c3, .slice A4 n4 c4] t)) (w.alloc (.cells #[.slice A0 n0 c0, .slice A1 n1 c1, .slice A2 n2 c2, .slice A3 n3 c3, .slice A4 n4 c4] t)).heap.size (some ⟨w.heap.size, 0, none⟩) 5 [l0, l1, l2, l3, l4] ∧ Below w.heap.size w (w.alloc (.cells #[.slice A0 n0 c0, .slice A1 n1 c1, .slice A2 n2 c2, .slice A3 n3 c3, .slice A4 n4 c4] t)) := by
  have hb : Below w.heap.size w (w.alloc (.cells #[.slice A0 n0 c0, .slice A1 n1 c1, .slice A2 n2 c2, .slice A3 n3 c3, .slice A4 n4 c4] t)) := (Below.refl _ w).alloc (Nat.le_refl _) _
  have b := Bl.newA w #[.slice A0 n0 c0, .slice A1 n1 c1, .slice A2 n2 c2, .slice A3 n3 c3, .slice A4 n4 c4] t
  refine ⟨parts_bl (ls := [l0, l1, l2, l3, l4]) b b.lt rfl fun j hj => ?_, hb⟩
  match j, hj with
  | 0, _ => exact ⟨_, rfl, (h0.nx hb).part⟩
  | 1, _ => exact ⟨_, rfl, (h1.nx hb).part⟩
  | 2, _ => exact ⟨_, rfl, (h2.nx hb).part⟩
  | 3, _ => exact ⟨_, rfl, (h3.nx hb).part⟩
  | 4, _ => exact ⟨_, rfl, (h4.nx hb).part⟩

set_option maxHeartbeats 4000000 in
theorem header_any (S : List UInt8) (A : Option Addr) (c r nu : Nat) (B : Option Addr) (m d : Nat) (w : World) (hs : By w A 16 c S) (hr : r < 4294967296) (hnu : nu < 9223372036854775808) (hm : m < 4294967296) :
    Calls Tryz.prog 52 #[.agg (fC A 16 c r nu B m d).toArray] w (RetBytes 5 w 33 (headL S r nu m)) := by
  obtain ⟨W, HW, b0, hb0, hsz⟩ := put_f w (fC A 16 c r nu B m d) 35
  have HSL := Lib.hid hs.len
  have HHL : Hid ((headL S r nu m).length = 33) := headL_len hs.len.symm r nu m
  have hwr : IntKind.u32.wrap (r : Int) = (r : Int) := by simp only [IntKind.wrap_u32]; omega
  have hwn : IntKind.u64.wrap (nu : Int) = (nu : Int) := by simp only [IntKind.wrap_u64]; omega
  have hwm : IntKind.u32.wrap (m : Int) = (m : Int) := by simp only [IntKind.wrap_u32]; omega
  have HFL : Hid ([[(117 : UInt8)], S, stored r false, told8 nu, stored m false].flatten = headL S r nu m) := by unfold Hid headL; simp
  obtain ⟨SS, hSd⟩ : ∃ SS : World → Prop, SS = fun w' => Bl w' w.heap.size (fC A 16 c r nu B m d) 35 := ⟨_, rfl⟩
  have HSI : Hid (∀ w', Bl w' w.heap.size (fC A 16 c r nu B m d) 35 → SS w') := by unfold Hid; intro w' hb; rw [hSd]; exact hb
  have HS : Hid (∀ w', SS w' → w'.cell? ⟨w.heap.size, 0, none⟩ = some (.slice A 16 c) ∧ w'.cell? ⟨w.heap.size, 1, none⟩ = some (.int .i64 r) ∧ w'.cell? ⟨w.heap.size, 2, none⟩ = some (.int .i64 nu) ∧ w'.cell? ⟨w.heap.size, 3, none⟩ = some (.slice B m d)) := by unfold Hid; intro w' h; rw [hSd] at h; exact f_cells h
  obtain ⟨L1, hL1⟩ : ∃ l, l = stored r false := ⟨_, rfl⟩
  obtain ⟨L2, hL2⟩ : ∃ l, l = told8 nu := ⟨_, rfl⟩
  obtain ⟨L3, hL3⟩ : ∃ l, l = stored m false := ⟨_, rfl⟩
  rw [← hL1, ← hL2, ← hL3] at HFL
  have HL1 : Hid (stored r false = L1) := hL1.symm
  have HL2 : Hid (told8 nu = L2) := hL2.symm
  have HL3 : Hid (stored m false = L3) := hL3.symm
  have HWR := Lib.hid hwr
  have HWN := Lib.hid hwn
  have HWM := Lib.hid hwm
  clear hSd hsz hL1 hL2 hL3 hwr hwn hwm
  go_enter Tryz.func52, Tryz.ntmps52
  go_wp2_with (refine wpList_box_agg rfl 35 _ rfl (fC A 16 c r nu B m d) rfl ?_; rw [HW.out])
  obtain ⟨W2, hW2⟩ : ∃ W', W' = W.drew := ⟨_, rfl⟩
  have hbd : Below W.heap.size W W2 := by rw [hW2]; exact (Below.refl _ W).drew
  replace b0 := b0.next hbd
  replace hb0 := next hb0 hbd
  have hS := HSI.out _ b0
  refine wp_region_held_drew (S := SS) (by kernel_rfl) (by rw [← hW2]; exact hS) (fun _ => ?_)
  rw [← hW2]
  clear hW2 hbd
  refine wpAnyH_take (i := 1) (v := (.pointer (some ⟨w.heap.size, 0, none⟩))) rfl (by kernel_rfl) (by kernel_rfl) (by kernel_rfl) (fun _ _ _ h => h) (Or.inl ⟨by rfl, fun _ hSw => by go_simp⟩) hS ?_
  simp only [List.getElem_toArray, List.getElem_cons_succ, List.getElem_cons_zero, Act.put, List.setIfInBounds_toArray, List.set_cons_zero, List.set_cons_succ]
  refine wpAnyH_take (i := 2) (v := .slice A 16 c) rfl (by kernel_rfl) (by kernel_rfl) (by kernel_rfl) (fun _ _ _ h => h) (Or.inl ⟨by rfl, fun w' hSw => by have hq := (HS.out w' hSw).1; go_simp⟩) hS ?_
  simp only [List.getElem_toArray, List.getElem_cons_succ, List.getElem_cons_zero, Act.put, List.setIfInBounds_toArray, List.set_cons_zero, List.set_cons_succ]
  refine wpAnyH_take (i := 3) (v := (.pointer (some ⟨w.heap.size, 1, none⟩))) rfl (by kernel_rfl) (by kernel_rfl) (by kernel_rfl) (fun _ _ _ h => h) (Or.inl ⟨by rfl, fun _ hSw => by go_simp⟩) hS ?_
  simp only [List.getElem_toArray, List.getElem_cons_succ, List.getElem_cons_zero, Act.put, List.setIfInBounds_toArray, List.set_cons_zero, List.set_cons_succ]
  refine wpAnyH_take (i := 4) (v := .int .i64 (r : Int)) rfl (by kernel_rfl) (by kernel_rfl) (by kernel_rfl) (fun _ _ _ h => h) (Or.inl ⟨by rfl, fun w' hSw => by have hq := (HS.out w' hSw).2.1; go_simp⟩) hS ?_
  simp only [List.getElem_toArray, List.getElem_cons_succ, List.getElem_cons_zero, Act.put, List.setIfInBounds_toArray, List.set_cons_zero, List.set_cons_succ]
  refine wpAnyH_take (i := 5) (v := (.int .u32 (r : Int))) rfl (by kernel_rfl) (by kernel_rfl) (by kernel_rfl) (fun _ _ _ h => h) (Or.inl ⟨by rfl, fun _ hSw => by go_simp; exact HWR.out⟩) hS ?_
  simp only [List.getElem_toArray, List.getElem_cons_succ, List.getElem_cons_zero, Act.put, List.setIfInBounds_toArray, List.set_cons_zero, List.set_cons_succ]
  refine wpAnyH_take (i := 7) (v := (.pointer (some ⟨w.heap.size, 2, none⟩))) rfl (by kernel_rfl) (by kernel_rfl) (by kernel_rfl) (fun _ _ _ h => h) (Or.inl ⟨by rfl, fun _ hSw => by go_simp⟩) hS ?_
  simp only [List.getElem_toArray, List.getElem_cons_succ, List.getElem_cons_zero, Act.put, List.setIfInBounds_toArray, List.set_cons_zero, List.set_cons_succ]
  refine wpAnyH_take (i := 8) (v := .int .i64 (nu : Int)) rfl (by kernel_rfl) (by kernel_rfl) (by kernel_rfl) (fun _ _ _ h => h) (Or.inl ⟨by rfl, fun w' hSw => by have hq := (HS.out w' hSw).2.2.1; go_simp⟩) hS ?_
  simp only [List.getElem_toArray, List.getElem_cons_succ, List.getElem_cons_zero, Act.put, List.setIfInBounds_toArray, List.set_cons_zero, List.set_cons_succ]
  refine wpAnyH_take (i := 9) (v := (.int .u64 (nu : Int))) rfl (by kernel_rfl) (by kernel_rfl) (by kernel_rfl) (fun _ _ _ h => h) (Or.inl ⟨by rfl, fun _ hSw => by go_simp; exact HWN.out⟩) hS ?_
  simp only [List.getElem_toArray, List.getElem_cons_succ, List.getElem_cons_zero, Act.put, List.setIfInBounds_toArray, List.set_cons_zero, List.set_cons_succ]
  refine wpAnyH_take (i := 11) (v := (.pointer (some ⟨w.heap.size, 3, none⟩))) rfl (by kernel_rfl) (by kernel_rfl) (by kernel_rfl) (fun _ _ _ h => h) (Or.inl ⟨by rfl, fun _ hSw => by go_simp⟩) hS ?_
  simp only [List.getElem_toArray, List.getElem_cons_succ, List.getElem_cons_zero, Act.put, List.setIfInBounds_toArray, List.set_cons_zero, List.set_cons_succ]
  refine wpAnyH_take (i := 12) (v := .slice B m d) rfl (by kernel_rfl) (by kernel_rfl) (by kernel_rfl) (fun _ _ _ h => h) (Or.inl ⟨by rfl, fun w' hSw => by have hq := (HS.out w' hSw).2.2.2; go_simp⟩) hS ?_
  simp only [List.getElem_toArray, List.getElem_cons_succ, List.getElem_cons_zero, Act.put, List.setIfInBounds_toArray, List.set_cons_zero, List.set_cons_succ]
  refine wpAnyH_take (i := 13) (v := (.int .i64 (m : Int))) rfl (by kernel_rfl) (by kernel_rfl) (by kernel_rfl) (fun _ _ _ h => h) (Or.inl ⟨by rfl, fun _ hSw => by go_simp⟩) hS ?_
  simp only [List.getElem_toArray, List.getElem_cons_succ, List.getElem_cons_zero, Act.put, List.setIfInBounds_toArray, List.set_cons_zero, List.set_cons_succ]
  refine wpAnyH_take (i := 14) (v := (.int .u32 (m : Int))) rfl (by kernel_rfl) (by kernel_rfl) (by kernel_rfl) (fun _ _ _ h => h) (Or.inl ⟨by rfl, fun _ hSw => by go_simp; exact HWM.out⟩) hS ?_
  simp only [List.getElem_toArray, List.getElem_cons_succ, List.getElem_cons_zero, Act.put, List.setIfInBounds_toArray, List.set_cons_zero, List.set_cons_succ]
  refine wpAnyH_ready (rs := [0, 6]) (by kernel_rfl) (by simp) (AllReadyH.cons rfl (fun K hK => ?_) (AllReadyH.cons rfl (fun K hK => ?_) AllReadyH.nil))
  · -- 0 first
    simp only [List.getElem_toArray, List.getElem_cons_succ, List.getElem_cons_zero, Act.put, List.setIfInBounds_toArray, List.set_cons_zero, List.set_cons_succ]
    go_simp
    obtain ⟨Wa, hWa⟩ : ∃ W', W' = W2.alloc (.cells #[.int .u8 117] 5) := ⟨_, rfl⟩
    have hba : Below W2.heap.size W2 Wa := by rw [hWa]; exact (Below.refl _ W2).alloc (Nat.le_refl _) _
    have sp : By Wa (some ⟨W2.heap.size, 0, none⟩) 1 1 [117] := by rw [hWa]; exact ⟨(Sl.new W2 #[.int .u8 117] 5).up (by simp), rfl, Nat.le_refl _, fun h => by cases h⟩
    rw [← hWa]
    clear hWa
    replace b0 := b0.next hba
    replace hb0 := next hb0 hba
    replace hS := HSI.out _ b0
    refine hK.out _ _ hS (fun _ => ?_)
    clear hK K
    refine wpAnyH_ready (rs := [6]) (by kernel_rfl) (by simp) (AllReadyH.cons rfl (fun K hK => ?_) AllReadyH.nil)
    simp only [List.getElem_toArray, List.getElem_cons_succ, List.getElem_cons_zero, Act.put, List.setIfInBounds_toArray, List.set_cons_zero, List.set_cons_succ]
    go_simp
    refine (store_any r false Wa).mono ?_
    rintro e w3 ⟨X1, d1, rfl, x1⟩
    rw [HL1.out] at x1
    have y1 := x1.bys
    replace sp := sp.nx x1.below
    replace b0 := b0.next x1.below
    replace hb0 := next hb0 x1.below
    replace hS := HSI.out _ b0
    refine hK.out _ _ hS (fun _ => ?_)
    clear hK K x1
    refine wpAnyH_ready (rs := [10]) (by kernel_rfl) (by simp) (AllReadyH.cons rfl (fun K hK => ?_) AllReadyH.nil)
    simp only [List.getElem_toArray, List.getElem_cons_succ, List.getElem_cons_zero, Act.put, List.setIfInBounds_toArray, List.set_cons_zero, List.set_cons_succ]
    go_simp
    refine (tell_any nu w3).mono ?_
    rintro e w4 ⟨X2, d2, rfl, x2⟩
    rw [HL2.out] at x2
    have y2 := x2.bys
    replace sp := sp.nx x2.below
    replace y1 := y1.nx x2.below
    replace b0 := b0.next x2.below
    replace hb0 := next hb0 x2.below
    replace hS := HSI.out _ b0
    refine hK.out _ _ hS (fun _ => ?_)
    clear hK K x2
    refine wpAnyH_ready (rs := [15]) (by kernel_rfl) (by simp) (AllReadyH.cons rfl (fun K hK => ?_) AllReadyH.nil)
    simp only [List.getElem_toArray, List.getElem_cons_succ, List.getElem_cons_zero, Act.put, List.setIfInBounds_toArray, List.set_cons_zero, List.set_cons_succ]
    go_simp
    refine (store_any m false w4).mono ?_
    rintro e w5 ⟨X3, d3, rfl, x3⟩
    rw [HL3.out] at x3
    have y3 := x3.bys
    replace sp := sp.nx x3.below
    replace y1 := y1.nx x3.below
    replace y2 := y2.nx x3.below
    replace b0 := b0.next x3.below
    replace hb0 := next hb0 x3.below
    replace hS := HSI.out _ b0
    refine hK.out _ _ hS (fun _ => ?_)
    clear hK K x3
    refine wpAnyH_ready (rs := [16]) (by kernel_rfl) (by simp) (AllReadyH.cons rfl (fun K hK => ?_) AllReadyH.nil)
    simp only [List.getElem_toArray, List.getElem_cons_succ, List.getElem_cons_zero, Act.put, List.setIfInBounds_toArray, List.set_cons_zero, List.set_cons_succ]
    go_simp
    obtain ⟨hp, hb6⟩ := list_five 22 sp (hs.nx hb0) y1 y2 y3
    replace b0 := b0.next hb6
    replace hb0 := next hb0 hb6
    replace hS := HSI.out _ b0
    refine hK.out _ _ hS (fun _ => ?_)
    clear hK K
    refine wpAnyH_ready (rs := [17]) (by kernel_rfl) (by simp) (AllReadyH.cons rfl (fun K hK => ?_) AllReadyH.nil)
    simp only [List.getElem_toArray, List.getElem_cons_succ, List.getElem_cons_zero, Act.put, List.setIfInBounds_toArray, List.set_cons_zero, List.set_cons_succ]
    go_simp
    refine (concat_any [[117], S, L1, L2, L3] _ _ 5 5 hp (by decide) 33 (headL S r nu m) HHL.out.symm HFL.out (by decide)).mono ?_
    rintro e w7 ⟨X7, d7, rfl, x7⟩
    replace b0 := b0.next x7.below
    have HO := Lib.hid (own_down x7.own hb0.size)
    replace hb0 := next hb0 x7.below
    replace hS := HSI.out _ b0
    refine hK.out _ _ hS (fun _ => ?_)
    clear hK K x7
    refine wpAnyH_take (i := 18) (v := (.slice X7 33 d7)) rfl (by kernel_rfl) (by kernel_rfl) (by kernel_rfl) (fun _ _ _ h => h) (Or.inl ⟨by rfl, fun _ hSw => by go_simp⟩) hS ?_
    simp only [List.getElem_toArray, List.getElem_cons_succ, List.getElem_cons_zero, Act.put, List.setIfInBounds_toArray, List.set_cons_zero, List.set_cons_succ]
    refine wpAnyH_done (by kernel_rfl) ?_ _
    go_wp2
    go_ret
    exact ⟨X7, d7, rfl, HO.out, hb0⟩
  · skip
    simp only [List.getElem_toArray, List.getElem_cons_succ, List.getElem_cons_zero, Act.put, List.setIfInBounds_toArray, List.set_cons_zero, List.set_cons_succ]
    go_simp
    refine (store_any r false W2).mono ?_
    rintro e w3 ⟨X1, d1, rfl, x1⟩
    rw [HL1.out] at x1
    have y1 := x1.bys
    replace b0 := b0.next x1.below
    replace hb0 := next hb0 x1.below
    replace hS := HSI.out _ b0
    refine hK.out _ _ hS (fun _ => ?_)
    clear hK K x1
    refine wpAnyH_ready (rs := [0, 10]) (by kernel_rfl) (by simp) (AllReadyH.cons rfl (fun K hK => ?_) (AllReadyH.cons rfl (fun K hK => ?_) AllReadyH.nil))
    · skip
      simp only [List.getElem_toArray, List.getElem_cons_succ, List.getElem_cons_zero, Act.put, List.setIfInBounds_toArray, List.set_cons_zero, List.set_cons_succ]
      go_simp
      obtain ⟨Wa, hWa⟩ : ∃ W', W' = w3.alloc (.cells #[.int .u8 117] 5) := ⟨_, rfl⟩
      have hba : Below w3.heap.size w3 Wa := by rw [hWa]; exact (Below.refl _ w3).alloc (Nat.le_refl _) _
      have sp : By Wa (some ⟨w3.heap.size, 0, none⟩) 1 1 [117] := by rw [hWa]; exact ⟨(Sl.new w3 #[.int .u8 117] 5).up (by simp), rfl, Nat.le_refl _, fun h => by cases h⟩
      rw [← hWa]
      clear hWa
      replace y1 := y1.nx hba
      replace b0 := b0.next hba
      replace hb0 := next hb0 hba
      replace hS := HSI.out _ b0
      refine hK.out _ _ hS (fun _ => ?_)
      clear hK K
      refine wpAnyH_ready (rs := [10]) (by kernel_rfl) (by simp) (AllReadyH.cons rfl (fun K hK => ?_) AllReadyH.nil)
      simp only [List.getElem_toArray, List.getElem_cons_succ, List.getElem_cons_zero, Act.put, List.setIfInBounds_toArray, List.set_cons_zero, List.set_cons_succ]
      go_simp
      refine (tell_any nu Wa).mono ?_
      rintro e w4 ⟨X2, d2, rfl, x2⟩
      rw [HL2.out] at x2
      have y2 := x2.bys
      replace sp := sp.nx x2.below
      replace y1 := y1.nx x2.below
      replace b0 := b0.next x2.below
      replace hb0 := next hb0 x2.below
      replace hS := HSI.out _ b0
      refine hK.out _ _ hS (fun _ => ?_)
      clear hK K x2
      refine wpAnyH_ready (rs := [15]) (by kernel_rfl) (by simp) (AllReadyH.cons rfl (fun K hK => ?_) AllReadyH.nil)
      simp only [List.getElem_toArray, List.getElem_cons_succ, List.getElem_cons_zero, Act.put, List.setIfInBounds_toArray, List.set_cons_zero, List.set_cons_succ]
      go_simp
      refine (store_any m false w4).mono ?_
      rintro e w5 ⟨X3, d3, rfl, x3⟩
      rw [HL3.out] at x3
      have y3 := x3.bys
      replace sp := sp.nx x3.below
      replace y1 := y1.nx x3.below
      replace y2 := y2.nx x3.below
      replace b0 := b0.next x3.below
      replace hb0 := next hb0 x3.below
      replace hS := HSI.out _ b0
      refine hK.out _ _ hS (fun _ => ?_)
      clear hK K x3
      refine wpAnyH_ready (rs := [16]) (by kernel_rfl) (by simp) (AllReadyH.cons rfl (fun K hK => ?_) AllReadyH.nil)
      simp only [List.getElem_toArray, List.getElem_cons_succ, List.getElem_cons_zero, Act.put, List.setIfInBounds_toArray, List.set_cons_zero, List.set_cons_succ]
      go_simp
      obtain ⟨hp, hb6⟩ := list_five 22 sp (hs.nx hb0) y1 y2 y3
      replace b0 := b0.next hb6
      replace hb0 := next hb0 hb6
      replace hS := HSI.out _ b0
      refine hK.out _ _ hS (fun _ => ?_)
      clear hK K
      refine wpAnyH_ready (rs := [17]) (by kernel_rfl) (by simp) (AllReadyH.cons rfl (fun K hK => ?_) AllReadyH.nil)
      simp only [List.getElem_toArray, List.getElem_cons_succ, List.getElem_cons_zero, Act.put, List.setIfInBounds_toArray, List.set_cons_zero, List.set_cons_succ]
      go_simp
      refine (concat_any [[117], S, L1, L2, L3] _ _ 5 5 hp (by decide) 33 (headL S r nu m) HHL.out.symm HFL.out (by decide)).mono ?_
      rintro e w7 ⟨X7, d7, rfl, x7⟩
      replace b0 := b0.next x7.below
      have HO := Lib.hid (own_down x7.own hb0.size)
      replace hb0 := next hb0 x7.below
      replace hS := HSI.out _ b0
      refine hK.out _ _ hS (fun _ => ?_)
      clear hK K x7
      refine wpAnyH_take (i := 18) (v := (.slice X7 33 d7)) rfl (by kernel_rfl) (by kernel_rfl) (by kernel_rfl) (fun _ _ _ h => h) (Or.inl ⟨by rfl, fun _ hSw => by go_simp⟩) hS ?_
      simp only [List.getElem_toArray, List.getElem_cons_succ, List.getElem_cons_zero, Act.put, List.setIfInBounds_toArray, List.set_cons_zero, List.set_cons_succ]
      refine wpAnyH_done (by kernel_rfl) ?_ _
      go_wp2
      go_ret
      exact ⟨X7, d7, rfl, HO.out, hb0⟩
    · skip
      simp only [List.getElem_toArray, List.getElem_cons_succ, List.getElem_cons_zero, Act.put, List.setIfInBounds_toArray, List.set_cons_zero, List.set_cons_succ]
      go_simp
      refine (tell_any nu w3).mono ?_
      rintro e w4 ⟨X2, d2, rfl, x2⟩
      rw [HL2.out] at x2
      have y2 := x2.bys
      replace y1 := y1.nx x2.below
      replace b0 := b0.next x2.below
      replace hb0 := next hb0 x2.below
      replace hS := HSI.out _ b0
      refine hK.out _ _ hS (fun _ => ?_)
      clear hK K x2
      refine wpAnyH_ready (rs := [0, 15]) (by kernel_rfl) (by simp) (AllReadyH.cons rfl (fun K hK => ?_) (AllReadyH.cons rfl (fun K hK => ?_) AllReadyH.nil))
      · skip
        simp only [List.getElem_toArray, List.getElem_cons_succ, List.getElem_cons_zero, Act.put, List.setIfInBounds_toArray, List.set_cons_zero, List.set_cons_succ]
        go_simp
        obtain ⟨Wa, hWa⟩ : ∃ W', W' = w4.alloc (.cells #[.int .u8 117] 5) := ⟨_, rfl⟩
        have hba : Below w4.heap.size w4 Wa := by rw [hWa]; exact (Below.refl _ w4).alloc (Nat.le_refl _) _
        have sp : By Wa (some ⟨w4.heap.size, 0, none⟩) 1 1 [117] := by rw [hWa]; exact ⟨(Sl.new w4 #[.int .u8 117] 5).up (by simp), rfl, Nat.le_refl _, fun h => by cases h⟩
        rw [← hWa]
        clear hWa
        replace y1 := y1.nx hba
        replace y2 := y2.nx hba
        replace b0 := b0.next hba
        replace hb0 := next hb0 hba
        replace hS := HSI.out _ b0
        refine hK.out _ _ hS (fun _ => ?_)
        clear hK K
        refine wpAnyH_ready (rs := [15]) (by kernel_rfl) (by simp) (AllReadyH.cons rfl (fun K hK => ?_) AllReadyH.nil)
        simp only [List.getElem_toArray, List.getElem_cons_succ, List.getElem_cons_zero, Act.put, List.setIfInBounds_toArray, List.set_cons_zero, List.set_cons_succ]
        go_simp
        refine (store_any m false Wa).mono ?_
        rintro e w5 ⟨X3, d3, rfl, x3⟩
        rw [HL3.out] at x3
        have y3 := x3.bys
        replace sp := sp.nx x3.below
        replace y1 := y1.nx x3.below
        replace y2 := y2.nx x3.below
        replace b0 := b0.next x3.below
        replace hb0 := next hb0 x3.below
        replace hS := HSI.out _ b0
        refine hK.out _ _ hS (fun _ => ?_)
        clear hK K x3
        refine wpAnyH_ready (rs := [16]) (by kernel_rfl) (by simp) (AllReadyH.cons rfl (fun K hK => ?_) AllReadyH.nil)
        simp only [List.getElem_toArray, List.getElem_cons_succ, List.getElem_cons_zero, Act.put, List.setIfInBounds_toArray, List.set_cons_zero, List.set_cons_succ]
        go_simp
        obtain ⟨hp, hb6⟩ := list_five 22 sp (hs.nx hb0) y1 y2 y3
        replace b0 := b0.next hb6
        replace hb0 := next hb0 hb6
        replace hS := HSI.out _ b0
        refine hK.out _ _ hS (fun _ => ?_)
        clear hK K
        refine wpAnyH_ready (rs := [17]) (by kernel_rfl) (by simp) (AllReadyH.cons rfl (fun K hK => ?_) AllReadyH.nil)
        simp only [List.getElem_toArray, List.getElem_cons_succ, List.getElem_cons_zero, Act.put, List.setIfInBounds_toArray, List.set_cons_zero, List.set_cons_succ]
        go_simp
        refine (concat_any [[117], S, L1, L2, L3] _ _ 5 5 hp (by decide) 33 (headL S r nu m) HHL.out.symm HFL.out (by decide)).mono ?_
        rintro e w7 ⟨X7, d7, rfl, x7⟩
        replace b0 := b0.next x7.below
        have HO := Lib.hid (own_down x7.own hb0.size)
        replace hb0 := next hb0 x7.below
        replace hS := HSI.out _ b0
        refine hK.out _ _ hS (fun _ => ?_)
        clear hK K x7
        refine wpAnyH_take (i := 18) (v := (.slice X7 33 d7)) rfl (by kernel_rfl) (by kernel_rfl) (by kernel_rfl) (fun _ _ _ h => h) (Or.inl ⟨by rfl, fun _ hSw => by go_simp⟩) hS ?_
        simp only [List.getElem_toArray, List.getElem_cons_succ, List.getElem_cons_zero, Act.put, List.setIfInBounds_toArray, List.set_cons_zero, List.set_cons_succ]
        refine wpAnyH_done (by kernel_rfl) ?_ _
        go_wp2
        go_ret
        exact ⟨X7, d7, rfl, HO.out, hb0⟩
      · skip
        simp only [List.getElem_toArray, List.getElem_cons_succ, List.getElem_cons_zero, Act.put, List.setIfInBounds_toArray, List.set_cons_zero, List.set_cons_succ]
        go_simp
        refine (store_any m false w4).mono ?_
        rintro e w5 ⟨X3, d3, rfl, x3⟩
        rw [HL3.out] at x3
        have y3 := x3.bys
        replace y1 := y1.nx x3.below
        replace y2 := y2.nx x3.below
        replace b0 := b0.next x3.below
        replace hb0 := next hb0 x3.below
        replace hS := HSI.out _ b0
        refine hK.out _ _ hS (fun _ => ?_)
        clear hK K x3
        refine wpAnyH_ready (rs := [0]) (by kernel_rfl) (by simp) (AllReadyH.cons rfl (fun K hK => ?_) AllReadyH.nil)
        simp only [List.getElem_toArray, List.getElem_cons_succ, List.getElem_cons_zero, Act.put, List.setIfInBounds_toArray, List.set_cons_zero, List.set_cons_succ]
        go_simp
        obtain ⟨Wa, hWa⟩ : ∃ W', W' = w5.alloc (.cells #[.int .u8 117] 5) := ⟨_, rfl⟩
        have hba : Below w5.heap.size w5 Wa := by rw [hWa]; exact (Below.refl _ w5).alloc (Nat.le_refl _) _
        have sp : By Wa (some ⟨w5.heap.size, 0, none⟩) 1 1 [117] := by rw [hWa]; exact ⟨(Sl.new w5 #[.int .u8 117] 5).up (by simp), rfl, Nat.le_refl _, fun h => by cases h⟩
        rw [← hWa]
        clear hWa
        replace y1 := y1.nx hba
        replace y2 := y2.nx hba
        replace y3 := y3.nx hba
        replace b0 := b0.next hba
        replace hb0 := next hb0 hba
        replace hS := HSI.out _ b0
        refine hK.out _ _ hS (fun _ => ?_)
        clear hK K
        refine wpAnyH_ready (rs := [16]) (by kernel_rfl) (by simp) (AllReadyH.cons rfl (fun K hK => ?_) AllReadyH.nil)
        simp only [List.getElem_toArray, List.getElem_cons_succ, List.getElem_cons_zero, Act.put, List.setIfInBounds_toArray, List.set_cons_zero, List.set_cons_succ]
        go_simp
        obtain ⟨hp, hb6⟩ := list_five 22 sp (hs.nx hb0) y1 y2 y3
        replace b0 := b0.next hb6
        replace hb0 := next hb0 hb6
        replace hS := HSI.out _ b0
        refine hK.out _ _ hS (fun _ => ?_)
        clear hK K
        refine wpAnyH_ready (rs := [17]) (by kernel_rfl) (by simp) (AllReadyH.cons rfl (fun K hK => ?_) AllReadyH.nil)
        simp only [List.getElem_toArray, List.getElem_cons_succ, List.getElem_cons_zero, Act.put, List.setIfInBounds_toArray, List.set_cons_zero, List.set_cons_succ]
        go_simp
        refine (concat_any [[117], S, L1, L2, L3] _ _ 5 5 hp (by decide) 33 (headL S r nu m) HHL.out.symm HFL.out (by decide)).mono ?_
        rintro e w7 ⟨X7, d7, rfl, x7⟩
        replace b0 := b0.next x7.below
        have HO := Lib.hid (own_down x7.own hb0.size)
        replace hb0 := next hb0 x7.below
        replace hS := HSI.out _ b0
        refine hK.out _ _ hS (fun _ => ?_)
        clear hK K x7
        refine wpAnyH_take (i := 18) (v := (.slice X7 33 d7)) rfl (by kernel_rfl) (by kernel_rfl) (by kernel_rfl) (fun _ _ _ h => h) (Or.inl ⟨by rfl, fun _ hSw => by go_simp⟩) hS ?_
        simp only [List.getElem_toArray, List.getElem_cons_succ, List.getElem_cons_zero, Act.put, List.setIfInBounds_toArray, List.set_cons_zero, List.set_cons_succ]
        refine wpAnyH_done (by kernel_rfl) ?_ _
        go_wp2
        go_ret
        exact ⟨X7, d7, rfl, HO.out, hb0⟩

end Go.Proofs.YtlnoopmblmkgkaaGreatDoor
