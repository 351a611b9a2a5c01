/- The walk of the law CipherGives, the whole. -/
import Derived.Test.YtnhpamfmbledmaaDoorCha2
namespace Go.Proofs.YtnhpamfmbledmaaDoor
open Go.RowKit
set_option linter.unusedVariables false
set_option linter.unusedSimpArgs false

theorem blocks_n (key nonce : List UInt8) (f : Nat) (A0 A1 : Option Addr) (n0 n1 c0 c1 : Nat) (w : World) (e0 : n0 = 32) (e1 : n1 = 12) (h0 : Sl w w.heap.size A0 n0 (cb key)) (h1 : Sl w w.heap.size A1 n1 (cb nonce)) (k0 : n0 ≤ c0) (k1 : n1 ≤ c1) (z0 : A0 = none → c0 = 0) (z1 : A1 = none → c1 = 0) :
    Calls Tryd.prog 13 #[.slice A0 n0 c0, .slice A1 n1 c1, .int .u32 f] w (RetSeq w key nonce f) := by
  subst e0; subst e1
  exact blocks_any key nonce f A0 A1 c0 c1 w h0 h1 k0 k1 z0 z1

/-- The law's four parameters, each in a variable of its own. -/
def box4 (w : World) (A0 : Option Addr) (n0 c0 : Nat) (A1 : Option Addr) (n1 c1 f mo : Nat) : World :=
  (((w.alloc (.cells #[.slice A0 n0 c0] 22)).alloc (.cells #[.slice A1 n1 c1] 22)).alloc (.cells #[.int .u32 (f : Int)] 23)).alloc (.cells #[.int .u8 (mo : Int)] 5)

theorem box4_spec (w : World) (A0 : Option Addr) (n0 c0 : Nat) (A1 : Option Addr) (n1 c1 f mo : Nat) :
    Bl (box4 w A0 n0 c0 A1 n1 c1 f mo) w.heap.size [.slice A0 n0 c0] 22 ∧ Bl (box4 w A0 n0 c0 A1 n1 c1 f mo) (w.heap.size + 1) [.slice A1 n1 c1] 22 ∧
    Bl (box4 w A0 n0 c0 A1 n1 c1 f mo) (w.heap.size + 2) [.int .u32 (f : Int)] 23 ∧ Bl (box4 w A0 n0 c0 A1 n1 c1 f mo) (w.heap.size + 3) [.int .u8 (mo : Int)] 5 ∧
    (box4 w A0 n0 c0 A1 n1 c1 f mo).heap.size = w.heap.size + 4 ∧ Below w.heap.size w (box4 w A0 n0 c0 A1 n1 c1 f mo) := by
  have e1 : (w.alloc (.cells #[.slice A0 n0 c0] 22)).heap.size = w.heap.size + 1 := by simp
  have e2 : ((w.alloc (.cells #[.slice A0 n0 c0] 22)).alloc (.cells #[.slice A1 n1 c1] 22)).heap.size = w.heap.size + 2 := by simp
  have e3 : (((w.alloc (.cells #[.slice A0 n0 c0] 22)).alloc (.cells #[.slice A1 n1 c1] 22)).alloc (.cells #[.int .u32 (f : Int)] 23)).heap.size = w.heap.size + 3 := by simp
  refine ⟨(((Bl.new w [.slice A0 n0 c0] 22).alloc _).alloc _).alloc _, ?_, ?_, ?_, by unfold box4; simp, ((((Below.refl _ w).alloc (Nat.le_refl _) _).alloc (by rw [e1]; omega) _).alloc (by rw [e2]; omega) _).alloc (by rw [e3]; omega) _⟩
  · have := ((Bl.new (w.alloc (.cells #[.slice A0 n0 c0] 22)) [.slice A1 n1 c1] 22).alloc (.cells #[.int .u32 (f : Int)] 23)).alloc (.cells #[.int .u8 (mo : Int)] 5)
    rw [e1] at this
    exact this
  · have := (Bl.new ((w.alloc (.cells #[.slice A0 n0 c0] 22)).alloc (.cells #[.slice A1 n1 c1] 22)) [.int .u32 (f : Int)] 23).alloc (.cells #[.int .u8 (mo : Int)] 5)
    rw [e2] at this
    exact this
  · have := Bl.new (((w.alloc (.cells #[.slice A0 n0 c0] 22)).alloc (.cells #[.slice A1 n1 c1] 22)).alloc (.cells #[.int .u32 (f : Int)] 23)) [.int .u8 (mo : Int)] 5
    rw [e3] at this
    exact this

set_option maxRecDepth 100000 in
set_option maxHeartbeats 1000000 in
theorem cipherGives_walk (A0 : Option Addr) (n0 c0 : Nat) (l0 : List UInt8) (A1 : Option Addr) (n1 c1 : Nat) (l1 : List UInt8) (a2 a3 : Int) (w : World) (hT : TabC w)
    (s0 : InBytes w A0 n0 c0 l0) (s1 : InBytes w A1 n1 c1 l1) (w2 : (Lit.int .u32 a2).wf = true) (w3 : (Lit.int .u8 a3).wf = true) :
    Calls Tryd.prog 4 #[.slice A0 n0 c0, .slice A1 n1 c1, .int .u32 a2, .int .u8 a3] w fun e w' => e = .returned (.bool true) ∧ Below w.heap.size w w' := by
  obtain ⟨p0, p1⟩ := bounds_u32 w2
  obtain ⟨f, rfl⟩ := Int.eq_ofNat_of_zero_le p0
  obtain ⟨p2, p3⟩ := bounds_u8 w3
  obtain ⟨mo, rfl⟩ := Int.eq_ofNat_of_zero_le p2
  have hf : f < 4294967296 := by omega
  have hmo : mo < 256 := by omega
  clear w2 w3 p0 p1 p2 p3
  have y0 := s0.sl
  have z0 := s0.none_
  have e0 := s0.len
  have y1 := s1.sl
  have z1 := s1.none_
  have e1 := s1.len
  have r0 := s0.room
  have r1 := s1.room
  have k0 := s0.cap
  have k1 := s1.cap
  clear s0 s1
  subst e0; subst e1
  have HT := Lib.hid hT
  clear hT
  obtain ⟨bk, bn, bf, bm, hz0, hb0⟩ := box4_spec w A0 l0.length c0 A1 l1.length c1 f mo
  obtain ⟨W0, hW0⟩ : ∃ W, W = box4 w A0 l0.length c0 A1 l1.length c1 f mo := ⟨_, rfl⟩
  rw [← hW0] at bk bn bf bm hz0 hb0
  have HW0 : Hid ((((w.alloc (.cells #[.slice A0 l0.length c0] 22)).alloc (.cells #[.slice A1 l1.length c1] 22)).alloc (.cells #[.int .u32 (f : Int)] 23)).alloc (.cells #[.int .u8 (mo : Int)] 5) = W0) := hW0.symm
  have HZ0 := Lib.hid hz0
  clear hW0 hz0
  obtain ⟨S, hSd⟩ : ∃ S : World → Prop, S = fun w' => Below W0.heap.size W0 w' := ⟨_, rfl⟩
  have HSI : Hid (∀ w', Below W0.heap.size W0 w' → S w') := by unfold Hid; intro w' h; rw [hSd]; exact h
  have HSn : Hid (∀ w', S w' → w'.cell? ⟨w.heap.size + 1, 0, none⟩ = some (.slice A1 l1.length c1)) := by unfold Hid; intro w' h; rw [hSd] at h; exact (bn.next h).cell 0
  have HSf : Hid (∀ w', S w' → w'.cell? ⟨w.heap.size + 2, 0, none⟩ = some (.int .u32 (f : Int))) := by unfold Hid; intro w' h; rw [hSd] at h; exact (bf.next h).cell 0
  clear hSd
  have qk : W0.cell? ⟨w.heap.size, 0, none⟩ = some (.slice A0 l0.length c0) := bk.cell 0
  obtain ⟨q9, hq9⟩ : ∃ q, q = mo % 9 := ⟨_, rfl⟩
  have eq9 : (mo : Int) % 9 = (q9 : Int) := by omega
  have hq9l : q9 < 9 := by omega
  obtain ⟨wt, hwt⟩ : ∃ x, x = min (mo % 9 + 1) (4294967296 - f) := ⟨_, rfl⟩
  have hmin : (if (4294967296 : Int) - (f : Int) < (q9 : Int) + 1 then (4294967296 : Int) - (f : Int) else (q9 : Int) + 1) = (wt : Int) := by split <;> omega
  have hwt9 : wt ≤ 9 := by omega
  have HQ := Lib.hid hq9
  have HWT := Lib.hid hwt
  clear hq9 hwt
  go_enter Tryd.func4, Tryd.ntmps4
  go_wp2_with fail
  rw [HW0.out]
  refine (own_any l0 _ _ _ _ _ (y0.nx hb0) z0 (by omega) (Nat.le_refl _)).mono ?_
  rintro e w1 ⟨X0, d0, rfl, h1⟩
  have hb1 := h1.below
  have x0 := h1.sl
  have f0 := h1.none_
  have g0 := own_cap h1.own
  clear h1 qk
  go_wp2_with fail
  have hbd : Below W0.heap.size W0 w1.drew := hb1.drew
  have hS := HSI.out _ hbd
  have x0d : Sl w1.drew w1.drew.heap.size X0 l0.length (cb l0) := x0
  refine wp_region_held_drew (S := S) (by kernel_rfl) hS (fun _ => ?_)
  refine wpAnyH_take (i := 0) (v := (.slice X0 l0.length d0)) rfl (by kernel_rfl) (by kernel_rfl) (by kernel_rfl) (fun _ _ _ h => h) (Or.inl ⟨by rfl, fun _ hSw => by go_simp⟩) hS ?_
  simp only [List.getElem_toArray, List.getElem_cons_succ, List.getElem_cons_zero, Act.put, List.setIfInBounds_toArray, List.set_cons_zero, List.set_cons_succ]
  refine wpAnyH_take (i := 1) (v := .slice A1 l1.length c1) rfl (by kernel_rfl) (by kernel_rfl) (by kernel_rfl) (fun _ _ _ h => h) (Or.inl ⟨by rfl, fun w' hSw => by have hq := HSn.out w' hSw; go_simp⟩) hS ?_
  simp only [List.getElem_toArray, List.getElem_cons_succ, List.getElem_cons_zero, Act.put, List.setIfInBounds_toArray, List.set_cons_zero, List.set_cons_succ]
  refine wpAnyH_take (i := 3) (v := .int .u32 (f : Int)) rfl (by kernel_rfl) (by kernel_rfl) (by kernel_rfl) (fun _ _ _ h => h) (Or.inl ⟨by rfl, fun w' hSw => by have hq := HSf.out w' hSw; go_simp⟩) hS ?_
  simp only [List.getElem_toArray, List.getElem_cons_succ, List.getElem_cons_zero, Act.put, List.setIfInBounds_toArray, List.set_cons_zero, List.set_cons_succ]
  refine wpAnyH_ready (rs := [2]) (by kernel_rfl) (by simp) (AllReadyH.cons rfl (fun K hK => ?_) AllReadyH.nil)
  simp only [List.getElem_toArray, List.getElem_cons_succ, List.getElem_cons_zero, Act.put, List.setIfInBounds_toArray, List.set_cons_zero, List.set_cons_succ]
  go_simp
  refine (own_any l1 _ _ _ _ _ (y1.nx (next hb0 hbd)) z1 (by omega) (Nat.le_refl _)).mono ?_
  rintro e w2 ⟨X1, d1, rfl, h2⟩
  have hb2 := next hbd h2.below
  have x1 := h2.sl
  have f1 := h2.none_
  have g1 := own_cap h2.own
  have x0e := x0d.nx h2.below
  replace hS := HSI.out _ hb2
  refine hK.out _ _ hS (fun _ => ?_)
  clear hK K h2 hbd x0d x0 hb1
  have hcase : (l0.length = 32 ∧ l1.length = 12 ∧ (l0.length == 32 && l1.length == 12) = true) ∨ ((l0.length == 32 && l1.length == 12) = false ∧ (1 : Nat) ≤ 2 ∧ (1 : Nat) ≤ 2) := by
    cases hq : (l0.length == 32 && l1.length == 12) with
    | false => exact .inr ⟨rfl, by omega, by omega⟩
    | true =>
      have hq' : l0.length = 32 ∧ l1.length = 12 := by simpa using hq
      exact .inl ⟨hq'.1, hq'.2, rfl⟩
  rcases hcase with ⟨e32, e12, hq⟩ | ⟨hq, _, _⟩
  · have HFL : Hid (l0.length = 32 ∧ l1.length = 12) := ⟨e32, e12⟩
    have hbl := blocks_n l0 l1 f X0 X1 _ _ d0 d1 w2 e32 e12 x0e x1 g0 g1 f0 f1
    have HBL := Lib.hid hbl
    have HRQ := Lib.hid hq
    clear hbl e32 e12 hq
    refine wpAnyH_ready (rs := [4]) (by kernel_rfl) (by simp) (AllReadyH.cons rfl (fun K hK => ?_) AllReadyH.nil)
    simp only [List.getElem_toArray, List.getElem_cons_succ, List.getElem_cons_zero, Act.put, List.setIfInBounds_toArray, List.set_cons_zero, List.set_cons_succ]
    go_simp
    refine HBL.out.mono ?_
    rintro e w3 ⟨gF, gS, rfl, hgF, hgS, bF, bS, hb3⟩
    have hb4 := next hb2 hb3
    replace hS := HSI.out _ hb4
    refine hK.out _ _ hS (fun _ => ?_)
    clear hK K HBL
    have hsz2 := hb2.size
    rw [HZ0.out] at hsz2
    clear hb2 hb3 x0e x1 f0 f1 g0 g1
    refine wpAnyH_take (i := 5) (v := (.func (.func 24) #[] #[.pointer (some ⟨gF, 0, none⟩), .pointer (some ⟨gS, 0, none⟩)])) rfl (by kernel_rfl) (by kernel_rfl) (by kernel_rfl) (fun _ _ _ h => h) (Or.inl ⟨by rfl, fun _ hSw => by go_simp⟩) hS ?_
    simp only [List.getElem_toArray, List.getElem_cons_succ, List.getElem_cons_zero, Act.put, List.setIfInBounds_toArray, List.set_cons_zero, List.set_cons_succ]
    refine wpAnyH_done (by kernel_rfl) ?_ _
    clear hS HSI HSn HSf
    have bk3 := bk.next hb4
    have bn3 := bn.next hb4
    have bf3 := bf.next hb4
    have bm3 := bm.next hb4
    have qf : w3.cell? ⟨w.heap.size + 1 + 1, 0, none⟩ = some (.int .u32 (f : Int)) := bf3.cell 0
    have qm : w3.cell? ⟨w.heap.size + 1 + 1 + 1, 0, none⟩ = some (.int .u8 (mo : Int)) := bm3.cell 0
    have qk4 : (w3.alloc (.cells #[.int .u64 (wt : Int)] 36)).cell? ⟨w.heap.size, 0, none⟩ = some (.slice A0 l0.length c0) := (bk3.alloc _).cell 0
    have qn4 : (w3.alloc (.cells #[.int .u64 (wt : Int)] 36)).cell? ⟨w.heap.size + 1, 0, none⟩ = some (.slice A1 l1.length c1) := (bn3.alloc _).cell 0
    have hnil : ∀ w' : World, (binOp BinOp.eql 34 (.func (.func 24) #[] #[.pointer (some ⟨gF, 0, none⟩), .pointer (some ⟨gS, 0, none⟩)]) .nilFunc).run Tryd.prog w' = .ok (.bool false) w' := fun _ => by kernel_rfl
    go_wp2_with fail
    obtain ⟨W4, hW4⟩ : ∃ W, W = w3.alloc (.cells #[.int .u64 (wt : Int)] 36) := ⟨_, rfl⟩
    rw [← hW4]
    refine (right_any l0.length l1.length c0 c1 A0 A1 W4).mono ?_
    rintro e w' ⟨rfl, rfl⟩
    rw [HRQ.out]
    clear qk4 qn4 qf qm
    go_wp2_with fail
    clear hW4
    have g1 : (w3.alloc (.cells #[.int .u64 (wt : Int)] 36)).heap.size = w3.heap.size + 1 := by simp
    have g2 : ((w3.alloc (.cells #[.int .u64 (wt : Int)] 36)).alloc (.cells #[.int .u64 0] 36)).heap.size = w3.heap.size + 2 := by simp
    obtain ⟨W6, hW6⟩ : ∃ W, W = ((w3.alloc (.cells #[.int .u64 (wt : Int)] 36)).alloc (.cells #[.int .u64 0] 36)).alloc (.cells #[.bool true] 4) := ⟨_, rfl⟩
    have c1' : Bl W6 w3.heap.size [.int .u64 (wt : Int)] 36 := by rw [hW6]; exact ((Bl.new w3 [.int .u64 (wt : Int)] 36).alloc _).alloc _
    have c2' : Bl W6 (w3.heap.size + 1) [.int .u64 ((0 : Nat) : Int)] 36 := by
      have := (Bl.new (w3.alloc (.cells #[.int .u64 (wt : Int)] 36)) [.int .u64 0] 36).alloc (.cells #[.bool true] 4)
      rw [g1] at this; rw [hW6]; exact this
    have c3' : Bl W6 (w3.heap.size + 2) [.bool true] 4 := by
      have := Bl.new ((w3.alloc (.cells #[.int .u64 (wt : Int)] 36)).alloc (.cells #[.int .u64 0] 36)) [.bool true] 4
      rw [g2] at this; rw [hW6]; exact this
    have hb6 : Below w3.heap.size w3 W6 := by rw [hW6]; exact (((Below.refl _ w3).alloc (Nat.le_refl _) _).alloc (by rw [g1]; omega) _).alloc (by rw [g2]; omega) _
    have hbw3 := next hb0 hb4
    have hgi : GI w l0 l1 A0 c0 A1 c1 f mo wt gF gS w3.heap.size (w3.heap.size + 1) (w3.heap.size + 2) 0 W6 :=
      ⟨bk3.next hb6, bn3.next hb6, bf3.next hb6, bm3.next hb6, c1', c2', c3', bF.next hb6, bS.next hb6, next hbw3 hb6⟩
    have hlS := bS.lt
    rw [← hW6]
    clear hW6 g1 g2 c1' c2' c3' bk3 bn3 bf3 bm3 bF bS hb6 hnil
    refine (gives2_any w W6 l0 l1 A0 c0 A1 c1 f mo wt gF gS w3.heap.size (w3.heap.size + 1) (w3.heap.size + 2) hgi HT.out hf HWT.out hmo HFL.out y0 y1 k0 k1 z0 z1 (by omega) hgS hlS (by omega) (by omega)).mono ?_
    rintro e w7 ⟨rfl, h7⟩
    have t1 : w7.cell? ⟨w3.heap.size + 1 + 1, 0, none⟩ = some (.bool true) := h7.bo.cell 0
    have t2 : w7.cell? ⟨w3.heap.size + 1, 0, none⟩ = some (.int .u64 (wt : Int)) := h7.bc.cell 0
    have t3 : w7.cell? ⟨w3.heap.size, 0, none⟩ = some (.int .u64 (wt : Int)) := h7.bw.cell 0
    have hb7 := h7.below
    clear h7 hgi hmin eq9
    go_wp2_with fail
    refine (awake5_any _ (HT.out.next hb7)).mono ?_
    rintro e w9 ⟨rfl, hb9⟩
    clear t1 t2 t3
    go_wp2
    go_ret
    exact ⟨rfl, next hb7 hb9⟩
  · have hbl := blocks_none l0.length l1.length f X0 X1 d0 d1 w2 hq
    have HBL := Lib.hid hbl
    have HRQ := Lib.hid hq
    clear hbl hq
    refine wpAnyH_ready (rs := [4]) (by kernel_rfl) (by simp) (AllReadyH.cons rfl (fun K hK => ?_) AllReadyH.nil)
    simp only [List.getElem_toArray, List.getElem_cons_succ, List.getElem_cons_zero, Act.put, List.setIfInBounds_toArray, List.set_cons_zero, List.set_cons_succ]
    go_simp
    refine HBL.out.mono ?_
    rintro e w3 ⟨rfl, hb3⟩
    have hb4 := next hb2 hb3
    replace hS := HSI.out _ hb4
    refine hK.out _ _ hS (fun _ => ?_)
    clear hK K HBL hb2 hb3 x0e x1 f0 f1 g0 g1
    refine wpAnyH_take (i := 5) (v := (.func (.func 23) #[] #[])) rfl (by kernel_rfl) (by kernel_rfl) (by kernel_rfl) (fun _ _ _ h => h) (Or.inl ⟨by rfl, fun _ hSw => by go_simp⟩) hS ?_
    simp only [List.getElem_toArray, List.getElem_cons_succ, List.getElem_cons_zero, Act.put, List.setIfInBounds_toArray, List.set_cons_zero, List.set_cons_succ]
    refine wpAnyH_done (by kernel_rfl) ?_ _
    clear hS HSI HSn HSf
    have bk3 := bk.next hb4
    have bn3 := bn.next hb4
    have bf3 := bf.next hb4
    have bm3 := bm.next hb4
    have qf : w3.cell? ⟨w.heap.size + 1 + 1, 0, none⟩ = some (.int .u32 (f : Int)) := bf3.cell 0
    have qm : w3.cell? ⟨w.heap.size + 1 + 1 + 1, 0, none⟩ = some (.int .u8 (mo : Int)) := bm3.cell 0
    have qk4 : (w3.alloc (.cells #[.int .u64 (wt : Int)] 36)).cell? ⟨w.heap.size, 0, none⟩ = some (.slice A0 l0.length c0) := (bk3.alloc _).cell 0
    have qn4 : (w3.alloc (.cells #[.int .u64 (wt : Int)] 36)).cell? ⟨w.heap.size + 1, 0, none⟩ = some (.slice A1 l1.length c1) := (bn3.alloc _).cell 0
    have hnil : ∀ w' : World, (binOp BinOp.eql 34 (.func (.func 23) #[] #[]) .nilFunc).run Tryd.prog w' = .ok (.bool false) w' := fun _ => by kernel_rfl
    have hbw3 := next hb0 hb4
    go_wp2_with fail
    refine (right_any l0.length l1.length c0 c1 A0 A1 _).mono ?_
    rintro e w' ⟨rfl, rfl⟩
    rw [HRQ.out]
    clear qk4 qn4 qf qm
    go_wp2_with fail
    have g1 : (w3.alloc (.cells #[.int .u64 0] 36)).heap.size = w3.heap.size + 1 := by simp
    have g2 : ((w3.alloc (.cells #[.int .u64 0] 36)).alloc (.cells #[.int .u64 0] 36)).heap.size = w3.heap.size + 2 := by simp
    obtain ⟨W6, hW6⟩ : ∃ W, W = ((w3.alloc (.cells #[.int .u64 0] 36)).alloc (.cells #[.int .u64 0] 36)).alloc (.cells #[.bool true] 4) := ⟨_, rfl⟩
    have c1' : Bl W6 w3.heap.size [.int .u64 0] 36 := by rw [hW6]; exact ((Bl.new w3 [.int .u64 0] 36).alloc _).alloc _
    have c2' : Bl W6 (w3.heap.size + 1) [.int .u64 0] 36 := by
      have := (Bl.new (w3.alloc (.cells #[.int .u64 0] 36)) [.int .u64 0] 36).alloc (.cells #[.bool true] 4)
      rw [g1] at this; rw [hW6]; exact this
    have c3' : Bl W6 (w3.heap.size + 2) [.bool true] 4 := by
      have := Bl.new ((w3.alloc (.cells #[.int .u64 0] 36)).alloc (.cells #[.int .u64 0] 36)) [.bool true] 4
      rw [g2] at this; rw [hW6]; exact this
    have hb6 : Below w3.heap.size w3 W6 := by rw [hW6]; exact (((Below.refl _ w3).alloc (Nat.le_refl _) _).alloc (by rw [g1]; omega) _).alloc (by rw [g2]; omega) _
    have hb7 := next hbw3 hb6
    rw [← hW6]
    clear hW6 g1 g2 bk3 bn3 bf3 bm3 hb6 hnil
    refine (gives0_any _ W6).mono ?_
    rintro e w' ⟨rfl, rfl⟩
    have t1 : W6.cell? ⟨w3.heap.size + 1 + 1, 0, none⟩ = some (.bool true) := c3'.cell 0
    have t2 : W6.cell? ⟨w3.heap.size + 1, 0, none⟩ = some (.int .u64 0) := c2'.cell 0
    have t3 : W6.cell? ⟨w3.heap.size, 0, none⟩ = some (.int .u64 0) := c1'.cell 0
    clear hmin eq9
    go_wp2_with fail
    refine (awake5_any _ (HT.out.next hb7)).mono ?_
    rintro e w9 ⟨rfl, hb9⟩
    clear t1 t2 t3
    go_wp2
    go_ret
    exact ⟨rfl, next hb7 hb9⟩

end Go.Proofs.YtnhpamfmbledmaaDoor
