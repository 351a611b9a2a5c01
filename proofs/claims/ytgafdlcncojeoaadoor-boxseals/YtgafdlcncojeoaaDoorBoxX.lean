/- How an argument that is a Parts is opened; its methods. -/
import Derived.Test.YtgafdlcncojeoaaDoorLB
import Derived.Test.YtgafdlcncojeoaaDoorLQ
import Derived.Test.YtgafdlcncojeoaaDoorChaX
namespace Go.Proofs.YtgafdlcncojeoaaDoor
set_option maxRecDepth 100000
open Go.ChangeShapes Go.WideShapes Go.ChangeAt Go.RowKit
set_option linter.unusedVariables false
set_option linter.unusedSimpArgs false

/-- A Parts that came in. -/
def PartsIn (w : World) (v : Value) : Prop := ∃ A0 n0 c0 l0 A1 n1 c1 l1 A2 n2 c2 l2 A3 n3 c3 l3, v = .agg #[.slice A0 n0 c0, .slice A1 n1 c1, .slice A2 n2 c2, .slice A3 n3 c3] ∧ InBytes w A0 n0 c0 l0 ∧ InBytes w A1 n1 c1 l1 ∧ InBytes w A2 n2 c2 l2 ∧ InBytes w A3 n3 c3 l3

theorem opens_parts {H : Type} {enc : TypeId × Value → H} {W : World} {b0 : Nat} {r : Reach} {v : Value} {d : DataW H} {p : List MemPlace} {ts : List TypeId} {ds : List (DataW H)} {j : Nat} (hv : Value.okWide Tryd.prog W r b0 24 v)
    (h : DataW.Trod enc Tryd.prog W 0 (fun _ => true) true 24 v d p) (lt0 : ∀ x ∈ p, x.block < W.heap.size)
    (hsz : (DataW.weightsEach Tryd.prog ts ds).all (· ≤ reachBytes) = true) (htj : ts[j]? = some 24) (hdj : ds[j]? = some d) : PartsIn W v := by
  have hall : ∀ m ∈ d.weights Tryd.prog 24, m ≤ reachBytes := fun m hm => by
    have := List.all_eq_true.1 hsz _ (DataW.weights_mem_each htj hdj m hm)
    simpa using this
  obtain ⟨v0, v1, v2, v3, y0, y1, y2, y3, n, rfl, rfl, rfl, h0, h1, h2, h3⟩ := Joins.open_agg4 Tryd.underlying24 (by kernel_rfl) (by kernel_rfl) hv h
  have hu := Tryd.underlying24
  simp only [DataW.weights, hu, DataW.weightsEach, List.mem_append, List.map_cons, List.map_nil] at hall
  obtain ⟨A0, n0, c0, l0, rfl, i0⟩ := open_sl_sized Tryd.underlying22 Tryd.underlying5 (by kernel_rfl) (by kernel_rfl) h0 (fun x hx => lt0 x (by simp [hx])) (fun m hm => hall m (by simp [hm]))
  obtain ⟨A1, n1, c1, l1, rfl, i1⟩ := open_sl_sized Tryd.underlying22 Tryd.underlying5 (by kernel_rfl) (by kernel_rfl) h1 (fun x hx => lt0 x (by simp [hx])) (fun m hm => hall m (by simp [hm]))
  obtain ⟨A2, n2, c2, l2, rfl, i2⟩ := open_sl_sized Tryd.underlying22 Tryd.underlying5 (by kernel_rfl) (by kernel_rfl) h2 (fun x hx => lt0 x (by simp [hx])) (fun m hm => hall m (by simp [hm]))
  obtain ⟨A3, n3, c3, l3, rfl, i3⟩ := open_sl_sized Tryd.underlying22 Tryd.underlying5 (by kernel_rfl) (by kernel_rfl) h3 (fun x hx => lt0 x (by simp [hx])) (fun m hm => hall m (by simp [hm]))
  exact ⟨A0, n0, c0, l0, A1, n1, c1, l1, A2, n2, c2, l2, A3, n3, c3, l3, rfl, i0, i1, i2, i3⟩

/-- The cells of a Parts, in a variable of its own. -/
def prtC (A0 : Option Addr) (n0 c0 : Nat) (A1 : Option Addr) (n1 c1 : Nat) (A2 : Option Addr) (n2 c2 : Nat) (A3 : Option Addr) (n3 c3 : Nat) : List Value := [.slice A0 n0 c0, .slice A1 n1 c1, .slice A2 n2 c2, .slice A3 n3 c3]
theorem prt_cells {w : World} {g : Nat} {t : TypeId} {A0 : Option Addr} {n0 c0 : Nat} {A1 : Option Addr} {n1 c1 : Nat} {A2 : Option Addr} {n2 c2 : Nat} {A3 : Option Addr} {n3 c3 : Nat} (h : Bl w g (prtC A0 n0 c0 A1 n1 c1 A2 n2 c2 A3 n3 c3) t) :
    w.cell? ⟨g, 0, none⟩ = some (.slice A0 n0 c0) ∧ w.cell? ⟨g, 1, none⟩ = some (.slice A1 n1 c1) ∧ w.cell? ⟨g, 2, none⟩ = some (.slice A2 n2 c2) ∧ w.cell? ⟨g, 3, none⟩ = some (.slice A3 n3 c3) :=
  ⟨h.cell 0, h.cell 1, h.cell 2, h.cell 3⟩
theorem prt_one (A0 : Option Addr) (n0 c0 : Nat) (A1 : Option Addr) (n1 c1 : Nat) (A2 : Option Addr) (n2 c2 : Nat) (A3 : Option Addr) (n3 c3 : Nat) : ∀ v ∈ prtC A0 n0 c0 A1 n1 c1 A2 n2 c2 A3 n3 c3, v.oneCell' = true := by
  intro v hv
  simp only [prtC, List.mem_cons, List.not_mem_nil, or_false] at hv
  rcases hv with rfl | rfl | rfl | rfl <;> rfl
def nilP : List Value := prtC none 0 0 none 0 0 none 0 0 none 0 0
theorem zero_prt : (Tryd.prog.info? 24).map (·.zero) = some (some (.agg nilP.toArray)) := by kernel_rfl
theorem size_prt : (Tryd.prog.info? 24).map (·.size) = some 4 := by kernel_rfl
theorem built_prt (A0 : Option Addr) (n0 c0 : Nat) (A1 : Option Addr) (n1 c1 : Nat) (A2 : Option Addr) (n2 c2 : Nat) (A3 : Option Addr) (n3 c3 : Nat) :
    Tryd.prog.built 24 [(0, .slice A0 n0 c0), (1, .slice A1 n1 c1), (2, .slice A2 n2 c2), (3, .slice A3 n3 c3)] = some (prtC A0 n0 c0 A1 n1 c1 A2 n2 c2 A3 n3 c3).toArray := by kernel_rfl

/-- few. -/
def fewB (n2 n3 : Nat) : Bool := decide (n2 ≤ 1000) && decide (n3 ≤ 2000)

theorem few_any (A0 : Option Addr) (n0 c0 : Nat) (A1 : Option Addr) (n1 c1 : Nat) (A2 : Option Addr) (n2 c2 : Nat) (A3 : Option Addr) (n3 c3 : Nat) (w : World) :
    Calls Tryd.prog 7 #[.agg #[.slice A0 n0 c0, .slice A1 n1 c1, .slice A2 n2 c2, .slice A3 n3 c3]] w fun e w' => e = .returned (.bool (fewB n2 n3)) ∧ Below w.heap.size w w' := by
  obtain ⟨W0, hW0⟩ : ∃ W, W = w.alloc (.cells (prtC A0 n0 c0 A1 n1 c1 A2 n2 c2 A3 n3 c3).toArray 24) := ⟨_, rfl⟩
  have b0 : Bl W0 w.heap.size (prtC A0 n0 c0 A1 n1 c1 A2 n2 c2 A3 n3 c3) 24 := by rw [hW0]; exact Bl.new _ _ _
  have hb0 : Below w.heap.size w W0 := by rw [hW0]; exact (Below.refl _ w).alloc (Nat.le_refl _) _
  have HW0 : Hid (w.alloc (.cells #[.slice A0 n0 c0, .slice A1 n1 c1, .slice A2 n2 c2, .slice A3 n3 c3] 24) = W0) := hW0.symm
  clear hW0
  obtain ⟨q0, q1, q2, q3⟩ := prt_cells b0
  by_cases h2 : n2 ≤ 1000
  · have d2 : decide ((n2 : Int) ≤ 1000) = true := by simp; omega
    have HD2 : Hid (decide (n2 ≤ 1000) = true) := by unfold Hid; simp [h2]
    by_cases h3 : n3 ≤ 2000
    · have d3 : decide ((n3 : Int) ≤ 2000) = true := by simp; omega
      have HD3 : Hid (decide (n3 ≤ 2000) = true) := by unfold Hid; simp [h3]
      clear h2 h3
      go_enter Tryd.func7, Tryd.ntmps7
      go_wp2_with (rw [HW0.out])
      go_ret
      exact ⟨ret_bool (by unfold fewB; rw [HD2.out, HD3.out]; rfl), hb0⟩
    · have d3 : decide ((n3 : Int) ≤ 2000) = false := by simp; omega
      have HD3 : Hid (decide (n3 ≤ 2000) = false) := by unfold Hid; simp [h3]
      clear h2 h3
      go_enter Tryd.func7, Tryd.ntmps7
      go_wp2_with (rw [HW0.out])
      go_ret
      exact ⟨ret_bool (by unfold fewB; rw [HD2.out, HD3.out]; rfl), hb0⟩
  · have d2 : decide ((n2 : Int) ≤ 1000) = false := by simp; omega
    have HD2 : Hid (decide (n2 ≤ 1000) = false) := by unfold Hid; simp [h2]
    clear h2
    go_enter Tryd.func7, Tryd.ntmps7
    go_wp2_with (rw [HW0.out])
    go_ret
    exact ⟨ret_bool (by unfold fewB; rw [HD2.out]; rfl), hb0⟩

/-- The four lists of a Parts, as a world has them. -/
structure Prt (w : World) (A0 : Option Addr) (c0 : Nat) (l0 : List UInt8) (A1 : Option Addr) (c1 : Nat) (l1 : List UInt8) (A2 : Option Addr) (c2 : Nat) (l2 : List UInt8) (A3 : Option Addr) (c3 : Nat) (l3 : List UInt8) : Prop where
  s0 : Sl w w.heap.size A0 l0.length (cb l0)
  s1 : Sl w w.heap.size A1 l1.length (cb l1)
  s2 : Sl w w.heap.size A2 l2.length (cb l2)
  s3 : Sl w w.heap.size A3 l3.length (cb l3)
theorem Prt.nx {w w' : World} {A0 : Option Addr} {c0 : Nat} {l0 : List UInt8} {A1 : Option Addr} {c1 : Nat} {l1 : List UInt8} {A2 : Option Addr} {c2 : Nat} {l2 : List UInt8} {A3 : Option Addr} {c3 : Nat} {l3 : List UInt8} (h : Prt w A0 c0 l0 A1 c1 l1 A2 c2 l2 A3 c3 l3) (hb : Below w.heap.size w w') : Prt w' A0 c0 l0 A1 c1 l1 A2 c2 l2 A3 c3 l3 :=
  ⟨h.s0.nx hb, h.s1.nx hb, h.s2.nx hb, h.s3.nx hb⟩

/-- What is fixed of a Parts' slices, whatever the world. -/
structure PrtN (A0 : Option Addr) (c0 : Nat) (l0 : List UInt8) (A1 : Option Addr) (c1 : Nat) (l1 : List UInt8) (A2 : Option Addr) (c2 : Nat) (l2 : List UInt8) (A3 : Option Addr) (c3 : Nat) (l3 : List UInt8) : Prop where
  k0 : l0.length ≤ c0
  k1 : l1.length ≤ c1
  k2 : l2.length ≤ c2
  k3 : l3.length ≤ c3
  z0 : A0 = none → c0 = 0
  z1 : A1 = none → c1 = 0
  z2 : A2 = none → c2 = 0
  z3 : A3 = none → c3 = 0

def OwnPost (w : World) (l0 l1 l2 l3 : List UInt8) (e : Ending) (w' : World) : Prop := ∃ X0 d0 X1 d1 X2 d2 X3 d3, e = .returned (.agg (prtC X0 l0.length d0 X1 l1.length d1 X2 l2.length d2 X3 l3.length d3).toArray) ∧ Prt w' X0 d0 l0 X1 d1 l1 X2 d2 l2 X3 d3 l3 ∧ PrtN X0 d0 l0 X1 d1 l1 X2 d2 l2 X3 d3 l3 ∧ Below w.heap.size w w'

set_option maxHeartbeats 1000000 in
theorem pown_any (A0 : Option Addr) (c0 : Nat) (l0 : List UInt8) (A1 : Option Addr) (c1 : Nat) (l1 : List UInt8) (A2 : Option Addr) (c2 : Nat) (l2 : List UInt8) (A3 : Option Addr) (c3 : Nat) (l3 : List UInt8) (w : World) (hp : Prt w A0 c0 l0 A1 c1 l1 A2 c2 l2 A3 c3 l3) (hn : PrtN A0 c0 l0 A1 c1 l1 A2 c2 l2 A3 c3 l3)
    (m0 : l0.length ≤ 140737488355328) (m1 : l1.length ≤ 140737488355328) (m2 : l2.length ≤ 140737488355328) (m3 : l3.length ≤ 140737488355328) :
    Calls Tryd.prog 9 #[.agg #[.slice A0 l0.length c0, .slice A1 l1.length c1, .slice A2 l2.length c2, .slice A3 l3.length c3]] w (OwnPost w l0 l1 l2 l3) := by
  obtain ⟨W0, hW0⟩ : ∃ W, W = w.alloc (.cells (prtC A0 l0.length c0 A1 l1.length c1 A2 l2.length c2 A3 l3.length c3).toArray 24) := ⟨_, rfl⟩
  have b0 : Bl W0 w.heap.size (prtC A0 l0.length c0 A1 l1.length c1 A2 l2.length c2 A3 l3.length c3) 24 := by rw [hW0]; exact Bl.new _ _ _
  have hb0 : Below w.heap.size w W0 := by rw [hW0]; exact (Below.refl _ w).alloc (Nat.le_refl _) _
  have HW0 : Hid (w.alloc (.cells #[.slice A0 l0.length c0, .slice A1 l1.length c1, .slice A2 l2.length c2, .slice A3 l3.length c3] 24) = W0) := hW0.symm
  obtain ⟨W1, hW1⟩ : ∃ W, W = W0.alloc (.cells nilP.toArray 24) := ⟨_, rfl⟩
  have b1 : Bl W1 W0.heap.size nilP 24 := by rw [hW1]; exact Bl.new _ _ _
  have hb1 : Below W0.heap.size W0 W1 := by rw [hW1]; exact (Below.refl _ W0).alloc (Nat.le_refl _) _
  have HW1 : Hid (W0.alloc (.cells nilP.toArray 24) = W1) := hW1.symm
  obtain ⟨gr, hgr⟩ : ∃ g, g = W0.heap.size := ⟨_, rfl⟩
  have hlt := b0.lt
  rw [← hgr] at b1 hlt
  replace b0 := b0.next hb1
  replace hb0 := next hb0 hb1
  obtain ⟨S, hSd⟩ : ∃ S : World → Prop, S = fun w' => w'.cell? ⟨w.heap.size, 0, none⟩ = some (.slice A0 l0.length c0) ∧ w'.cell? ⟨w.heap.size, 1, none⟩ = some (.slice A1 l1.length c1) ∧ w'.cell? ⟨w.heap.size, 2, none⟩ = some (.slice A2 l2.length c2) ∧ w'.cell? ⟨w.heap.size, 3, none⟩ = some (.slice A3 l3.length c3) := ⟨_, rfl⟩
  have HSI : Hid (∀ w', Bl w' w.heap.size (prtC A0 l0.length c0 A1 l1.length c1 A2 l2.length c2 A3 l3.length c3) 24 → S w') := by unfold Hid; intro w' hb; rw [hSd]; exact prt_cells hb
  have HS0 : Hid (∀ w', S w' → w'.cell? ⟨w.heap.size, 0, none⟩ = some (.slice A0 l0.length c0)) := by unfold Hid; intro w' h; rw [hSd] at h; exact h.1
  have HS1 : Hid (∀ w', S w' → w'.cell? ⟨w.heap.size, 1, none⟩ = some (.slice A1 l1.length c1)) := by unfold Hid; intro w' h; rw [hSd] at h; exact h.2.1
  have HS2 : Hid (∀ w', S w' → w'.cell? ⟨w.heap.size, 2, none⟩ = some (.slice A2 l2.length c2)) := by unfold Hid; intro w' h; rw [hSd] at h; exact h.2.2.1
  have HS3 : Hid (∀ w', S w' → w'.cell? ⟨w.heap.size, 3, none⟩ = some (.slice A3 l3.length c3)) := by unfold Hid; intro w' h; rw [hSd] at h; exact h.2.2.2
  have HGR := Lib.hid hgr
  clear hSd hW0 hW1 hgr hb1
  go_enter Tryd.func9, Tryd.ntmps9
  go_wp2_with (refine wpList_alloc_zero rfl 24 rfl nilP zero_prt ?_; rw [HW0.out, HW1.out, ← HGR.out])
  obtain ⟨W2, hW2⟩ : ∃ W, W = W1.drew := ⟨_, rfl⟩
  have hbd : Below W1.heap.size W1 W2 := by rw [hW2]; exact (Below.refl _ W1).drew
  replace b0 := b0.next hbd
  replace b1 := b1.next hbd
  replace hb0 := next hb0 hbd
  have hS := HSI.out _ b0
  refine wp_region_held_drew (S := S) (by kernel_rfl) (by rw [← hW2]; exact hS) (fun _ => ?_)
  rw [← hW2]
  clear hW2 hbd HW0 HW1
  refine wpAnyH_take (i := 0) (v := (.pointer (some ⟨w.heap.size, 0, none⟩))) rfl (by kernel_rfl) (by kernel_rfl) (by kernel_rfl) (fun _ _ _ h => h) (Or.inl ⟨by rfl, fun _ hSw => by go_simp⟩) hS ?_
  simp only [List.getElem_toArray, List.getElem_cons_succ, List.getElem_cons_zero, Act.put, List.setIfInBounds_toArray, List.set_cons_zero, List.set_cons_succ]
  refine wpAnyH_take (i := 1) (v := .slice A0 l0.length c0) rfl (by kernel_rfl) (by kernel_rfl) (by kernel_rfl) (fun _ _ _ h => h) (Or.inl ⟨by rfl, fun w' hSw => by have hq := HS0.out w' hSw; go_simp⟩) hS ?_
  simp only [List.getElem_toArray, List.getElem_cons_succ, List.getElem_cons_zero, Act.put, List.setIfInBounds_toArray, List.set_cons_zero, List.set_cons_succ]
  refine wpAnyH_take (i := 3) (v := (.pointer (some ⟨w.heap.size, 1, none⟩))) rfl (by kernel_rfl) (by kernel_rfl) (by kernel_rfl) (fun _ _ _ h => h) (Or.inl ⟨by rfl, fun _ hSw => by go_simp⟩) hS ?_
  simp only [List.getElem_toArray, List.getElem_cons_succ, List.getElem_cons_zero, Act.put, List.setIfInBounds_toArray, List.set_cons_zero, List.set_cons_succ]
  refine wpAnyH_take (i := 4) (v := .slice A1 l1.length c1) rfl (by kernel_rfl) (by kernel_rfl) (by kernel_rfl) (fun _ _ _ h => h) (Or.inl ⟨by rfl, fun w' hSw => by have hq := HS1.out w' hSw; go_simp⟩) hS ?_
  simp only [List.getElem_toArray, List.getElem_cons_succ, List.getElem_cons_zero, Act.put, List.setIfInBounds_toArray, List.set_cons_zero, List.set_cons_succ]
  refine wpAnyH_take (i := 6) (v := (.pointer (some ⟨w.heap.size, 2, none⟩))) rfl (by kernel_rfl) (by kernel_rfl) (by kernel_rfl) (fun _ _ _ h => h) (Or.inl ⟨by rfl, fun _ hSw => by go_simp⟩) hS ?_
  simp only [List.getElem_toArray, List.getElem_cons_succ, List.getElem_cons_zero, Act.put, List.setIfInBounds_toArray, List.set_cons_zero, List.set_cons_succ]
  refine wpAnyH_take (i := 7) (v := .slice A2 l2.length c2) rfl (by kernel_rfl) (by kernel_rfl) (by kernel_rfl) (fun _ _ _ h => h) (Or.inl ⟨by rfl, fun w' hSw => by have hq := HS2.out w' hSw; go_simp⟩) hS ?_
  simp only [List.getElem_toArray, List.getElem_cons_succ, List.getElem_cons_zero, Act.put, List.setIfInBounds_toArray, List.set_cons_zero, List.set_cons_succ]
  refine wpAnyH_take (i := 9) (v := (.pointer (some ⟨w.heap.size, 3, none⟩))) rfl (by kernel_rfl) (by kernel_rfl) (by kernel_rfl) (fun _ _ _ h => h) (Or.inl ⟨by rfl, fun _ hSw => by go_simp⟩) hS ?_
  simp only [List.getElem_toArray, List.getElem_cons_succ, List.getElem_cons_zero, Act.put, List.setIfInBounds_toArray, List.set_cons_zero, List.set_cons_succ]
  refine wpAnyH_take (i := 10) (v := .slice A3 l3.length c3) rfl (by kernel_rfl) (by kernel_rfl) (by kernel_rfl) (fun _ _ _ h => h) (Or.inl ⟨by rfl, fun w' hSw => by have hq := HS3.out w' hSw; go_simp⟩) hS ?_
  simp only [List.getElem_toArray, List.getElem_cons_succ, List.getElem_cons_zero, Act.put, List.setIfInBounds_toArray, List.set_cons_zero, List.set_cons_succ]
  refine wpAnyH_ready (rs := [2]) (by kernel_rfl) (by simp) (AllReadyH.cons rfl (fun K hK => ?_) AllReadyH.nil)
  simp only [List.getElem_toArray, List.getElem_cons_succ, List.getElem_cons_zero, Act.put, List.setIfInBounds_toArray, List.set_cons_zero, List.set_cons_succ]
  go_simp
  refine (own_any l0 _ _ _ _ _ (hp.s0.nx hb0) hn.z0 m0 (Nat.le_refl _)).mono ?_
  rintro e w3 ⟨X0, d0, rfl, x0⟩
  have o0 : Off gr l0.length X0 := off_new x0 b1.lt
  replace b0 := b0.next x0.below
  replace b1 := b1.next x0.below
  replace hb0 := next hb0 x0.below
  have y0 := x0.sl
  have f0 := x0.none_
  have g0 := own_cap x0.own
  replace hS := HSI.out _ b0
  refine hK.out _ _ hS (fun _ => ?_)
  clear hK K x0
  refine wpAnyH_ready (rs := [5]) (by kernel_rfl) (by simp) (AllReadyH.cons rfl (fun K hK => ?_) AllReadyH.nil)
  simp only [List.getElem_toArray, List.getElem_cons_succ, List.getElem_cons_zero, Act.put, List.setIfInBounds_toArray, List.set_cons_zero, List.set_cons_succ]
  go_simp
  refine (own_any l1 _ _ _ _ _ (hp.s1.nx hb0) hn.z1 m1 (Nat.le_refl _)).mono ?_
  rintro e w4 ⟨X1, d1, rfl, x1⟩
  have o1 : Off gr l1.length X1 := off_new x1 b1.lt
  replace b0 := b0.next x1.below
  replace b1 := b1.next x1.below
  replace hb0 := next hb0 x1.below
  replace y0 := y0.nx x1.below
  have y1 := x1.sl
  have f1 := x1.none_
  have g1 := own_cap x1.own
  replace hS := HSI.out _ b0
  refine hK.out _ _ hS (fun _ => ?_)
  clear hK K x1
  refine wpAnyH_ready (rs := [8]) (by kernel_rfl) (by simp) (AllReadyH.cons rfl (fun K hK => ?_) AllReadyH.nil)
  simp only [List.getElem_toArray, List.getElem_cons_succ, List.getElem_cons_zero, Act.put, List.setIfInBounds_toArray, List.set_cons_zero, List.set_cons_succ]
  go_simp
  refine (own_any l2 _ _ _ _ _ (hp.s2.nx hb0) hn.z2 m2 (Nat.le_refl _)).mono ?_
  rintro e w5 ⟨X2, d2, rfl, x2⟩
  have o2 : Off gr l2.length X2 := off_new x2 b1.lt
  replace b0 := b0.next x2.below
  replace b1 := b1.next x2.below
  replace hb0 := next hb0 x2.below
  replace y0 := y0.nx x2.below
  replace y1 := y1.nx x2.below
  have y2 := x2.sl
  have f2 := x2.none_
  have g2 := own_cap x2.own
  replace hS := HSI.out _ b0
  refine hK.out _ _ hS (fun _ => ?_)
  clear hK K x2
  refine wpAnyH_ready (rs := [11]) (by kernel_rfl) (by simp) (AllReadyH.cons rfl (fun K hK => ?_) AllReadyH.nil)
  simp only [List.getElem_toArray, List.getElem_cons_succ, List.getElem_cons_zero, Act.put, List.setIfInBounds_toArray, List.set_cons_zero, List.set_cons_succ]
  go_simp
  refine (own_any l3 _ _ _ _ _ (hp.s3.nx hb0) hn.z3 m3 (Nat.le_refl _)).mono ?_
  rintro e w6 ⟨X3, d3, rfl, x3⟩
  have o3 : Off gr l3.length X3 := off_new x3 b1.lt
  replace b0 := b0.next x3.below
  replace b1 := b1.next x3.below
  replace hb0 := next hb0 x3.below
  replace y0 := y0.nx x3.below
  replace y1 := y1.nx x3.below
  replace y2 := y2.nx x3.below
  have y3 := x3.sl
  have f3 := x3.none_
  have g3 := own_cap x3.own
  replace hS := HSI.out _ b0
  refine hK.out _ _ hS (fun _ => ?_)
  clear hK K x3
  obtain ⟨C, hC⟩ : ∃ C, C = prtC X0 l0.length d0 X1 l1.length d1 X2 l2.length d2 X3 l3.length d3 := ⟨_, rfl⟩
  have HBU := Lib.hid (built_prt X0 l0.length d0 X1 l1.length d1 X2 l2.length d2 X3 l3.length d3)
  have HC1 : Hid (∀ v ∈ C, v.oneCell' = true) := by unfold Hid; rw [hC]; exact prt_one _ _ _ _ _ _ _ _ _ _ _ _
  have HCL : Hid (C.length = 4) := by unfold Hid; rw [hC]; rfl
  rw [← hC] at HBU
  have HC := Lib.hid hC
  clear hC
  refine wpAnyH_take (i := 12) (v := .agg C.toArray) rfl (by kernel_rfl) (by kernel_rfl) (by kernel_rfl) (fun _ _ _ h => h) (Or.inl ⟨by rfl, fun w' _ => exec_build 24 #[(0, .tmp 5), (1, .tmp 8), (2, .tmp 11), (3, .tmp 14)] rfl C HBU.out w'⟩) hS ?_
  simp only [List.getElem_toArray, List.getElem_cons_succ, List.getElem_cons_zero, Act.put, List.setIfInBounds_toArray, List.set_cons_zero, List.set_cons_succ]
  refine wpAnyH_ready (rs := [13]) (by kernel_rfl) (by simp) (AllReadyH.cons rfl (fun K hK => ?_) AllReadyH.nil)
  simp only [List.getElem_toArray, List.getElem_cons_succ, List.getElem_cons_zero, Act.put, List.setIfInBounds_toArray, List.set_cons_zero, List.set_cons_succ]
  rw [if_pos (by rfl)]
  refine wp_store_mid 24 _ _ rfl _ _ C.toArray rfl rfl (b1.there_ (by simp [nilP, prtC, HCL.out])) (by rw [size_prt, List.size_toArray, HCL.out]) (all_oneCell_toArray HC1.out) ?_
  have hfin := b1.over (vs := C) (by rw [HCL.out]; rfl)
  have hbf := below_setCells hb0 (show w.heap.size ≤ gr by omega) 0 C
  have b0f := b0.sets_other (g := gr) (by omega) 0 C
  have HP : Hid (Prt (w6.setCells gr 0 C) X0 d0 l0 X1 d1 l1 X2 d2 l2 X3 d3 l3) := ⟨y0.nb (but_setCells (but_refl w6 gr) 0 C) o0, y1.nb (but_setCells (but_refl w6 gr) 0 C) o1, y2.nb (but_setCells (but_refl w6 gr) 0 C) o2, y3.nb (but_setCells (but_refl w6 gr) 0 C) o3⟩
  replace hS := HSI.out _ b0f
  refine hK.out _ _ hS (fun _ => ?_)
  clear hK K
  simp only [List.getElem_toArray, List.getElem_cons_succ, List.getElem_cons_zero, Act.put, List.setIfInBounds_toArray, List.set_cons_zero, List.set_cons_succ]
  refine wpAnyH_done (by kernel_rfl) ?_ _
  go_wp2
  exact ret_row Tryd.results9 rfl hfin Tryd.underlying24 rfl (by rw [size_prt, HCL.out]) rfl ⟨X0, d0, X1, d1, X2, d2, X3, d3, by rw [HC.out], HP.out, ⟨g0, g1, g2, g3, f0, f1, f2, f3⟩, hbf⟩

end Go.Proofs.YtgafdlcncojeoaaDoor
