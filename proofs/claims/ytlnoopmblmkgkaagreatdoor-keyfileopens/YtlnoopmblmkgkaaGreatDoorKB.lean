/- Layer 11, keyfile: slices.Clone of bytes; isLength, areRight, Right. -/
import Derived.Test.YtlnoopmblmkgkaaGreatDoorKA
import Derived.Test.YtlnoopmblmkgkaaGreatDoorLB
import Derived.Test.YtlnoopmblmkgkaaGreatDoorLE
import Derived.OrdersHeld
import Derived.Test.YtlnoopmblmkgkaaGreatDoorLX
import Derived.Test.YtlnoopmblmkgkaaGreatDoorTabL
namespace Go.Proofs.YtlnoopmblmkgkaaGreatDoor
set_option maxRecDepth 100000
open Go Go.RowKit
set_option linter.unusedVariables false
set_option linter.unusedSimpArgs false

theorem clone_any (l : List UInt8) (w : World) (B : Nat) (A : Option Addr) (n c : Nat) (h : Sl w B A n (cb l)) (hc : n ≤ c) (hA : A = none → c = 0) (hm : n ≤ 140737488355328) (hB : B ≤ w.heap.size) :
    Calls Tryz.prog 37 #[.slice A n c] w (RetBytes 5 w n l) := by
  obtain ⟨i0, hi, hz0, hz1, hz2⟩ := info_parts u8_info
  cases A with
  | none =>
    obtain rfl := hA rfl
    obtain rfl : n = 0 := by omega
    have hl : l = [] := by have := h.1; rw [cb_len] at this; exact List.eq_nil_of_length_eq_zero this
    subst hl
    have he : ∀ w : World, (binOp .eql 22 (.slice none 0 0) (.slice none 0 0)).run Tryz.prog w = .ok (.bool true) w := fun _ => rfl
    go_enter Tryz.func37, Tryz.ntmps37
    go_wp2
    go_ret
    exact retBytes rfl rfl (World.ownsRow_nil _ _ _ _) (Below.refl _ _)
  | some ad =>
    have he : ∀ w : World, (binOp .eql 22 (.slice (some ad) n c) (.slice none 0 0)).run Tryz.prog w = .ok (.bool false) w := fun _ => rfl
    have h0 := World.ownsRow_lit (base := w.heap.size) (e := 5) (size := 1) w #[] 0 (Nat.le_refl _) (by decide) rfl
    go_enter Tryz.func37, Tryz.ntmps37
    go_wp2_with (at_builtin; refine wpList_append_sl _ rfl _ _ 22 rfl w.heap.size 5 i0 (.int .u8 0) 1 Tryz.underlying22 hi hz0 hz1 hz2 rfl _ 0 [] rfl h0 B (some ad) n c (cb l) rfl (h.alloc hB _) hA (cb_one l) (by unfold maxLen; omega) (by omega) (by simp) ?_; intro v' w1 hown' hgrow hat)
    have hb1 : Below w.heap.size w w1 := below_app ((Below.refl w.heap.size w).alloc (Nat.le_refl _) _) (Nat.le_refl _) h0 hgrow
    clear hgrow hat h0
    go_wp2
    go_ret
    exact retBytes (by omega) (by simp) hown' hb1

theorem islen_any (n : Nat) (w : World) (hn : n ≤ 9223372036854775807) :
    Calls Tryz.prog 82 #[.int .i64 (n : Int)] w fun e w' => e = .returned (.bool (boxn n)) ∧ w = w' := by
  obtain ⟨r, hr⟩ : ∃ r, r = boxn n := ⟨_, rfl⟩
  rw [← hr]
  have HR := Lib.hid hr
  clear hr
  by_cases h16 : n ≤ 16
  · have hq : ¬ ((n : Int) - 16 > 0) := by omega
    go_enter Tryz.func82, Tryz.ntmps82
    go_wp2_with (go_at_call 33; refine (bsizeN_any 0 w (by decide)).mono ?_; rintro e w1 ⟨rfl, rfl⟩)
    go_ret
    exact ⟨ret_bool (by rw [HR.out]; unfold boxn; rw [decide_eq_false (by omega)]; rfl), rfl⟩
  · obtain ⟨t, rfl⟩ : ∃ t, n = t + 16 := ⟨n - 16, by omega⟩
    have ht : 0 < t := by omega
    have HT : Hid (boxn ((t + 16 : Nat) : Int) = (decide (t % 33 = 0) && decide (t / 33 ≤ 64))) := by
      unfold Hid boxn
      rw [Bool.eq_iff_iff]
      simp only [Bool.and_eq_true, decide_eq_true_eq]
      omega
    rw [HT.out] at HR
    by_cases h33 : t % 33 = 0
    · have q1 : ((t : Int) % 33 == 0) = true := by simp; omega
      have H33 := Lib.hid h33
      clear h33
      by_cases h64 : t / 33 ≤ 64
      · have q2 : decide ((t : Int) / 33 ≤ 64) = true := by simp; omega
        have H64 := Lib.hid h64
        clear h64
        go_enter Tryz.func82, Tryz.ntmps82
        go_wp2_with (go_at_call 33; refine (bsizeN_any 0 w (by decide)).mono ?_; rintro e w1 ⟨rfl, rfl⟩)
        go_ret
        exact ⟨ret_bool (by rw [HR.out, decide_eq_true H33.out, decide_eq_true H64.out]; rfl), rfl⟩
      · have q2 : decide ((t : Int) / 33 ≤ 64) = false := by simp; omega
        have H64 := Lib.hid h64
        clear h64
        go_enter Tryz.func82, Tryz.ntmps82
        go_wp2_with (go_at_call 33; refine (bsizeN_any 0 w (by decide)).mono ?_; rintro e w1 ⟨rfl, rfl⟩)
        go_ret
        exact ⟨ret_bool (by rw [HR.out, decide_eq_false H64.out, Bool.and_false]), rfl⟩
    · have q1 : ((t : Int) % 33 == 0) = false := by simp; omega
      have H33 := Lib.hid h33
      clear h33
      go_enter Tryz.func82, Tryz.ntmps82
      go_wp2_with (go_at_call 33; refine (bsizeN_any 0 w (by decide)).mono ?_; rintro e w1 ⟨rfl, rfl⟩)
      go_ret
      exact ⟨ret_bool (by rw [HR.out, decide_eq_false H33.out]; rfl), rfl⟩

set_option maxHeartbeats 400000 in
theorem areright_any (r nu : Int) (n : Nat) (w : World) (hn : n ≤ 9223372036854775807) :
    Calls Tryz.prog 51 #[.int .i64 r, .int .i64 nu, .int .i64 (n : Int)] w fun e w' => e = .returned (.bool (kfit 16 r nu n)) ∧ w = w' := by
  have hcl := islen_any n w hn
  have hk : kfit 16 r nu n = (decide (1 ≤ r) && (decide (r ≤ 4096) && (decide (1 ≤ nu) && (decide (nu ≤ 1099511627776) && boxn n)))) := by
    unfold kfit
    cases boxn n <;> cases decide (1 ≤ r) <;> cases decide (r ≤ 4096) <;> cases decide (1 ≤ nu) <;> cases decide (nu ≤ 1099511627776) <;> rfl
  obtain ⟨R, hR⟩ : ∃ R, R = kfit 16 r nu n := ⟨_, rfl⟩
  rw [← hR] at hk ⊢
  obtain ⟨b, hb⟩ : ∃ b, b = boxn (n : Int) := ⟨_, rfl⟩
  rw [← hb] at hk hcl
  have HK := Lib.hid hk
  have HC := Lib.hid hcl
  clear hk hR hb hcl
  go_enter Tryz.func51, Tryz.ntmps51
  rcases (show ¬ 1 ≤ r ∨ (1 ≤ r ∧ ¬ r ≤ 4096) ∨ (1 ≤ r ∧ r ≤ 4096 ∧ ¬ 1 ≤ nu) ∨ (1 ≤ r ∧ r ≤ 4096 ∧ 1 ≤ nu ∧ ¬ nu ≤ 1099511627776) ∨ (1 ≤ r ∧ r ≤ 4096 ∧ 1 ≤ nu ∧ nu ≤ 1099511627776) by omega) with h1 | ⟨h1, h2⟩ | ⟨h1, h2, h3⟩ | ⟨h1, h2, h3, h4⟩ | ⟨h1, h2, h3, h4⟩
  all_goals
    go_wp2_with (go_at_call 82; refine HC.out.mono ?_; rintro e w1 ⟨rfl, rfl⟩)
    go_ret
    exact ⟨ret_bool (by rw [HK.out]; cases b <;> simp <;> omega), rfl⟩

set_option maxHeartbeats 1000000 in
/-- A file's own Right. -/
theorem fright_any (A : Option Addr) (n c : Nat) (r nu : Int) (B : Option Addr) (m d : Nat) (w : World) (hm : m ≤ 9223372036854775807) (hn : n ≤ 9223372036854775807) :
    Calls Tryz.prog 20 #[.agg (fC A n c r nu B m d).toArray] w fun e w' => e = .returned (.bool (kfit n r nu m)) ∧ Below w.heap.size w w' := by
  obtain ⟨W, HW, b0, hb0, hsz⟩ := put_f w (fC A n c r nu B m d) 35
  obtain ⟨q0, q1, q2, q3⟩ := f_cells b0
  by_cases h16 : n = 16
  · subst h16
    have hcl := areright_any r nu m W hm
    have hq : (((16 : Nat) : Int) == 16) = true := by decide
    have HC := Lib.hid hcl
    clear hsz b0 hcl
    go_enter Tryz.func20, Tryz.ntmps20
    go_wp2_with (first
      | (refine wpList_box_agg rfl 35 _ rfl (fC A 16 c r nu B m d) rfl ?_; rw [HW.out])
      | (go_at_call 51; refine HC.out.mono ?_; rintro e w1 ⟨rfl, rfl⟩))
    go_ret
    exact ⟨rfl, hb0⟩
  · have hk : kfit n r nu m = false := by
      rw [← Bool.not_eq_true, kfit_iff]
      intro h
      exact h16 (by omega)
    rw [hk]
    have hq : ((n : Int) == 16) = false := by simp; omega
    clear hsz b0 hk h16
    go_enter Tryz.func20, Tryz.ntmps20
    go_wp2_with (first
      | (refine wpList_box_agg rfl 35 _ rfl (fC A n c r nu B m d) rfl ?_; rw [HW.out]))
    go_ret
    exact ⟨rfl, hb0⟩

end Go.Proofs.YtlnoopmblmkgkaaGreatDoor

namespace Go.Proofs.YtlnoopmblmkgkaaGreatDoor
set_option maxRecDepth 100000
open Go Go.RowKit
set_option linter.unusedVariables false
set_option linter.unusedSimpArgs false

end Go.Proofs.YtlnoopmblmkgkaaGreatDoor

namespace Go.Proofs.YtlnoopmblmkgkaaGreatDoor
set_option maxRecDepth 100000
open Go Go.RowKit
set_option linter.unusedVariables false
set_option linter.unusedSimpArgs false

theorem exec_lh {P : Program} {a : Act} {o : Oper} (w : World) (t e : TypeId) (x lo hi : Operand) (ho : o.op = .slice t x (some lo) (some hi) none) (ht : P.underlying t = some (.slice e)) (he : (P.info? e).map (·.size) = some 1) (A : Option Addr) (n c l h : Nat) (kl kh : IntKind) (L H : Int)
    (hx : a.eval x = .slice A n c) (hlo : a.eval lo = .int kl L) (hhi : a.eval hi = .int kh H) (eL : L = l) (eH : H = h) (h1 : l ≤ h) (h2 : h ≤ c) (hA : A = none → c = 0) (A' : Option Addr) (hA' : A' = if c = l then A else A.map (·.add l)) :
    (execOp a.eval o).run P w = .ok (.value (.slice A' (h - l) (c - l))) w := by
  have hr := run_slice_lh (P := P) w t e ht he A n c l h kl kh L H eL eH h1 h2 hA
  unfold execOp
  simp only [ho, Option.map_some, Option.map_none, hx, hlo, hhi, Instr.sliceAt, Sem.run_bind, run_underlying ht, Result.andThen_ok, hr, ← hA']
  rfl

end Go.Proofs.YtlnoopmblmkgkaaGreatDoor

namespace Go.Proofs.YtlnoopmblmkgkaaGreatDoor
set_option maxRecDepth 100000
open Go Go.RowKit
set_option linter.unusedVariables false
set_option linter.unusedSimpArgs false

theorem parts_bl {w : World} {B g : Nat} {t : TypeId} {vs : List Value} {ls : List (List UInt8)} (hb : Bl w g vs t) (hg : g < B) (hl : vs.length = ls.length) (h : ∀ j (h : j < ls.length), ∃ v, vs[j]? = some v ∧ PartOk w B v ls[j]) : Parts w B (some ⟨g, 0, none⟩) ls.length ls :=
  ⟨vs, (hb.sl (o := 0) (n := ls.length) (by rw [List.drop_zero, List.take_of_length_le (by omega)]) (by omega)).up hg, hl, h⟩
theorem By.part {w : World} {A : Option Addr} {n c : Nat} {l : List UInt8} (h : By w A n c l) : PartOk w w.heap.size (.slice A n c) l := by
  obtain ⟨h1, rfl, h3, h4⟩ := h
  exact ⟨A, c, rfl, h1, h3, h4⟩
/-- Five lists of bytes in a list of their own. -/
theorem list_five {w : World} (t : TypeId) {A0 A1 A2 A3 A4 : Option Addr} {n0 n1 n2 n3 n4 c0 c1 c2 c3 c4 : Nat} {l0 l1 l2 l3 l4 : List UInt8} (h0 : By w A0 n0 c0 l0) (h1 : By w A1 n1 c1 l1) (h2 : By w A2 n2 c2 l2) (h3 : By w A3 n3 c3 l3) (h4 : By w A4 n4 c4 l4) :
    Parts (w.alloc (.cells #[.slice A0 n0 c0, .slice A1 n1 c1, .slice A2 n2 c2, .slice A3 n3 c3, .slice A4 n4 c4] t)) (w.alloc (.cells #[.slice A0 n0 c0, .slice A1 n1 c1, .slice A2 n2 c2, .slice A3 n3 c3, .slice A4 n4 c4] t)).heap.size (some ⟨w.heap.size, 0, none⟩) 5 [l0, l1, l2, l3, l4] ∧ Below w.heap.size w (w.alloc (.cells #[.slice A0 n0 c0, .slice A1 n1 c1, .slice A2 n2 c2, .slice A3 n3 c3, .slice A4 n4 c4] t)) := by
  have hb : Below w.heap.size w (w.alloc (.cells #[.slice A0 n0 c0, .slice A1 n1 c1, .slice A2 n2 c2, .slice A3 n3 c3, .slice A4 n4 c4] t)) := (Below.refl _ w).alloc (Nat.le_refl _) _
  have b := Bl.newA w #[.slice A0 n0 c0, .slice A1 n1 c1, .slice A2 n2 c2, .slice A3 n3 c3, .slice A4 n4 c4] t
  refine ⟨parts_bl (ls := [l0, l1, l2, l3, l4]) b b.lt rfl fun j hj => ?_, hb⟩
  match j, hj with
  | 0, _ => exact ⟨_, rfl, (h0.nx hb).part⟩
  | 1, _ => exact ⟨_, rfl, (h1.nx hb).part⟩
  | 2, _ => exact ⟨_, rfl, (h2.nx hb).part⟩
  | 3, _ => exact ⟨_, rfl, (h3.nx hb).part⟩
  | 4, _ => exact ⟨_, rfl, (h4.nx hb).part⟩

set_option maxHeartbeats 4000000 in
theorem header_any (S : List UInt8) (A : Option Addr) (c r nu : Nat) (B : Option Addr) (m d : Nat) (w : World) (hs : By w A 16 c S) (hr : r < 4294967296) (hnu : nu < 9223372036854775808) (hm : m < 4294967296) :
    Calls Tryz.prog 52 #[.agg (fC A 16 c r nu B m d).toArray] w (RetBytes 5 w 33 (headL S r nu m)) := by
  obtain ⟨W, HW, b0, hb0, hsz⟩ := put_f w (fC A 16 c r nu B m d) 35
  have HSL := Lib.hid hs.len
  have HHL : Hid ((headL S r nu m).length = 33) := headL_len hs.len.symm r nu m
  have hwr : IntKind.u32.wrap (r : Int) = (r : Int) := by simp only [IntKind.wrap_u32]; omega
  have hwn : IntKind.u64.wrap (nu : Int) = (nu : Int) := by simp only [IntKind.wrap_u64]; omega
  have hwm : IntKind.u32.wrap (m : Int) = (m : Int) := by simp only [IntKind.wrap_u32]; omega
  have HFL : Hid ([[(117 : UInt8)], S, stored r false, told8 nu, stored m false].flatten = headL S r nu m) := by unfold Hid headL; simp
  obtain ⟨SS, hSd⟩ : ∃ SS : World → Prop, SS = fun w' => Bl w' w.heap.size (fC A 16 c r nu B m d) 35 := ⟨_, rfl⟩
  have HSI : Hid (∀ w', Bl w' w.heap.size (fC A 16 c r nu B m d) 35 → SS w') := by unfold Hid; intro w' hb; rw [hSd]; exact hb
  have HS : Hid (∀ w', SS w' → w'.cell? ⟨w.heap.size, 0, none⟩ = some (.slice A 16 c) ∧ w'.cell? ⟨w.heap.size, 1, none⟩ = some (.int .i64 r) ∧ w'.cell? ⟨w.heap.size, 2, none⟩ = some (.int .i64 nu) ∧ w'.cell? ⟨w.heap.size, 3, none⟩ = some (.slice B m d)) := by unfold Hid; intro w' h; rw [hSd] at h; exact f_cells h
  obtain ⟨L1, hL1⟩ : ∃ l, l = stored r false := ⟨_, rfl⟩
  obtain ⟨L2, hL2⟩ : ∃ l, l = told8 nu := ⟨_, rfl⟩
  obtain ⟨L3, hL3⟩ : ∃ l, l = stored m false := ⟨_, rfl⟩
  rw [← hL1, ← hL2, ← hL3] at HFL
  have HL1 : Hid (stored r false = L1) := hL1.symm
  have HL2 : Hid (told8 nu = L2) := hL2.symm
  have HL3 : Hid (stored m false = L3) := hL3.symm
  have HWR := Lib.hid hwr
  have HWN := Lib.hid hwn
  have HWM := Lib.hid hwm
  clear hSd hsz hL1 hL2 hL3 hwr hwn hwm
  go_enter Tryz.func52, Tryz.ntmps52
  go_wp2_with (refine wpList_box_agg rfl 35 _ rfl (fC A 16 c r nu B m d) rfl ?_; rw [HW.out])
  obtain ⟨W2, hW2⟩ : ∃ W', W' = W.drew := ⟨_, rfl⟩
  have hbd : Below W.heap.size W W2 := by rw [hW2]; exact (Below.refl _ W).drew
  replace b0 := b0.next hbd
  replace hb0 := next hb0 hbd
  have hS := HSI.out _ b0
  refine wp_region_held_drew (S := SS) (by kernel_rfl) (by rw [← hW2]; exact hS) (fun _ => ?_)
  rw [← hW2]
  clear hW2 hbd
  refine wpAnyH_take (i := 1) (v := (.pointer (some ⟨w.heap.size, 0, none⟩))) rfl (by kernel_rfl) (by kernel_rfl) (by kernel_rfl) (fun _ _ _ h => h) (Or.inl ⟨by rfl, fun _ hSw => by go_simp⟩) hS ?_
  simp only [List.getElem_toArray, List.getElem_cons_succ, List.getElem_cons_zero, Act.put, List.setIfInBounds_toArray, List.set_cons_zero, List.set_cons_succ]
  refine wpAnyH_take (i := 2) (v := .slice A 16 c) rfl (by kernel_rfl) (by kernel_rfl) (by kernel_rfl) (fun _ _ _ h => h) (Or.inl ⟨by rfl, fun w' hSw => by have hq := (HS.out w' hSw).1; go_simp⟩) hS ?_
  simp only [List.getElem_toArray, List.getElem_cons_succ, List.getElem_cons_zero, Act.put, List.setIfInBounds_toArray, List.set_cons_zero, List.set_cons_succ]
  refine wpAnyH_take (i := 3) (v := (.pointer (some ⟨w.heap.size, 1, none⟩))) rfl (by kernel_rfl) (by kernel_rfl) (by kernel_rfl) (fun _ _ _ h => h) (Or.inl ⟨by rfl, fun _ hSw => by go_simp⟩) hS ?_
  simp only [List.getElem_toArray, List.getElem_cons_succ, List.getElem_cons_zero, Act.put, List.setIfInBounds_toArray, List.set_cons_zero, List.set_cons_succ]
  refine wpAnyH_take (i := 4) (v := .int .i64 (r : Int)) rfl (by kernel_rfl) (by kernel_rfl) (by kernel_rfl) (fun _ _ _ h => h) (Or.inl ⟨by rfl, fun w' hSw => by have hq := (HS.out w' hSw).2.1; go_simp⟩) hS ?_
  simp only [List.getElem_toArray, List.getElem_cons_succ, List.getElem_cons_zero, Act.put, List.setIfInBounds_toArray, List.set_cons_zero, List.set_cons_succ]
  refine wpAnyH_take (i := 5) (v := (.int .u32 (r : Int))) rfl (by kernel_rfl) (by kernel_rfl) (by kernel_rfl) (fun _ _ _ h => h) (Or.inl ⟨by rfl, fun _ hSw => by go_simp; exact HWR.out⟩) hS ?_
  simp only [List.getElem_toArray, List.getElem_cons_succ, List.getElem_cons_zero, Act.put, List.setIfInBounds_toArray, List.set_cons_zero, List.set_cons_succ]
  refine wpAnyH_take (i := 7) (v := (.pointer (some ⟨w.heap.size, 2, none⟩))) rfl (by kernel_rfl) (by kernel_rfl) (by kernel_rfl) (fun _ _ _ h => h) (Or.inl ⟨by rfl, fun _ hSw => by go_simp⟩) hS ?_
  simp only [List.getElem_toArray, List.getElem_cons_succ, List.getElem_cons_zero, Act.put, List.setIfInBounds_toArray, List.set_cons_zero, List.set_cons_succ]
  refine wpAnyH_take (i := 8) (v := .int .i64 (nu : Int)) rfl (by kernel_rfl) (by kernel_rfl) (by kernel_rfl) (fun _ _ _ h => h) (Or.inl ⟨by rfl, fun w' hSw => by have hq := (HS.out w' hSw).2.2.1; go_simp⟩) hS ?_
  simp only [List.getElem_toArray, List.getElem_cons_succ, List.getElem_cons_zero, Act.put, List.setIfInBounds_toArray, List.set_cons_zero, List.set_cons_succ]
  refine wpAnyH_take (i := 9) (v := (.int .u64 (nu : Int))) rfl (by kernel_rfl) (by kernel_rfl) (by kernel_rfl) (fun _ _ _ h => h) (Or.inl ⟨by rfl, fun _ hSw => by go_simp; exact HWN.out⟩) hS ?_
  simp only [List.getElem_toArray, List.getElem_cons_succ, List.getElem_cons_zero, Act.put, List.setIfInBounds_toArray, List.set_cons_zero, List.set_cons_succ]
  refine wpAnyH_take (i := 11) (v := (.pointer (some ⟨w.heap.size, 3, none⟩))) rfl (by kernel_rfl) (by kernel_rfl) (by kernel_rfl) (fun _ _ _ h => h) (Or.inl ⟨by rfl, fun _ hSw => by go_simp⟩) hS ?_
  simp only [List.getElem_toArray, List.getElem_cons_succ, List.getElem_cons_zero, Act.put, List.setIfInBounds_toArray, List.set_cons_zero, List.set_cons_succ]
  refine wpAnyH_take (i := 12) (v := .slice B m d) rfl (by kernel_rfl) (by kernel_rfl) (by kernel_rfl) (fun _ _ _ h => h) (Or.inl ⟨by rfl, fun w' hSw => by have hq := (HS.out w' hSw).2.2.2; go_simp⟩) hS ?_
  simp only [List.getElem_toArray, List.getElem_cons_succ, List.getElem_cons_zero, Act.put, List.setIfInBounds_toArray, List.set_cons_zero, List.set_cons_succ]
  refine wpAnyH_take (i := 13) (v := (.int .i64 (m : Int))) rfl (by kernel_rfl) (by kernel_rfl) (by kernel_rfl) (fun _ _ _ h => h) (Or.inl ⟨by rfl, fun _ hSw => by go_simp⟩) hS ?_
  simp only [List.getElem_toArray, List.getElem_cons_succ, List.getElem_cons_zero, Act.put, List.setIfInBounds_toArray, List.set_cons_zero, List.set_cons_succ]
  refine wpAnyH_take (i := 14) (v := (.int .u32 (m : Int))) rfl (by kernel_rfl) (by kernel_rfl) (by kernel_rfl) (fun _ _ _ h => h) (Or.inl ⟨by rfl, fun _ hSw => by go_simp; exact HWM.out⟩) hS ?_
  simp only [List.getElem_toArray, List.getElem_cons_succ, List.getElem_cons_zero, Act.put, List.setIfInBounds_toArray, List.set_cons_zero, List.set_cons_succ]
  refine wpAnyH_ready (rs := [0, 6]) (by kernel_rfl) (by simp) (AllReadyH.cons rfl (fun K hK => ?_) (AllReadyH.cons rfl (fun K hK => ?_) AllReadyH.nil))
  · -- 0 first
    simp only [List.getElem_toArray, List.getElem_cons_succ, List.getElem_cons_zero, Act.put, List.setIfInBounds_toArray, List.set_cons_zero, List.set_cons_succ]
    go_simp
    obtain ⟨Wa, hWa⟩ : ∃ W', W' = W2.alloc (.cells #[.int .u8 117] 5) := ⟨_, rfl⟩
    have hba : Below W2.heap.size W2 Wa := by rw [hWa]; exact (Below.refl _ W2).alloc (Nat.le_refl _) _
    have sp : By Wa (some ⟨W2.heap.size, 0, none⟩) 1 1 [117] := by rw [hWa]; exact ⟨(Sl.new W2 #[.int .u8 117] 5).up (by simp), rfl, Nat.le_refl _, fun h => by cases h⟩
    rw [← hWa]
    clear hWa
    replace b0 := b0.next hba
    replace hb0 := next hb0 hba
    replace hS := HSI.out _ b0
    refine hK.out _ _ hS (fun _ => ?_)
    clear hK K
    refine wpAnyH_ready (rs := [6]) (by kernel_rfl) (by simp) (AllReadyH.cons rfl (fun K hK => ?_) AllReadyH.nil)
    simp only [List.getElem_toArray, List.getElem_cons_succ, List.getElem_cons_zero, Act.put, List.setIfInBounds_toArray, List.set_cons_zero, List.set_cons_succ]
    go_simp
    refine (store_any r false Wa).mono ?_
    rintro e w3 ⟨X1, d1, rfl, x1⟩
    rw [HL1.out] at x1
    have y1 := x1.bys
    replace sp := sp.nx x1.below
    replace b0 := b0.next x1.below
    replace hb0 := next hb0 x1.below
    replace hS := HSI.out _ b0
    refine hK.out _ _ hS (fun _ => ?_)
    clear hK K x1
    refine wpAnyH_ready (rs := [10]) (by kernel_rfl) (by simp) (AllReadyH.cons rfl (fun K hK => ?_) AllReadyH.nil)
    simp only [List.getElem_toArray, List.getElem_cons_succ, List.getElem_cons_zero, Act.put, List.setIfInBounds_toArray, List.set_cons_zero, List.set_cons_succ]
    go_simp
    refine (tell_any nu w3).mono ?_
    rintro e w4 ⟨X2, d2, rfl, x2⟩
    rw [HL2.out] at x2
    have y2 := x2.bys
    replace sp := sp.nx x2.below
    replace y1 := y1.nx x2.below
    replace b0 := b0.next x2.below
    replace hb0 := next hb0 x2.below
    replace hS := HSI.out _ b0
    refine hK.out _ _ hS (fun _ => ?_)
    clear hK K x2
    refine wpAnyH_ready (rs := [15]) (by kernel_rfl) (by simp) (AllReadyH.cons rfl (fun K hK => ?_) AllReadyH.nil)
    simp only [List.getElem_toArray, List.getElem_cons_succ, List.getElem_cons_zero, Act.put, List.setIfInBounds_toArray, List.set_cons_zero, List.set_cons_succ]
    go_simp
    refine (store_any m false w4).mono ?_
    rintro e w5 ⟨X3, d3, rfl, x3⟩
    rw [HL3.out] at x3
    have y3 := x3.bys
    replace sp := sp.nx x3.below
    replace y1 := y1.nx x3.below
    replace y2 := y2.nx x3.below
    replace b0 := b0.next x3.below
    replace hb0 := next hb0 x3.below
    replace hS := HSI.out _ b0
    refine hK.out _ _ hS (fun _ => ?_)
    clear hK K x3
    refine wpAnyH_ready (rs := [16]) (by kernel_rfl) (by simp) (AllReadyH.cons rfl (fun K hK => ?_) AllReadyH.nil)
    simp only [List.getElem_toArray, List.getElem_cons_succ, List.getElem_cons_zero, Act.put, List.setIfInBounds_toArray, List.set_cons_zero, List.set_cons_succ]
    go_simp
    obtain ⟨hp, hb6⟩ := list_five 22 sp (hs.nx hb0) y1 y2 y3
    replace b0 := b0.next hb6
    replace hb0 := next hb0 hb6
    replace hS := HSI.out _ b0
    refine hK.out _ _ hS (fun _ => ?_)
    clear hK K
    refine wpAnyH_ready (rs := [17]) (by kernel_rfl) (by simp) (AllReadyH.cons rfl (fun K hK => ?_) AllReadyH.nil)
    simp only [List.getElem_toArray, List.getElem_cons_succ, List.getElem_cons_zero, Act.put, List.setIfInBounds_toArray, List.set_cons_zero, List.set_cons_succ]
    go_simp
    refine (concat_any [[117], S, L1, L2, L3] _ _ 5 5 hp (by decide) 33 (headL S r nu m) HHL.out.symm HFL.out (by decide)).mono ?_
    rintro e w7 ⟨X7, d7, rfl, x7⟩
    replace b0 := b0.next x7.below
    have HO := Lib.hid (own_down x7.own hb0.size)
    replace hb0 := next hb0 x7.below
    replace hS := HSI.out _ b0
    refine hK.out _ _ hS (fun _ => ?_)
    clear hK K x7
    refine wpAnyH_take (i := 18) (v := (.slice X7 33 d7)) rfl (by kernel_rfl) (by kernel_rfl) (by kernel_rfl) (fun _ _ _ h => h) (Or.inl ⟨by rfl, fun _ hSw => by go_simp⟩) hS ?_
    simp only [List.getElem_toArray, List.getElem_cons_succ, List.getElem_cons_zero, Act.put, List.setIfInBounds_toArray, List.set_cons_zero, List.set_cons_succ]
    refine wpAnyH_done (by kernel_rfl) ?_ _
    go_wp2
    go_ret
    exact ⟨X7, d7, rfl, HO.out, hb0⟩
  · skip
    simp only [List.getElem_toArray, List.getElem_cons_succ, List.getElem_cons_zero, Act.put, List.setIfInBounds_toArray, List.set_cons_zero, List.set_cons_succ]
    go_simp
    refine (store_any r false W2).mono ?_
    rintro e w3 ⟨X1, d1, rfl, x1⟩
    rw [HL1.out] at x1
    have y1 := x1.bys
    replace b0 := b0.next x1.below
    replace hb0 := next hb0 x1.below
    replace hS := HSI.out _ b0
    refine hK.out _ _ hS (fun _ => ?_)
    clear hK K x1
    refine wpAnyH_ready (rs := [0, 10]) (by kernel_rfl) (by simp) (AllReadyH.cons rfl (fun K hK => ?_) (AllReadyH.cons rfl (fun K hK => ?_) AllReadyH.nil))
    · skip
      simp only [List.getElem_toArray, List.getElem_cons_succ, List.getElem_cons_zero, Act.put, List.setIfInBounds_toArray, List.set_cons_zero, List.set_cons_succ]
      go_simp
      obtain ⟨Wa, hWa⟩ : ∃ W', W' = w3.alloc (.cells #[.int .u8 117] 5) := ⟨_, rfl⟩
      have hba : Below w3.heap.size w3 Wa := by rw [hWa]; exact (Below.refl _ w3).alloc (Nat.le_refl _) _
      have sp : By Wa (some ⟨w3.heap.size, 0, none⟩) 1 1 [117] := by rw [hWa]; exact ⟨(Sl.new w3 #[.int .u8 117] 5).up (by simp), rfl, Nat.le_refl _, fun h => by cases h⟩
      rw [← hWa]
      clear hWa
      replace y1 := y1.nx hba
      replace b0 := b0.next hba
      replace hb0 := next hb0 hba
      replace hS := HSI.out _ b0
      refine hK.out _ _ hS (fun _ => ?_)
      clear hK K
      refine wpAnyH_ready (rs := [10]) (by kernel_rfl) (by simp) (AllReadyH.cons rfl (fun K hK => ?_) AllReadyH.nil)
      simp only [List.getElem_toArray, List.getElem_cons_succ, List.getElem_cons_zero, Act.put, List.setIfInBounds_toArray, List.set_cons_zero, List.set_cons_succ]
      go_simp
      refine (tell_any nu Wa).mono ?_
      rintro e w4 ⟨X2, d2, rfl, x2⟩
      rw [HL2.out] at x2
      have y2 := x2.bys
      replace sp := sp.nx x2.below
      replace y1 := y1.nx x2.below
      replace b0 := b0.next x2.below
      replace hb0 := next hb0 x2.below
      replace hS := HSI.out _ b0
      refine hK.out _ _ hS (fun _ => ?_)
      clear hK K x2
      refine wpAnyH_ready (rs := [15]) (by kernel_rfl) (by simp) (AllReadyH.cons rfl (fun K hK => ?_) AllReadyH.nil)
      simp only [List.getElem_toArray, List.getElem_cons_succ, List.getElem_cons_zero, Act.put, List.setIfInBounds_toArray, List.set_cons_zero, List.set_cons_succ]
      go_simp
      refine (store_any m false w4).mono ?_
      rintro e w5 ⟨X3, d3, rfl, x3⟩
      rw [HL3.out] at x3
      have y3 := x3.bys
      replace sp := sp.nx x3.below
      replace y1 := y1.nx x3.below
      replace y2 := y2.nx x3.below
      replace b0 := b0.next x3.below
      replace hb0 := next hb0 x3.below
      replace hS := HSI.out _ b0
      refine hK.out _ _ hS (fun _ => ?_)
      clear hK K x3
      refine wpAnyH_ready (rs := [16]) (by kernel_rfl) (by simp) (AllReadyH.cons rfl (fun K hK => ?_) AllReadyH.nil)
      simp only [List.getElem_toArray, List.getElem_cons_succ, List.getElem_cons_zero, Act.put, List.setIfInBounds_toArray, List.set_cons_zero, List.set_cons_succ]
      go_simp
      obtain ⟨hp, hb6⟩ := list_five 22 sp (hs.nx hb0) y1 y2 y3
      replace b0 := b0.next hb6
      replace hb0 := next hb0 hb6
      replace hS := HSI.out _ b0
      refine hK.out _ _ hS (fun _ => ?_)
      clear hK K
      refine wpAnyH_ready (rs := [17]) (by kernel_rfl) (by simp) (AllReadyH.cons rfl (fun K hK => ?_) AllReadyH.nil)
      simp only [List.getElem_toArray, List.getElem_cons_succ, List.getElem_cons_zero, Act.put, List.setIfInBounds_toArray, List.set_cons_zero, List.set_cons_succ]
      go_simp
      refine (concat_any [[117], S, L1, L2, L3] _ _ 5 5 hp (by decide) 33 (headL S r nu m) HHL.out.symm HFL.out (by decide)).mono ?_
      rintro e w7 ⟨X7, d7, rfl, x7⟩
      replace b0 := b0.next x7.below
      have HO := Lib.hid (own_down x7.own hb0.size)
      replace hb0 := next hb0 x7.below
      replace hS := HSI.out _ b0
      refine hK.out _ _ hS (fun _ => ?_)
      clear hK K x7
      refine wpAnyH_take (i := 18) (v := (.slice X7 33 d7)) rfl (by kernel_rfl) (by kernel_rfl) (by kernel_rfl) (fun _ _ _ h => h) (Or.inl ⟨by rfl, fun _ hSw => by go_simp⟩) hS ?_
      simp only [List.getElem_toArray, List.getElem_cons_succ, List.getElem_cons_zero, Act.put, List.setIfInBounds_toArray, List.set_cons_zero, List.set_cons_succ]
      refine wpAnyH_done (by kernel_rfl) ?_ _
      go_wp2
      go_ret
      exact ⟨X7, d7, rfl, HO.out, hb0⟩
    · skip
      simp only [List.getElem_toArray, List.getElem_cons_succ, List.getElem_cons_zero, Act.put, List.setIfInBounds_toArray, List.set_cons_zero, List.set_cons_succ]
      go_simp
      refine (tell_any nu w3).mono ?_
      rintro e w4 ⟨X2, d2, rfl, x2⟩
      rw [HL2.out] at x2
      have y2 := x2.bys
      replace y1 := y1.nx x2.below
      replace b0 := b0.next x2.below
      replace hb0 := next hb0 x2.below
      replace hS := HSI.out _ b0
      refine hK.out _ _ hS (fun _ => ?_)
      clear hK K x2
      refine wpAnyH_ready (rs := [0, 15]) (by kernel_rfl) (by simp) (AllReadyH.cons rfl (fun K hK => ?_) (AllReadyH.cons rfl (fun K hK => ?_) AllReadyH.nil))
      · skip
        simp only [List.getElem_toArray, List.getElem_cons_succ, List.getElem_cons_zero, Act.put, List.setIfInBounds_toArray, List.set_cons_zero, List.set_cons_succ]
        go_simp
        obtain ⟨Wa, hWa⟩ : ∃ W', W' = w4.alloc (.cells #[.int .u8 117] 5) := ⟨_, rfl⟩
        have hba : Below w4.heap.size w4 Wa := by rw [hWa]; exact (Below.refl _ w4).alloc (Nat.le_refl _) _
        have sp : By Wa (some ⟨w4.heap.size, 0, none⟩) 1 1 [117] := by rw [hWa]; exact ⟨(Sl.new w4 #[.int .u8 117] 5).up (by simp), rfl, Nat.le_refl _, fun h => by cases h⟩
        rw [← hWa]
        clear hWa
        replace y1 := y1.nx hba
        replace y2 := y2.nx hba
        replace b0 := b0.next hba
        replace hb0 := next hb0 hba
        replace hS := HSI.out _ b0
        refine hK.out _ _ hS (fun _ => ?_)
        clear hK K
        refine wpAnyH_ready (rs := [15]) (by kernel_rfl) (by simp) (AllReadyH.cons rfl (fun K hK => ?_) AllReadyH.nil)
        simp only [List.getElem_toArray, List.getElem_cons_succ, List.getElem_cons_zero, Act.put, List.setIfInBounds_toArray, List.set_cons_zero, List.set_cons_succ]
        go_simp
        refine (store_any m false Wa).mono ?_
        rintro e w5 ⟨X3, d3, rfl, x3⟩
        rw [HL3.out] at x3
        have y3 := x3.bys
        replace sp := sp.nx x3.below
        replace y1 := y1.nx x3.below
        replace y2 := y2.nx x3.below
        replace b0 := b0.next x3.below
        replace hb0 := next hb0 x3.below
        replace hS := HSI.out _ b0
        refine hK.out _ _ hS (fun _ => ?_)
        clear hK K x3
        refine wpAnyH_ready (rs := [16]) (by kernel_rfl) (by simp) (AllReadyH.cons rfl (fun K hK => ?_) AllReadyH.nil)
        simp only [List.getElem_toArray, List.getElem_cons_succ, List.getElem_cons_zero, Act.put, List.setIfInBounds_toArray, List.set_cons_zero, List.set_cons_succ]
        go_simp
        obtain ⟨hp, hb6⟩ := list_five 22 sp (hs.nx hb0) y1 y2 y3
        replace b0 := b0.next hb6
        replace hb0 := next hb0 hb6
        replace hS := HSI.out _ b0
        refine hK.out _ _ hS (fun _ => ?_)
        clear hK K
        refine wpAnyH_ready (rs := [17]) (by kernel_rfl) (by simp) (AllReadyH.cons rfl (fun K hK => ?_) AllReadyH.nil)
        simp only [List.getElem_toArray, List.getElem_cons_succ, List.getElem_cons_zero, Act.put, List.setIfInBounds_toArray, List.set_cons_zero, List.set_cons_succ]
        go_simp
        refine (concat_any [[117], S, L1, L2, L3] _ _ 5 5 hp (by decide) 33 (headL S r nu m) HHL.out.symm HFL.out (by decide)).mono ?_
        rintro e w7 ⟨X7, d7, rfl, x7⟩
        replace b0 := b0.next x7.below
        have HO := Lib.hid (own_down x7.own hb0.size)
        replace hb0 := next hb0 x7.below
        replace hS := HSI.out _ b0
        refine hK.out _ _ hS (fun _ => ?_)
        clear hK K x7
        refine wpAnyH_take (i := 18) (v := (.slice X7 33 d7)) rfl (by kernel_rfl) (by kernel_rfl) (by kernel_rfl) (fun _ _ _ h => h) (Or.inl ⟨by rfl, fun _ hSw => by go_simp⟩) hS ?_
        simp only [List.getElem_toArray, List.getElem_cons_succ, List.getElem_cons_zero, Act.put, List.setIfInBounds_toArray, List.set_cons_zero, List.set_cons_succ]
        refine wpAnyH_done (by kernel_rfl) ?_ _
        go_wp2
        go_ret
        exact ⟨X7, d7, rfl, HO.out, hb0⟩
      · skip
        simp only [List.getElem_toArray, List.getElem_cons_succ, List.getElem_cons_zero, Act.put, List.setIfInBounds_toArray, List.set_cons_zero, List.set_cons_succ]
        go_simp
        refine (store_any m false w4).mono ?_
        rintro e w5 ⟨X3, d3, rfl, x3⟩
        rw [HL3.out] at x3
        have y3 := x3.bys
        replace y1 := y1.nx x3.below
        replace y2 := y2.nx x3.below
        replace b0 := b0.next x3.below
        replace hb0 := next hb0 x3.below
        replace hS := HSI.out _ b0
        refine hK.out _ _ hS (fun _ => ?_)
        clear hK K x3
        refine wpAnyH_ready (rs := [0]) (by kernel_rfl) (by simp) (AllReadyH.cons rfl (fun K hK => ?_) AllReadyH.nil)
        simp only [List.getElem_toArray, List.getElem_cons_succ, List.getElem_cons_zero, Act.put, List.setIfInBounds_toArray, List.set_cons_zero, List.set_cons_succ]
        go_simp
        obtain ⟨Wa, hWa⟩ : ∃ W', W' = w5.alloc (.cells #[.int .u8 117] 5) := ⟨_, rfl⟩
        have hba : Below w5.heap.size w5 Wa := by rw [hWa]; exact (Below.refl _ w5).alloc (Nat.le_refl _) _
        have sp : By Wa (some ⟨w5.heap.size, 0, none⟩) 1 1 [117] := by rw [hWa]; exact ⟨(Sl.new w5 #[.int .u8 117] 5).up (by simp), rfl, Nat.le_refl _, fun h => by cases h⟩
        rw [← hWa]
        clear hWa
        replace y1 := y1.nx hba
        replace y2 := y2.nx hba
        replace y3 := y3.nx hba
        replace b0 := b0.next hba
        replace hb0 := next hb0 hba
        replace hS := HSI.out _ b0
        refine hK.out _ _ hS (fun _ => ?_)
        clear hK K
        refine wpAnyH_ready (rs := [16]) (by kernel_rfl) (by simp) (AllReadyH.cons rfl (fun K hK => ?_) AllReadyH.nil)
        simp only [List.getElem_toArray, List.getElem_cons_succ, List.getElem_cons_zero, Act.put, List.setIfInBounds_toArray, List.set_cons_zero, List.set_cons_succ]
        go_simp
        obtain ⟨hp, hb6⟩ := list_five 22 sp (hs.nx hb0) y1 y2 y3
        replace b0 := b0.next hb6
        replace hb0 := next hb0 hb6
        replace hS := HSI.out _ b0
        refine hK.out _ _ hS (fun _ => ?_)
        clear hK K
        refine wpAnyH_ready (rs := [17]) (by kernel_rfl) (by simp) (AllReadyH.cons rfl (fun K hK => ?_) AllReadyH.nil)
        simp only [List.getElem_toArray, List.getElem_cons_succ, List.getElem_cons_zero, Act.put, List.setIfInBounds_toArray, List.set_cons_zero, List.set_cons_succ]
        go_simp
        refine (concat_any [[117], S, L1, L2, L3] _ _ 5 5 hp (by decide) 33 (headL S r nu m) HHL.out.symm HFL.out (by decide)).mono ?_
        rintro e w7 ⟨X7, d7, rfl, x7⟩
        replace b0 := b0.next x7.below
        have HO := Lib.hid (own_down x7.own hb0.size)
        replace hb0 := next hb0 x7.below
        replace hS := HSI.out _ b0
        refine hK.out _ _ hS (fun _ => ?_)
        clear hK K x7
        refine wpAnyH_take (i := 18) (v := (.slice X7 33 d7)) rfl (by kernel_rfl) (by kernel_rfl) (by kernel_rfl) (fun _ _ _ h => h) (Or.inl ⟨by rfl, fun _ hSw => by go_simp⟩) hS ?_
        simp only [List.getElem_toArray, List.getElem_cons_succ, List.getElem_cons_zero, Act.put, List.setIfInBounds_toArray, List.set_cons_zero, List.set_cons_succ]
        refine wpAnyH_done (by kernel_rfl) ?_ _
        go_wp2
        go_ret
        exact ⟨X7, d7, rfl, HO.out, hb0⟩

end Go.Proofs.YtlnoopmblmkgkaaGreatDoor

namespace Go.Proofs.YtlnoopmblmkgkaaGreatDoor
set_option maxRecDepth 100000
open Go Go.RowKit
set_option linter.unusedVariables false
set_option linter.unusedSimpArgs false

set_option maxHeartbeats 1000000 in
theorem put_any11 (S X : List UInt8) (A : Option Addr) (n c : Nat) (r nu : Int) (B : Option Addr) (m d : Nat) (w : World) (hf : Fil w A n c S B m d X) (hn : n ≤ 140737488351232) (hm : m ≤ 140737488351232) :
    Calls Tryz.prog 22 #[.agg (fC A n c r nu B m d).toArray] w (RetBytes 5 w (putL S r nu X).length (putL S r nu X)) := by
  obtain ⟨i0, hi, hz0, hz1, hz2⟩ := info_parts u8_info
  obtain ⟨W, HW, b0, hb0, hsz⟩ := put_f w (fC A n c r nu B m d) 35
  have hcl := fright_any A n c r nu B m d W (by omega) (by omega)
  have e1 := hf.salt.len
  have e2 := hf.box.len
  have hP : putL S r nu X = if kfit n r nu m = true then headL S r.toNat nu.toNat m ++ X else [] := by unfold putL; rw [← e1, ← e2]
  cases hk : kfit n r nu m with
  | false =>
    rw [hk, if_neg (by decide)] at hP
    rw [hP]
    rw [hk] at hcl
    have HC := Lib.hid hcl
    have wh := b0.whole
    clear hcl hk hP hsz e1 e2
    go_enter Tryz.func22, Tryz.ntmps22
    go_wp2_with (first
      | (refine wpList_box_agg rfl 35 _ rfl (fC A n c r nu B m d) rfl ?_; rw [HW.out])
      | (refine wpList_load_mid rfl 35 _ rfl _ _ rfl (fC A n c r nu B m d) _ wh Tryz.underlying35 rfl size_kf ?_)
      | (go_at_call 20; refine HC.out.mono ?_; rintro e w1 ⟨rfl, hb1⟩)
      | fail)
    go_ret
    exact retBytes rfl rfl (World.ownsRow_nil _ _ _ _) (next hb0 hb1)
  | true =>
    rw [hk, if_pos rfl] at hP
    rw [hk] at hcl
    have HC := Lib.hid hcl
    obtain ⟨⟨k1, k2, k3⟩, k4, k5, k6, k7, k8⟩ := (kfit_iff _ _ _ _).1 hk
    obtain ⟨rn, rfl⟩ : ∃ x : Nat, r = x := ⟨r.toNat, by omega⟩
    obtain ⟨nn, rfl⟩ : ∃ x : Nat, nu = x := ⟨nu.toNat, by omega⟩
    subst k4
    rw [Int.toNat_natCast, Int.toNat_natCast] at hP
    rw [hP]
    obtain ⟨Hd, hHd⟩ : ∃ h, h = headL S rn nn m := ⟨_, rfl⟩
    have hHl : Hd.length = 33 := by rw [hHd]; exact headL_len e1.symm _ _ _
    rw [← hHd]
    have HL : Hid ((Hd ++ X).length = 33 + m) := by unfold Hid; rw [List.length_append, hHl, e2]
    have HHD : Hid (headL S rn nn m = Hd) := hHd.symm
    have wh := b0.whole
    obtain ⟨SS, hSd⟩ : ∃ SS : World → Prop, SS = fun w' => Bl w' w.heap.size (fC A 16 c rn nn B m d) 35 := ⟨_, rfl⟩
    have HSI : Hid (∀ w', Bl w' w.heap.size (fC A 16 c rn nn B m d) 35 → SS w') := by unfold Hid; intro w' hb; rw [hSd]; exact hb
    have HSW : Hid (∀ w', SS w' → ∀ j v, (fC A 16 c rn nn B m d)[j]? = some v → w'.cell? ((⟨w.heap.size, 0, none⟩ : Addr).add j) = some v) := by unfold Hid; intro w' h j v hv; rw [hSd] at h; rw [Addr.add_mid]; exact h.whole j v hv
    have HS3 : Hid (∀ w', SS w' → w'.cell? ⟨w.heap.size, 3, none⟩ = some (.slice B m d)) := by unfold Hid; intro w' h; rw [hSd] at h; exact (f_cells h).2.2.2
    clear hcl hk hP hsz e1 e2 hHd hHl hSd
    go_enter Tryz.func22, Tryz.ntmps22
    go_wp2_with (first
      | (refine wpList_box_agg rfl 35 _ rfl (fC A 16 c rn nn B m d) rfl ?_; rw [HW.out])
      | (refine wpList_load_mid rfl 35 _ rfl _ _ rfl (fC A 16 c rn nn B m d) _ wh Tryz.underlying35 rfl size_kf ?_)
      | (go_at_call 20; refine HC.out.mono ?_; rintro e w1 ⟨rfl, hb1⟩)
      | fail)
    clear wh HC
    replace b0 := b0.next hb1
    replace hb0 := next hb0 hb1
    obtain ⟨W2, hW2⟩ : ∃ W', W' = w1.drew := ⟨_, rfl⟩
    have hbd : Below w1.heap.size w1 W2 := by rw [hW2]; exact (Below.refl _ w1).drew
    replace b0 := b0.next hbd
    replace hb0 := next hb0 hbd
    have hS := HSI.out _ b0
    refine wp_region_held_drew (S := SS) (by kernel_rfl) (by rw [← hW2]; exact hS) (fun _ => ?_)
    rw [← hW2]
    clear hW2 hbd hb1
    refine wpAnyH_take (i := 0) (v := .agg (fC A 16 c rn nn B m d).toArray) rfl (by kernel_rfl) (by kernel_rfl) (by kernel_rfl) (fun _ _ _ h => h) (Or.inl ⟨by rfl, fun w' hSw => exec_load_at w' 35 _ rfl ⟨w.heap.size, 0, none⟩ rfl (fC A 16 c rn nn B m d) _ (HSW.out w' hSw) Tryz.underlying35 rfl size_kf⟩) hS ?_
    simp only [List.getElem_toArray, List.getElem_cons_succ, List.getElem_cons_zero, Act.put, List.setIfInBounds_toArray, List.set_cons_zero, List.set_cons_succ]
    refine wpAnyH_take (i := 2) (v := (.pointer (some ⟨w.heap.size, 3, none⟩))) rfl (by kernel_rfl) (by kernel_rfl) (by kernel_rfl) (fun _ _ _ h => h) (Or.inl ⟨by rfl, fun _ hSw => by go_simp⟩) hS ?_
    simp only [List.getElem_toArray, List.getElem_cons_succ, List.getElem_cons_zero, Act.put, List.setIfInBounds_toArray, List.set_cons_zero, List.set_cons_succ]
    refine wpAnyH_take (i := 3) (v := .slice B m d) rfl (by kernel_rfl) (by kernel_rfl) (by kernel_rfl) (fun _ _ _ h => h) (Or.inl ⟨by rfl, fun w' hSw => by have hq := HS3.out w' hSw; go_simp⟩) hS ?_
    simp only [List.getElem_toArray, List.getElem_cons_succ, List.getElem_cons_zero, Act.put, List.setIfInBounds_toArray, List.set_cons_zero, List.set_cons_succ]
    refine wpAnyH_ready (rs := [1]) (by kernel_rfl) (by simp) (AllReadyH.cons rfl (fun K hK => ?_) AllReadyH.nil)
    simp only [List.getElem_toArray, List.getElem_cons_succ, List.getElem_cons_zero, Act.put, List.setIfInBounds_toArray, List.set_cons_zero, List.set_cons_succ]
    go_simp
    refine (header_any S A c rn nn B m d W2 (hf.salt.nx hb0) (by omega) (by omega) (by omega)).mono ?_
    rintro e w3 ⟨X3, d3, rfl, x3⟩
    rw [HHD.out] at x3
    have hlt := b0.lt
    have own3 := x3.own
    have hz3 := x3.below.size
    replace b0 := b0.next x3.below
    replace hb0 := next hb0 x3.below
    replace hS := HSI.out _ b0
    refine hK.out _ _ hS (fun _ => ?_)
    clear hK K x3
    refine wpAnyH_ready (rs := [4]) (by kernel_rfl) (by simp) (AllReadyH.cons rfl (fun K hK => ?_) AllReadyH.nil)
    simp only [List.getElem_toArray, List.getElem_cons_succ, List.getElem_cons_zero, Act.put, List.setIfInBounds_toArray, List.set_cons_zero, List.set_cons_succ]
    rw [if_pos (by rfl)]
    refine wp_appendS _ _ 22 rfl W2.heap.size 5 i0 (.int .u8 0) 1 Tryz.underlying22 hi hz0 hz1 hz2 rfl (.slice X3 33 d3) 33 (cb Hd) rfl own3 w3.heap.size B m d (cb X) rfl (hf.box.nx hb0).sl hf.box.none_ (cb_one _) (by unfold maxLen; omega) (by omega) hz3 ?_
    intro v4 w4 own4 hg4 hat4
    have hb4 := hb0.grown hg4 hb0.size (fun j hj => by have := own_blk own3 hj; omega)
    obtain ⟨X4, d4, rfl⟩ := own_form own4
    rw [← cb_append] at own4
    have HO := Lib.hid (own_down own4 (Nat.le_of_lt hlt))
    replace hS : SS w4 := HSI.out _ (b0.grown hg4 (fun e => by have := own_blk own3 e; omega))
    refine hK.out _ _ hS (fun _ => ?_)
    clear hK K own3 own4 hg4 hat4
    refine wpAnyH_take (i := 5) (v := (.slice X4 (33 + m) d4)) rfl (by kernel_rfl) (by kernel_rfl) (by kernel_rfl) (fun _ _ _ h => h) (Or.inl ⟨by rfl, fun _ hSw => by go_simp⟩) hS ?_
    simp only [List.getElem_toArray, List.getElem_cons_succ, List.getElem_cons_zero, Act.put, List.setIfInBounds_toArray, List.set_cons_zero, List.set_cons_succ]
    refine wpAnyH_done (by kernel_rfl) ?_ _
    go_wp2
    go_ret
    exact retBytes HL.out.symm rfl HO.out hb4

end Go.Proofs.YtlnoopmblmkgkaaGreatDoor
