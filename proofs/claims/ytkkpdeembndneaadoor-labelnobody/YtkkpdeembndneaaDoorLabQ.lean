/- Layer 9, label: the document's ring: find, Master, Key, Last, Epochs. -/
import Derived.Test.YtkkpdeembndneaaDoorLabE
namespace Go.Proofs.YtkkpdeembndneaaDoor
set_option maxRecDepth 100000
open Go Go.RowKit
set_option linter.unusedVariables false
set_option linter.unusedSimpArgs false

/-- The document's ring in memory, its masters below B. -/
def Rr (w : World) (B : Nat) (A : Option Addr) (n c : Nat) (m : RM) : Prop :=
  n = m.length ∧ n ≤ c ∧ (A = none → c = 0) ∧ ∃ xs : List Value, Sl w w.heap.size A (m.length * 2) xs ∧ (∀ u ∈ xs, u.oneCell' = true) ∧
    ∀ j (h : j < m.length), xs[j * 2]? = some (.int .i64 (m[j].1 : Int)) ∧ ∃ K d, xs[j * 2 + 1]? = some (.slice K 32 d) ∧ Sl w B K 32 (cb m[j].2) ∧ 32 ≤ d
section
variable {w w' : World} {B : Nat} {A : Option Addr} {n c : Nat} {m : RM}
theorem Rr.next (h : Rr w B A n c m) (hB : B ≤ w.heap.size) (hb : Below w.heap.size w w') : Rr w' B A n c m := by
  obtain ⟨h1, h2, h3, xs, h4, h5, h6⟩ := h
  refine ⟨h1, h2, h3, xs, h4.nx hb, h5, fun j hj => ?_⟩
  obtain ⟨a, K, d, b, c, e⟩ := h6 j hj
  exact ⟨a, K, d, b, c.below (hb.mono hB), e⟩
theorem Rr.row (h : Rr w B A n c m) {g : Nat} (hg : w.grownBy w' (some g)) (hB : B ≤ w.heap.size) (hBg : B ≤ g) (ho : Off g (m.length * 2) A) : Rr w' B A n c m := by
  obtain ⟨h1, h2, h3, xs, h4, h5, h6⟩ := h
  refine ⟨h1, h2, h3, xs, h4.nb hg ho, h5, fun j hj => ?_⟩
  obtain ⟨a, K, d, b, c, e⟩ := h6 j hj
  exact ⟨a, K, d, b, sl_but c hg hB hBg, e⟩
theorem Rr.off (h : Rr w B A n c m) {g : Nat} (hg : w.heap.size ≤ g) : Off g (m.length * 2) A := by
  obtain ⟨h1, h2, h3, xs, h4, h5, h6⟩ := h
  exact h4.off hg
theorem rr_nil (w : World) (B : Nat) : Rr w B none 0 0 [] := ⟨rfl, Nat.le_refl _, fun _ => rfl, [], Sl.nil_, by simp, fun j h => absurd h (by simp)⟩
end

theorem rfind_at {m : RM} {e : Int} {k : Nat} (hk : k < m.length) (hn : ∀ j (h : j < m.length), j < k → (m[j].1 : Int) ≠ e) (he : (m[k].1 : Int) = e) : rfind m e = some m[k].2 := by
  unfold rfind
  have : m.find? (fun x => decide ((x.1 : Int) = e)) = some m[k] := by
    rw [List.find?_eq_some_iff_getElem]
    refine ⟨by simp [he], k, hk, rfl, fun j hj => ?_⟩
    simp [hn j (by omega) hj]
  rw [this]; rfl
theorem rfind_not {m : RM} {e : Int} (hn : ∀ j (h : j < m.length), (m[j].1 : Int) ≠ e) : rfind m e = none := by
  unfold rfind
  rw [Option.map_eq_none_iff, List.find?_eq_none]
  intro x hx
  obtain ⟨j, hj, rfl⟩ := List.mem_iff_getElem.1 hx
  simp [hn j hj]

/-- What find hands back. -/
def RetFind (w : World) (B : Nat) (m : RM) (e : Int) (r : Ending) (w' : World) : Prop :=
  ∃ K k d, r = .returned (.tuple #[.slice K k d, .bool (rfind m e).isSome]) ∧ Sl w' B K k (cb ((rfind m e).getD [])) ∧ k = ((rfind m e).getD []).length ∧ k ≤ d ∧ (K = none → d = 0) ∧ Below w.heap.size w w'

set_option maxHeartbeats 1000000 in
theorem rfind_any (m : RM) (ok : RingOk m) (hm : m.length ≤ 1000) (e : Int) (w : World) (B : Nat) (A : Option Addr) (n c : Nat) (h : Rr w B A n c m) (hB : B ≤ w.heap.size) :
    Calls Tryd.prog 33 #[.agg #[.slice A n c], .int .i64 e] w (RetFind w B m e) := by
  obtain ⟨rfl, hnc, hA, xs, hs, h1, hx⟩ := h
  have hb0 : Below w.heap.size w (w.alloc (.cells #[.slice A m.length c] 39)) := (Below.refl _ w).alloc (Nat.le_refl _) _
  have hc0 : (w.alloc (.cells #[.slice A m.length c] 39)).cell? ⟨w.heap.size, 0, none⟩ = some (.slice A m.length c) := (Bl.newA w #[.slice A m.length c] 39).cell 0
  obtain ⟨W0, hW0⟩ : ∃ W, W = w.alloc (.cells #[.slice A m.length c] 39) := ⟨_, rfl⟩
  rw [← hW0] at hb0 hc0
  have HW0 : Hid (w.alloc (.cells #[.slice A m.length c] 39) = W0) := hW0.symm
  have HX := Lib.hid hx
  have HS := Lib.hid hs
  clear hW0 hx hs h1
  go_enter Tryd.func33, Tryd.ntmps33
  go_wp2_with (rw [HW0.out])
  go_loopw [6] (fun i wr => ∃ k : Nat, k ≤ m.length ∧ i = .int .i64 k ∧ (∀ j (h : j < m.length), j < k → (m[j].1 : Int) ≠ e) ∧ W0 = wr) (fun i _ => m.length - (Go.RowKit.intOf i).toNat)
  case atStart => exact ⟨0, by omega, rfl, fun j _ h => absurd h (by omega), rfl⟩
  case round =>
    obtain ⟨k, hk, rfl, hno, rfl⟩ := hrel
    by_cases hlt : k < m.length
    · obtain ⟨x1, K, d, x2, hK, hd⟩ := HX.out k hlt
      obtain ⟨ad, rfl, hadB, hcl⟩ := HS.out.2 (by omega)
      have hv1 : W0.cell? (ad.add (k * 2)) = some (.int .i64 (m[k].1 : Int)) := by rw [hb0.cell (by rw [add_block]; omega)]; exact hcl _ _ x1
      have hv2 : W0.cell? ⟨(ad.add (k * 2)).block, (ad.add (k * 2)).off + 1, none⟩ = some (.slice K 32 d) := by
        have e1 : (⟨(ad.add (k * 2)).block, (ad.add (k * 2)).off + 1, none⟩ : Addr) = (ad.add (k * 2)).add 1 := by simp [Addr.add]
        rw [e1, add_add, hb0.cell (by rw [add_block]; omega)]; exact hcl _ _ x2
      clear x1 x2 hcl
      by_cases heq : (m[k].1 : Int) = e
      · have hfd := rfind_at hlt hno heq
        have HF := Lib.hid hfd
        have hl : m[k].2.length = 32 := (ok.each _ (List.getElem_mem hlt)).2.2
        have HL := Lib.hid hl
        clear hno hfd hl
        go_wp2
        go_ret2
        refine ⟨K, 32, d, by rw [HF.out]; rfl, ?_, ?_, hd, ?_, hb0⟩
        · rw [HF.out]; exact hK.below (hb0.mono hB)
        · rw [HF.out]; exact HL.out.symm
        · intro hn; subst hn; obtain ⟨_, h, _⟩ := hK.2 (by omega); cases h
      · have hno2 : ∀ j (h : j < m.length), j < k + 1 → (m[j].1 : Int) ≠ e := by
          intro j hj hjk
          by_cases ej : j = k
          · subst ej; exact heq
          · exact hno j hj (by omega)
        have HN := Lib.hid hno2
        clear hno hno2
        go_wp2
        go_roundw
        case rel => exact ⟨k + 1, by omega, by simp, HN.out, by trivial⟩
        case measure => simp [Go.RowKit.intOf]; omega
    · have hfd : rfind m e = none := rfind_not fun j hj => hno j hj (by omega)
      have HF := Lib.hid hfd
      clear hno hfd
      go_wp2
      go_ret2
      exact ⟨none, 0, 0, by rw [HF.out]; rfl, by rw [HF.out]; exact Sl.nil_, by rw [HF.out]; rfl, Nat.le_refl _, fun _ => rfl, hb0⟩

set_option maxHeartbeats 1000000 in
theorem rmaster_any (m : RM) (ok : RingOk m) (hm : m.length ≤ 1000) (e : Int) (w : World) (B : Nat) (A : Option Addr) (n c : Nat) (h : Rr w B A n c m) (hB : B ≤ w.heap.size) :
    Calls Tryd.prog 23 #[.agg #[.slice A n c], .int .i64 e] w fun r w' => ∃ K k d, r = .returned (.slice K k d) ∧ Sl w' w'.heap.size K k (cb ((rfind m e).getD [])) ∧ k = ((rfind m e).getD []).length ∧ Below w.heap.size w w' := by
  have hb0 : Below w.heap.size w (w.alloc (.cells #[.slice A n c] 39)) := (Below.refl _ w).alloc (Nat.le_refl _) _
  have hc0 : (w.alloc (.cells #[.slice A n c] 39)).cell? ⟨w.heap.size, 0, none⟩ = some (.slice A n c) := (Bl.newA w #[.slice A n c] 39).cell 0
  obtain ⟨W0, hW0⟩ : ∃ W, W = w.alloc (.cells #[.slice A n c] 39) := ⟨_, rfl⟩
  rw [← hW0] at hb0 hc0
  have HW0 : Hid (w.alloc (.cells #[.slice A n c] 39) = W0) := hW0.symm
  have cf := rfind_any m ok hm e W0 B A n c (h.next hB hb0) (Nat.le_trans hB hb0.size)
  clear hW0 h
  go_enter Tryd.func23, Tryd.ntmps23
  go_wp2_with (first
    | (rw [HW0.out])
    | (go_at_call 33; refine cf.mono ?_; rintro r w1 ⟨K, k, d, rfl, s1, s2, s3, s4, hb1⟩; have HS2 := Lib.hid s2; clear s2))
  go_ret
  exact ⟨K, k, d, rfl, s1.up (Nat.le_trans hB (Nat.le_trans hb0.size hb1.size)), HS2.out, next hb0 hb1⟩

set_option maxHeartbeats 1000000 in
theorem rrkey_any (m : RM) (ok : RingOk m) (hm : m.length ≤ 1000) (p : List UInt8) (hp : p.length ≤ 9223372036854775807) (e : Int) (w : World) (B : Nat) (A : Option Addr) (n c : Nat) (h : Rr w B A n c m) (hB : B ≤ w.heap.size) :
    Calls Tryd.prog 15 #[.agg #[.slice A n c], .string ⟨p.toArray⟩, .int .i64 e] w (RetFill 5 w (rkeyR m p e) (rkeyE m p e)) := by
  have hb0 : Below w.heap.size w (w.alloc (.cells #[.slice A n c] 39)) := (Below.refl _ w).alloc (Nat.le_refl _) _
  have hc0 : (w.alloc (.cells #[.slice A n c] 39)).cell? ⟨w.heap.size, 0, none⟩ = some (.slice A n c) := (Bl.newA w #[.slice A n c] 39).cell 0
  obtain ⟨W0, hW0⟩ : ∃ W, W = w.alloc (.cells #[.slice A n c] 39) := ⟨_, rfl⟩
  rw [← hW0] at hb0 hc0
  have HW0 : Hid (w.alloc (.cells #[.slice A n c] 39) = W0) := hW0.symm
  have cf := rfind_any m ok hm e W0 B A n c (h.next hB hb0) (Nat.le_trans hB hb0.size)
  have cr := rright_any p e W0 hp
  obtain ⟨R, hR⟩ : ∃ R, R = rkeyR m p e := ⟨_, rfl⟩
  obtain ⟨E, hE⟩ : ∃ R, R = rkeyE m p e := ⟨_, rfl⟩
  rw [← hR, ← hE]
  have HR := Lib.hid hR
  have HE := Lib.hid hE
  have HPP := Lib.hid hp
  clear hR hE hW0 h hp
  cases hpe : (purp p && epo e) with
  | false =>
    have HB : Hid (rkeyE m p e = 1 ∧ rkeyR m p e = []) := by unfold Hid; refine ⟨?_, rkeyR_bad hpe⟩; unfold rkeyE; rw [hpe]; simp
    rw [hpe] at cr
    have HC := Lib.hid cr
    clear cr cf hpe
    go_enter Tryd.func15, Tryd.ntmps15
    go_wp2_with (first
      | (rw [HW0.out])
      | (go_at_call 24; refine HC.out.mono ?_; rintro e w1 ⟨rfl, rfl⟩))
    go_ret2
    rw [HR.out, HE.out, HB.out.1, HB.out.2]
    exact ⟨none, 0, 0, rfl, ⟨rfl, .inl ⟨rfl, rfl⟩⟩, hb0⟩
  | true =>
    rw [hpe] at cr
    have HC := Lib.hid cr
    cases hfd : rfind m e with
    | none =>
      have HB : Hid (rkeyE m p e = 24 ∧ rkeyR m p e = []) := by unfold Hid rkeyE rkeyR; rw [hpe, hfd]; exact ⟨rfl, rfl⟩
      unfold RetFind at cf
      rw [hfd] at cf
      have HF := Lib.hid cf
      clear cr cf hpe hfd
      go_enter Tryd.func15, Tryd.ntmps15
      go_wp2_with (first
        | (rw [HW0.out])
        | (go_at_call 24; refine HC.out.mono ?_; rintro e w1 ⟨rfl, rfl⟩)
        | (go_at_call 33; refine HF.out.mono ?_; rintro r w1 ⟨K, k, d, rfl, s1, s2, s3, s4, hb1⟩; clear s1 s2))
      go_ret2
      rw [HR.out, HE.out, HB.out.1, HB.out.2]
      exact ⟨none, 0, 0, rfl, ⟨rfl, .inl ⟨rfl, rfl⟩⟩, next hb0 hb1⟩
    | some l =>
      have HB : Hid (rkeyE m p e = lkeyE l p e ∧ rkeyR m p e = lkeyR l p e) := by unfold Hid rkeyE rkeyR; rw [hpe, hfd]; exact ⟨rfl, rfl⟩
      unfold RetFind at cf
      rw [hfd] at cf
      have HF := Lib.hid cf
      clear cr cf hpe hfd
      go_enter Tryd.func15, Tryd.ntmps15
      go_wp2_with (first
        | (rw [HW0.out])
        | (go_at_call 24; refine HC.out.mono ?_; rintro e w1 ⟨rfl, rfl⟩)
        | (go_at_call 33; refine HF.out.mono ?_; rintro r w1 ⟨K, k, d, rfl, s1, s2, s3, s4, hb1⟩; have s5 : Sl w1 w1.heap.size K k (cb l) := s1.up (Nat.le_trans hB (Nat.le_trans hb0.size hb1.size)); clear s1 s2)
        | (go_at_call 9; refine (rlkey_any l p e w1 K k d s5 s4 HPP.out).mono ?_; rintro r w2 ⟨A2, n2, c2, rfl, x2⟩))
      go_ret2
      rw [HR.out, HE.out, HB.out.1, HB.out.2]
      exact ⟨A2, n2, c2, rfl, x2.down (next hb0 hb1)⟩

set_option maxHeartbeats 1000000 in
theorem rlast_any (m : RM) (ok : RingOk m) (hm : m.length ≤ 1000) (w : World) (B : Nat) (A : Option Addr) (n c : Nat) (h : Rr w B A n c m) (hB : B ≤ w.heap.size) :
    Calls Tryd.prog 21 #[.agg #[.slice A n c]] w fun r w' => ∃ L, r = .returned (.int .i64 L) ∧ IsLast m L ∧ Below w.heap.size w w' := by
  obtain ⟨rfl, hnc, hA, xs, hs, h1, hx⟩ := h
  have hb0 : Below w.heap.size w (w.alloc (.cells #[.slice A m.length c] 39)) := (Below.refl _ w).alloc (Nat.le_refl _) _
  have hc0 : (w.alloc (.cells #[.slice A m.length c] 39)).cell? ⟨w.heap.size, 0, none⟩ = some (.slice A m.length c) := (Bl.newA w #[.slice A m.length c] 39).cell 0
  obtain ⟨W0, hW0⟩ : ∃ W, W = w.alloc (.cells #[.slice A m.length c] 39) := ⟨_, rfl⟩
  rw [← hW0] at hb0 hc0
  have HW0 : Hid (w.alloc (.cells #[.slice A m.length c] 39) = W0) := hW0.symm
  have HX := Lib.hid hx
  have HS := Lib.hid hs
  clear hW0 hx hs h1
  go_enter Tryd.func21, Tryd.ntmps21
  go_wp2_with (rw [HW0.out])
  go_loopw [3, 4] (fun x i wr => ∃ k : Nat, k ≤ m.length ∧ i = .int .i64 k ∧ (∃ L : Int, x = .int .i64 L ∧ Hid ((∀ j (h : j < m.length), j < k → (m[j].1 : Int) ≤ L) ∧ (L = 0 ∨ ∃ x ∈ m, (x.1 : Int) = L))) ∧ W0 = wr) (fun _ i _ => m.length - (Go.RowKit.intOf i).toNat)
  case atStart => exact ⟨0, by omega, rfl, ⟨0, rfl, fun j _ h => absurd h (by omega), .inl rfl⟩, rfl⟩
  case round =>
    obtain ⟨k, hk, rfl, ⟨L, rfl, HL⟩, rfl⟩ := hrel
    by_cases hlt : k < m.length
    · obtain ⟨x1, K, d, x2, hK, hd⟩ := HX.out k hlt
      obtain ⟨ad, rfl, hadB, hcl⟩ := HS.out.2 (by omega)
      have hv1 : W0.cell? (ad.add (k * 2)) = some (.int .i64 (m[k].1 : Int)) := by rw [hb0.cell (by rw [add_block]; omega)]; exact hcl _ _ x1
      clear x1 x2 hcl
      by_cases hmx : L < (m[k].1 : Int)
      · have HMX : Hid (max L (m[k].1 : Int) = (m[k].1 : Int)) := by unfold Hid; omega
        have HN : Hid ((∀ j (h : j < m.length), j < k + 1 → (m[j].1 : Int) ≤ (m[k].1 : Int)) ∧ ((m[k].1 : Int) = 0 ∨ ∃ x ∈ m, (x.1 : Int) = (m[k].1 : Int))) := by
          refine ⟨fun j hj hjk => ?_, .inr ⟨_, List.getElem_mem hlt, rfl⟩⟩
          by_cases ej : j = k
          · subst ej; exact Int.le_refl _
          · have := HL.out.1 j hj (by omega); omega
        go_wp2
        go_roundw
        case rel => exact ⟨k + 1, by omega, by simp, ⟨_, rfl, by rw [HMX.out]; exact HN⟩, by trivial⟩
        case measure => simp [Go.RowKit.intOf]; omega
      · have HMX : Hid (max L (m[k].1 : Int) = L) := by unfold Hid; omega
        have HN : Hid ((∀ j (h : j < m.length), j < k + 1 → (m[j].1 : Int) ≤ L) ∧ (L = 0 ∨ ∃ x ∈ m, (x.1 : Int) = L)) := by
          refine ⟨fun j hj hjk => ?_, HL.out.2⟩
          by_cases ej : j = k
          · subst ej; omega
          · exact HL.out.1 j hj (by omega)
        go_wp2
        go_roundw
        case rel => exact ⟨k + 1, by omega, by simp, ⟨_, rfl, by rw [HMX.out]; exact HN⟩, by trivial⟩
        case measure => simp [Go.RowKit.intOf]; omega
    · go_wp2
      go_ret
      refine ⟨L, rfl, ⟨fun x hx => ?_, HL.out.2⟩, hb0⟩
      obtain ⟨j, hj, rfl⟩ := List.mem_iff_getElem.1 hx
      exact HL.out.1 j hj (by omega)

end Go.Proofs.YtkkpdeembndneaaDoor
