/- Layer 9, label: the document's ring: find, Master, Key, Last, Epochs. -/
import Derived.Test.YtlnoopmblmkgkaaGreatDoorLabE
namespace Go.Proofs.YtlnoopmblmkgkaaGreatDoor
set_option maxRecDepth 100000
open Go Go.RowKit
set_option linter.unusedVariables false
set_option linter.unusedSimpArgs false

/-- The document's ring in memory, its masters below B. -/
def Rr (w : World) (B : Nat) (A : Option Addr) (n c : Nat) (m : RM) : Prop :=
  n = m.length ∧ n ≤ c ∧ (A = none → c = 0) ∧ ∃ xs : List Value, Sl w w.heap.size A (m.length * 2) xs ∧ (∀ u ∈ xs, u.oneCell' = true) ∧
    ∀ j (h : j < m.length), xs[j * 2]? = some (.int .i64 (m[j].1 : Int)) ∧ ∃ K d, xs[j * 2 + 1]? = some (.slice K 32 d) ∧ Sl w B K 32 (cb m[j].2) ∧ 32 ≤ d
section
variable {w w' : World} {B : Nat} {A : Option Addr} {n c : Nat} {m : RM}
theorem Rr.next (h : Rr w B A n c m) (hB : B ≤ w.heap.size) (hb : Below w.heap.size w w') : Rr w' B A n c m := by
  obtain ⟨h1, h2, h3, xs, h4, h5, h6⟩ := h
  refine ⟨h1, h2, h3, xs, h4.nx hb, h5, fun j hj => ?_⟩
  obtain ⟨a, K, d, b, c, e⟩ := h6 j hj
  exact ⟨a, K, d, b, c.below (hb.mono hB), e⟩
theorem Rr.row (h : Rr w B A n c m) {g : Nat} (hg : w.grownBy w' (some g)) (hB : B ≤ w.heap.size) (hBg : B ≤ g) (ho : Off g (m.length * 2) A) : Rr w' B A n c m := by
  obtain ⟨h1, h2, h3, xs, h4, h5, h6⟩ := h
  refine ⟨h1, h2, h3, xs, h4.nb hg ho, h5, fun j hj => ?_⟩
  obtain ⟨a, K, d, b, c, e⟩ := h6 j hj
  exact ⟨a, K, d, b, sl_but c hg hB hBg, e⟩
theorem Rr.off (h : Rr w B A n c m) {g : Nat} (hg : w.heap.size ≤ g) : Off g (m.length * 2) A := by
  obtain ⟨h1, h2, h3, xs, h4, h5, h6⟩ := h
  exact h4.off hg
theorem rr_nil (w : World) (B : Nat) : Rr w B none 0 0 [] := ⟨rfl, Nat.le_refl _, fun _ => rfl, [], Sl.nil_, by simp, fun j h => absurd h (by simp)⟩
end

theorem rfind_at {m : RM} {e : Int} {k : Nat} (hk : k < m.length) (hn : ∀ j (h : j < m.length), j < k → (m[j].1 : Int) ≠ e) (he : (m[k].1 : Int) = e) : rfind m e = some m[k].2 := by
  unfold rfind
  have : m.find? (fun x => decide ((x.1 : Int) = e)) = some m[k] := by
    rw [List.find?_eq_some_iff_getElem]
    refine ⟨by simp [he], k, hk, rfl, fun j hj => ?_⟩
    simp [hn j (by omega) hj]
  rw [this]; rfl
theorem rfind_not {m : RM} {e : Int} (hn : ∀ j (h : j < m.length), (m[j].1 : Int) ≠ e) : rfind m e = none := by
  unfold rfind
  rw [Option.map_eq_none_iff, List.find?_eq_none]
  intro x hx
  obtain ⟨j, hj, rfl⟩ := List.mem_iff_getElem.1 hx
  simp [hn j hj]

/-- What find hands back. -/
def RetFind (w : World) (B : Nat) (m : RM) (e : Int) (r : Ending) (w' : World) : Prop :=
  ∃ K k d, r = .returned (.tuple #[.slice K k d, .bool (rfind m e).isSome]) ∧ Sl w' B K k (cb ((rfind m e).getD [])) ∧ k = ((rfind m e).getD []).length ∧ k ≤ d ∧ (K = none → d = 0) ∧ Below w.heap.size w w'

set_option maxHeartbeats 1000000 in
theorem rfind_any (m : RM) (ok : RingOk m) (hm : m.length ≤ 1000) (e : Int) (w : World) (B : Nat) (A : Option Addr) (n c : Nat) (h : Rr w B A n c m) (hB : B ≤ w.heap.size) :
    Calls Tryz.prog 58 #[.agg #[.slice A n c], .int .i64 e] w (RetFind w B m e) := by
  obtain ⟨rfl, hnc, hA, xs, hs, h1, hx⟩ := h
  have hb0 : Below w.heap.size w (w.alloc (.cells #[.slice A m.length c] 30)) := (Below.refl _ w).alloc (Nat.le_refl _) _
  have hc0 : (w.alloc (.cells #[.slice A m.length c] 30)).cell? ⟨w.heap.size, 0, none⟩ = some (.slice A m.length c) := (Bl.newA w #[.slice A m.length c] 30).cell 0
  obtain ⟨W0, hW0⟩ : ∃ W, W = w.alloc (.cells #[.slice A m.length c] 30) := ⟨_, rfl⟩
  rw [← hW0] at hb0 hc0
  have HW0 : Hid (w.alloc (.cells #[.slice A m.length c] 30) = W0) := hW0.symm
  have HX := Lib.hid hx
  have HS := Lib.hid hs
  clear hW0 hx hs h1
  go_enter Tryz.func58, Tryz.ntmps58
  go_wp2_with (rw [HW0.out])
  go_loopw [6] (fun i wr => ∃ k : Nat, k ≤ m.length ∧ i = .int .i64 k ∧ (∀ j (h : j < m.length), j < k → (m[j].1 : Int) ≠ e) ∧ W0 = wr) (fun i _ => m.length - (Go.RowKit.intOf i).toNat)
  case atStart => exact ⟨0, by omega, rfl, fun j _ h => absurd h (by omega), rfl⟩
  case round =>
    obtain ⟨k, hk, rfl, hno, rfl⟩ := hrel
    by_cases hlt : k < m.length
    · obtain ⟨x1, K, d, x2, hK, hd⟩ := HX.out k hlt
      obtain ⟨ad, rfl, hadB, hcl⟩ := HS.out.2 (by omega)
      have hv1 : W0.cell? (ad.add (k * 2)) = some (.int .i64 (m[k].1 : Int)) := by rw [hb0.cell (by rw [add_block]; omega)]; exact hcl _ _ x1
      have hv2 : W0.cell? ⟨(ad.add (k * 2)).block, (ad.add (k * 2)).off + 1, none⟩ = some (.slice K 32 d) := by
        have e1 : (⟨(ad.add (k * 2)).block, (ad.add (k * 2)).off + 1, none⟩ : Addr) = (ad.add (k * 2)).add 1 := by simp [Addr.add]
        rw [e1, add_add, hb0.cell (by rw [add_block]; omega)]; exact hcl _ _ x2
      clear x1 x2 hcl
      by_cases heq : (m[k].1 : Int) = e
      · have hfd := rfind_at hlt hno heq
        have HF := Lib.hid hfd
        have hl : m[k].2.length = 32 := (ok.each _ (List.getElem_mem hlt)).2.2
        have HL := Lib.hid hl
        clear hno hfd hl
        go_wp2
        go_ret2
        refine ⟨K, 32, d, by rw [HF.out]; rfl, ?_, ?_, hd, ?_, hb0⟩
        · rw [HF.out]; exact hK.below (hb0.mono hB)
        · rw [HF.out]; exact HL.out.symm
        · intro hn; subst hn; obtain ⟨_, h, _⟩ := hK.2 (by omega); cases h
      · have hno2 : ∀ j (h : j < m.length), j < k + 1 → (m[j].1 : Int) ≠ e := by
          intro j hj hjk
          by_cases ej : j = k
          · subst ej; exact heq
          · exact hno j hj (by omega)
        have HN := Lib.hid hno2
        clear hno hno2
        go_wp2
        go_roundw
        case rel => exact ⟨k + 1, by omega, by simp, HN.out, by trivial⟩
        case measure => simp [Go.RowKit.intOf]; omega
    · have hfd : rfind m e = none := rfind_not fun j hj => hno j hj (by omega)
      have HF := Lib.hid hfd
      clear hno hfd
      go_wp2
      go_ret2
      exact ⟨none, 0, 0, by rw [HF.out]; rfl, by rw [HF.out]; exact Sl.nil_, by rw [HF.out]; rfl, Nat.le_refl _, fun _ => rfl, hb0⟩

set_option maxHeartbeats 1000000 in
theorem rrkey_any (m : RM) (ok : RingOk m) (hm : m.length ≤ 1000) (p : List UInt8) (hp : p.length ≤ 9223372036854775807) (e : Int) (w : World) (B : Nat) (A : Option Addr) (n c : Nat) (h : Rr w B A n c m) (hB : B ≤ w.heap.size) :
    Calls Tryz.prog 46 #[.agg #[.slice A n c], .string ⟨p.toArray⟩, .int .i64 e] w (RetFill 5 w (rkeyR m p e) (rkeyE m p e)) := by
  have hb0 : Below w.heap.size w (w.alloc (.cells #[.slice A n c] 30)) := (Below.refl _ w).alloc (Nat.le_refl _) _
  have hc0 : (w.alloc (.cells #[.slice A n c] 30)).cell? ⟨w.heap.size, 0, none⟩ = some (.slice A n c) := (Bl.newA w #[.slice A n c] 30).cell 0
  obtain ⟨W0, hW0⟩ : ∃ W, W = w.alloc (.cells #[.slice A n c] 30) := ⟨_, rfl⟩
  rw [← hW0] at hb0 hc0
  have HW0 : Hid (w.alloc (.cells #[.slice A n c] 30) = W0) := hW0.symm
  have cf := rfind_any m ok hm e W0 B A n c (h.next hB hb0) (Nat.le_trans hB hb0.size)
  have cr := rright_any p e W0 hp
  obtain ⟨R, hR⟩ : ∃ R, R = rkeyR m p e := ⟨_, rfl⟩
  obtain ⟨E, hE⟩ : ∃ R, R = rkeyE m p e := ⟨_, rfl⟩
  rw [← hR, ← hE]
  have HR := Lib.hid hR
  have HE := Lib.hid hE
  have HPP := Lib.hid hp
  clear hR hE hW0 h hp
  cases hpe : (purp p && epo e) with
  | false =>
    have HB : Hid (rkeyE m p e = 1 ∧ rkeyR m p e = []) := by unfold Hid; refine ⟨?_, rkeyR_bad hpe⟩; unfold rkeyE; rw [hpe]; simp
    rw [hpe] at cr
    have HC := Lib.hid cr
    clear cr cf hpe
    go_enter Tryz.func46, Tryz.ntmps46
    go_wp2_with (first
      | (rw [HW0.out])
      | (go_at_call 79; refine HC.out.mono ?_; rintro e w1 ⟨rfl, rfl⟩))
    go_ret2
    rw [HR.out, HE.out, HB.out.1, HB.out.2]
    exact ⟨none, 0, 0, rfl, ⟨rfl, .inl ⟨rfl, rfl⟩⟩, hb0⟩
  | true =>
    rw [hpe] at cr
    have HC := Lib.hid cr
    cases hfd : rfind m e with
    | none =>
      have HB : Hid (rkeyE m p e = 24 ∧ rkeyR m p e = []) := by unfold Hid rkeyE rkeyR; rw [hpe, hfd]; exact ⟨rfl, rfl⟩
      unfold RetFind at cf
      rw [hfd] at cf
      have HF := Lib.hid cf
      clear cr cf hpe hfd
      go_enter Tryz.func46, Tryz.ntmps46
      go_wp2_with (first
        | (rw [HW0.out])
        | (go_at_call 79; refine HC.out.mono ?_; rintro e w1 ⟨rfl, rfl⟩)
        | (go_at_call 58; refine HF.out.mono ?_; rintro r w1 ⟨K, k, d, rfl, s1, s2, s3, s4, hb1⟩; clear s1 s2))
      go_ret2
      rw [HR.out, HE.out, HB.out.1, HB.out.2]
      exact ⟨none, 0, 0, rfl, ⟨rfl, .inl ⟨rfl, rfl⟩⟩, next hb0 hb1⟩
    | some l =>
      have HB : Hid (rkeyE m p e = lkeyE l p e ∧ rkeyR m p e = lkeyR l p e) := by unfold Hid rkeyE rkeyR; rw [hpe, hfd]; exact ⟨rfl, rfl⟩
      unfold RetFind at cf
      rw [hfd] at cf
      have HF := Lib.hid cf
      clear cr cf hpe hfd
      go_enter Tryz.func46, Tryz.ntmps46
      go_wp2_with (first
        | (rw [HW0.out])
        | (go_at_call 79; refine HC.out.mono ?_; rintro e w1 ⟨rfl, rfl⟩)
        | (go_at_call 58; refine HF.out.mono ?_; rintro r w1 ⟨K, k, d, rfl, s1, s2, s3, s4, hb1⟩; have s5 : Sl w1 w1.heap.size K k (cb l) := s1.up (Nat.le_trans hB (Nat.le_trans hb0.size hb1.size)); clear s1 s2)
        | (go_at_call 80; refine (rlkey_any l p e w1 K k d s5 s4 HPP.out).mono ?_; rintro r w2 ⟨A2, n2, c2, rfl, x2⟩))
      go_ret2
      rw [HR.out, HE.out, HB.out.1, HB.out.2]
      exact ⟨A2, n2, c2, rfl, x2.down (next hb0 hb1)⟩

set_option maxHeartbeats 1000000 in
theorem rlast_any (m : RM) (ok : RingOk m) (hm : m.length ≤ 1000) (w : World) (B : Nat) (A : Option Addr) (n c : Nat) (h : Rr w B A n c m) (hB : B ≤ w.heap.size) :
    Calls Tryz.prog 43 #[.agg #[.slice A n c]] w fun r w' => ∃ L, r = .returned (.int .i64 L) ∧ IsLast m L ∧ Below w.heap.size w w' := by
  obtain ⟨rfl, hnc, hA, xs, hs, h1, hx⟩ := h
  have hb0 : Below w.heap.size w (w.alloc (.cells #[.slice A m.length c] 30)) := (Below.refl _ w).alloc (Nat.le_refl _) _
  have hc0 : (w.alloc (.cells #[.slice A m.length c] 30)).cell? ⟨w.heap.size, 0, none⟩ = some (.slice A m.length c) := (Bl.newA w #[.slice A m.length c] 30).cell 0
  obtain ⟨W0, hW0⟩ : ∃ W, W = w.alloc (.cells #[.slice A m.length c] 30) := ⟨_, rfl⟩
  rw [← hW0] at hb0 hc0
  have HW0 : Hid (w.alloc (.cells #[.slice A m.length c] 30) = W0) := hW0.symm
  have HX := Lib.hid hx
  have HS := Lib.hid hs
  clear hW0 hx hs h1
  go_enter Tryz.func43, Tryz.ntmps43
  go_wp2_with (rw [HW0.out])
  go_loopw [3, 4] (fun x i wr => ∃ k : Nat, k ≤ m.length ∧ i = .int .i64 k ∧ (∃ L : Int, x = .int .i64 L ∧ Hid ((∀ j (h : j < m.length), j < k → (m[j].1 : Int) ≤ L) ∧ (L = 0 ∨ ∃ x ∈ m, (x.1 : Int) = L))) ∧ W0 = wr) (fun _ i _ => m.length - (Go.RowKit.intOf i).toNat)
  case atStart => exact ⟨0, by omega, rfl, ⟨0, rfl, fun j _ h => absurd h (by omega), .inl rfl⟩, rfl⟩
  case round =>
    obtain ⟨k, hk, rfl, ⟨L, rfl, HL⟩, rfl⟩ := hrel
    by_cases hlt : k < m.length
    · obtain ⟨x1, K, d, x2, hK, hd⟩ := HX.out k hlt
      obtain ⟨ad, rfl, hadB, hcl⟩ := HS.out.2 (by omega)
      have hv1 : W0.cell? (ad.add (k * 2)) = some (.int .i64 (m[k].1 : Int)) := by rw [hb0.cell (by rw [add_block]; omega)]; exact hcl _ _ x1
      clear x1 x2 hcl
      by_cases hmx : L < (m[k].1 : Int)
      · have HMX : Hid (max L (m[k].1 : Int) = (m[k].1 : Int)) := by unfold Hid; omega
        have HN : Hid ((∀ j (h : j < m.length), j < k + 1 → (m[j].1 : Int) ≤ (m[k].1 : Int)) ∧ ((m[k].1 : Int) = 0 ∨ ∃ x ∈ m, (x.1 : Int) = (m[k].1 : Int))) := by
          refine ⟨fun j hj hjk => ?_, .inr ⟨_, List.getElem_mem hlt, rfl⟩⟩
          by_cases ej : j = k
          · subst ej; exact Int.le_refl _
          · have := HL.out.1 j hj (by omega); omega
        go_wp2
        go_roundw
        case rel => exact ⟨k + 1, by omega, by simp, ⟨_, rfl, by rw [HMX.out]; exact HN⟩, by trivial⟩
        case measure => simp [Go.RowKit.intOf]; omega
      · have HMX : Hid (max L (m[k].1 : Int) = L) := by unfold Hid; omega
        have HN : Hid ((∀ j (h : j < m.length), j < k + 1 → (m[j].1 : Int) ≤ L) ∧ (L = 0 ∨ ∃ x ∈ m, (x.1 : Int) = L)) := by
          refine ⟨fun j hj hjk => ?_, HL.out.2⟩
          by_cases ej : j = k
          · subst ej; omega
          · exact HL.out.1 j hj (by omega)
        go_wp2
        go_roundw
        case rel => exact ⟨k + 1, by omega, by simp, ⟨_, rfl, by rw [HMX.out]; exact HN⟩, by trivial⟩
        case measure => simp [Go.RowKit.intOf]; omega
    · go_wp2
      go_ret
      refine ⟨L, rfl, ⟨fun x hx => ?_, HL.out.2⟩, hb0⟩
      obtain ⟨j, hj, rfl⟩ := List.mem_iff_getElem.1 hx
      exact HL.out.1 j hj (by omega)

end Go.Proofs.YtlnoopmblmkgkaaGreatDoor

namespace Go.Proofs.YtlnoopmblmkgkaaGreatDoor
set_option maxRecDepth 100000
open Go Go.RowKit
set_option linter.unusedVariables false
set_option linter.unusedSimpArgs false

/-- The epochs up to k. -/
def reps (m : RM) (k : Nat) : List Int := ((List.range k).map fun i : Nat => (i : Int) + 1).filter fun e => (rfind m e).isSome
theorem reps_all (m : RM) : reps m 64 = repochs m := rfl
theorem reps_yes {m : RM} {k : Nat} (h : (rfind m ((k : Int) + 1)).isSome = true) : reps m (k + 1) = reps m k ++ [(k : Int) + 1] := by
  unfold reps
  rw [List.range_succ, List.map_append, List.filter_append]
  simp [h]
theorem reps_no {m : RM} {k : Nat} (h : (rfind m ((k : Int) + 1)).isSome = false) : reps m (k + 1) = reps m k := by
  unfold reps
  rw [List.range_succ, List.map_append, List.filter_append]
  simp [h]
theorem reps_len (m : RM) (k : Nat) : (reps m k).length ≤ k := by
  unfold reps
  refine Nat.le_trans (List.length_filter_le _ _) ?_
  simp
theorem i64_info : (Tryz.prog.info? 3).map (fun i => (i.zero, i.size, i.bytes)) = some (some (.int .i64 0), 1, 8) := by kernel_rfl

section
variable {P : Program}
/-- 'append(s, x...)', elements of any size, s owned by the call, x any slice that reads as cells, nil let in. -/
theorem run_append_slK (w : World) (base : Nat) (t ty e : TypeId) (i : TypeInfo) (z : Value) (size bytes : Nat) (ht : P.underlying t = some (.slice e)) (hi : P.info? e = some i) (hz : i.zero = some z)
    (hsize : i.size = size) (hby : i.bytes = bytes) (hzs : z.cells.size = size) (h0 : 0 < size)
    (v : Value) (n : Nat) (xs : List Value) (hown : w.ownsRow base e size v n xs)
    (B : Nat) (A : Option Addr) (m c : Nat) (news : List Value) (hr : Sl w B A (m * size) news) (hc : A = none → c = 0) (h1 : ∀ u ∈ news, u.oneCell' = true)
    (h63 : n + m ≤ maxLen) (hbytes : (n + m) * bytes ≤ 140737488355328) (hbase : base ≤ w.heap.size) :
    ∃ v' w', (Builtin.append_ #[t, t] ty #[v, .slice A m c]).run P w = .ok v' w' ∧ w'.ownsRow base e size v' (n + m) (xs ++ news) ∧ w.grownBy w' v.ownBlock ∧
      (v'.ownBlock = v.ownBlock ∨ v'.ownBlock = some w.heap.size) := by
  rcases A with _ | ad
  · have hm : m = 0 := by
      rcases Nat.eq_zero_or_pos m with h | h
      · exact h
      · obtain ⟨ad, h, _⟩ := hr.2 (Nat.mul_pos h h0); cases h
    subst hm
    have hn : news = [] := List.eq_nil_of_length_eq_zero (by rw [hr.1]; omega)
    subst hn
    obtain rfl := hc rfl
    exact ⟨v, w, run_append_owned_none (P := P) (w := w) base t ty e i size ht hi v n xs hown, by simpa using hown, World.grownBy.refl w _, .inl rfl⟩
  · have hcells : ∀ j u, news[j]? = some u → w.cell? (ad.add j) = some u := by
      intro j u hu
      obtain ⟨ad', h, _, hc⟩ := hr.2 (by have := (List.getElem?_eq_some_iff.1 hu).1; rw [hr.1] at this; omega)
      injection h with h
      subst h
      exact hc j u hu
    obtain ⟨v', w', hrun, h2, h3, _, h5⟩ := run_append_own_at (P := P) w base t ty e i z size bytes ht hi hz hsize hby hzs h0 v n xs hown ad m c news hr.1 hcells h1 h63 hbytes hbase
    exact ⟨v', w', hrun, h2, h3, h5⟩

theorem wpList_append_slK (w : World) {ops : Array Oper} {rest : List Oper} {o : Oper} {a : Act} {Q : Exit → Act → World → Prop} (hgd : o.guard = none) (s x : Operand) (t : TypeId)
    (ho : o.op = .call { callee := .builtin .append, args := #[s, x], argTypes := #[t, t] })
    (base : Nat) (e : TypeId) (i : TypeInfo) (z : Value) (size bytes : Nat) (ht : P.underlying t = some (.slice e)) (hi : P.info? e = some i) (hz : i.zero = some z)
    (hsize : i.size = size) (hby : i.bytes = bytes) (hzs : z.cells.size = size) (h0 : 0 < size)
    (v : Value) (n : Nat) (xs : List Value) (hs : a.eval s = v) (hown : w.ownsRow base e size v n xs)
    (B : Nat) (A : Option Addr) (m c : Nat) (news : List Value) (hx : a.eval x = .slice A m c) (hr : Sl w B A (m * size) news) (hc : A = none → c = 0) (h1 : ∀ u ∈ news, u.oneCell' = true)
    (h63 : n + m ≤ maxLen) (hbytes : (n + m) * bytes ≤ 140737488355328) (hbase : base ≤ w.heap.size)
    (h : ∀ v' w', w'.ownsRow base e size v' (n + m) (xs ++ news) → w.grownBy w' v.ownBlock → (v'.ownBlock = v.ownBlock ∨ v'.ownBlock = some w.heap.size) → wpList P ops Q rest (a.put o.dst v') w') : wpList P ops Q (o :: rest) a w := by
  refine wpList_plain hgd fun K hK => ?_
  obtain ⟨v', w', hrun, h2, h3, h4⟩ := run_append_slK (P := P) w base t o.type e i z size bytes ht hi hz hsize hby hzs h0 v n xs hown B A m c news hr hc h1 h63 hbytes hbase
  unfold Oper.wp execOp
  simp only [ho, resolve, invoke, builtin, Sem.run_bind, Sem.run_pure, Result.andThen_ok, List.map_toArray, List.map_cons, List.map_nil, hs, hx, hrun]
  exact hK _ _ (h v' w' h2 h3 h4)
end

/-- What is owned reads as its cells, elements of any size. -/
theorem slK_own {w : World} {base : Nat} {e : TypeId} {size n c : Nat} {A : Option Addr} {xs : List Value} (h : w.ownsRow base e size (.slice A n c) n xs) : Sl w w.heap.size A (n * size) xs ∧ n ≤ c ∧ (A = none → c = 0) := by
  obtain ⟨h1, ⟨hv, hn⟩ | ⟨g, cap, cur, hv, hb, hg, r1, r2, r3, r4⟩⟩ := h
  · injection hv with ha hl hc
    subst ha; subst hc; subst hn
    exact ⟨⟨h1, fun h => absurd h (by omega)⟩, Nat.le_refl _, fun _ => rfl⟩
  · injection hv with ha hl hc
    subst ha; subst hc
    refine ⟨⟨h1, fun _ => ⟨_, rfl, (Array.getElem?_eq_some_iff.1 hg).1, fun j u hu => ?_⟩⟩, r1, by intro h; cases h⟩
    rw [Addr.add_mid, Nat.zero_add, cell_of_row w g j cur e _ hg]
    rw [← r4, List.getElem?_take] at hu
    split at hu
    · simpa using hu
    · cases hu

theorem master_info : (Tryz.prog.info? 63).map (fun i => (i.zero, i.size, i.bytes)) = some (some (.agg #[.int .i64 0, .slice none 0 0]), 2, 32) := by kernel_rfl
theorem ownK_form {w : World} {base : Nat} {e : TypeId} {size : Nat} {v : Value} {n : Nat} {xs : List Value} (h : w.ownsRow base e size v n xs) : ∃ A c, v = .slice A n c := by
  rcases h.2 with ⟨hv, hn⟩ | ⟨g, cap, cur, hv, _⟩
  · exact ⟨none, 0, by rw [hv, hn]⟩
  · exact ⟨_, _, hv⟩

/-- The ring with one master more. -/
theorem rr_put {w : World} {B : Nat} {A : Option Addr} {n c : Nat} {m : RM} {en : Nat} {l : List UInt8} {K : Option Addr} {d : Nat} {xs : List Value} (hn : n = m.length + 1) (hc : n ≤ c) (hA : A = none → c = 0)
    (hs : Sl w w.heap.size A (n * 2) (xs ++ [.int .i64 (en : Int), .slice K 32 d])) (h1 : ∀ u ∈ xs, u.oneCell' = true) (hxl : xs.length = m.length * 2)
    (hx : ∀ j (h : j < m.length), xs[j * 2]? = some (.int .i64 (m[j].1 : Int)) ∧ ∃ K d, xs[j * 2 + 1]? = some (.slice K 32 d) ∧ Sl w B K 32 (cb m[j].2) ∧ 32 ≤ d)
    (hK : Sl w B K 32 (cb l)) (hd : 32 ≤ d) : Rr w B A n c (m ++ [(en, l)]) := by
  refine ⟨by simpa using hn, hc, hA, xs ++ [.int .i64 (en : Int), .slice K 32 d], ?_, ?_, fun j hj => ?_⟩
  · simpa [hn] using hs
  · intro u hu
    rcases List.mem_append.1 hu with hu | hu
    · exact h1 u hu
    · simp at hu
      rcases hu with rfl | rfl <;> rfl
  · by_cases hjm : j < m.length
    · rw [List.getElem?_append_left (by omega), List.getElem?_append_left (by omega)]
      simp only [List.getElem_append_left hjm]
      exact hx j hjm
    · have hj2 : j = m.length := by simp at hj; omega
      subst hj2
      rw [List.getElem?_append_right (by omega), List.getElem?_append_right (by omega), hxl]
      simp only [Nat.sub_self, List.getElem_append_right (Nat.le_refl _)]
      rw [show m.length * 2 + 1 - m.length * 2 = 1 by omega]
      exact ⟨rfl, K, d, rfl, hK, hd⟩

set_option maxHeartbeats 2000000 in
theorem rput_any (m : RM) (ok : RingOk m) (hm : m.length ≤ 900) (e : Int) (l : List UInt8) (w : World) (B : Nat) (A : Option Addr) (n c : Nat) (h : Rr w B A n c m) (hB : B ≤ w.heap.size) (K : Option Addr) (k d : Nat) (hk : Sl w B K k (cb l)) (hd : k ≤ d) :
    Calls Tryz.prog 31 #[.agg #[.slice A n c], .int .i64 e, .slice K k d] w fun r w' => ∃ A' n' c', r = .returned (.tuple #[.agg #[.slice A' n' c'], .int .i64 (putE m e l)]) ∧ Rr w' B A' n' c' (putM m e l) ∧ (∀ j, j < w.heap.size → Off j (m.length * 2) A → Off j ((putM m e l).length * 2) A') ∧ Below w.heap.size w w' := by
  obtain ⟨i0, hi, hz0, hz1, hz2⟩ := info_parts master_info
  have hkl : k = l.length := by rw [← hk.1, cb_len]
  have b1 := Bl.newA w #[.slice A n c] 30
  have hb1 : Below w.heap.size w (w.alloc (.cells #[.slice A n c] 30)) := (Below.refl _ w).alloc (Nat.le_refl _) _
  obtain ⟨W1, hW1⟩ : ∃ W, W = w.alloc (.cells #[.slice A n c] 30) := ⟨_, rfl⟩
  rw [← hW1] at b1 hb1
  have HW1 : Hid (w.alloc (.cells #[.slice A n c] 30) = W1) := hW1.symm
  have b2 := Bl.newA W1 #[.slice none 0 0] 30
  have hb2 : Below W1.heap.size W1 (W1.alloc (.cells #[.slice none 0 0] 30)) := (Below.refl _ W1).alloc (Nat.le_refl _) _
  obtain ⟨W2, hW2⟩ : ∃ W, W = W1.alloc (.cells #[.slice none 0 0] 30) := ⟨_, rfl⟩
  rw [← hW2] at b2 hb2
  have HW2 : Hid (W1.alloc (.cells #[.slice none 0 0] 30) = W2) := hW2.symm
  have b12 := b1.next hb2
  have hbw := next hb1 hb2
  obtain ⟨g2, hg2⟩ : ∃ g, g = W1.heap.size := ⟨_, rfl⟩
  have hg2w : w.heap.size < g2 := by rw [hg2]; exact b1.lt
  rw [← hg2] at b2
  have HG2 := Lib.hid hg2.symm
  have HOA : Hid (Off g2 (m.length * 2) A) := h.off (by omega)
  have h2 := h.next hB hbw
  have k2 := hk.below (hbw.mono hB)
  have hB2 : B ≤ W2.heap.size := Nat.le_trans hB hbw.size
  have hc1 : W2.cell? ⟨w.heap.size, 0, none⟩ = some (.slice A n c) := b12.cell 0
  have hc2 : W2.cell? ⟨g2, 0, none⟩ = some (.slice none 0 0) := b2.cell 0
  have hf2 := b2.frozen 0
  clear hW1 hW2 hg2 b1 hb1 hb2 h hk
  obtain ⟨R, hR⟩ : ∃ R, R = putE m e l := ⟨_, rfl⟩
  rw [← hR]
  by_cases hf : epo e = true ∧ l.length = 32
  · have cf := rfind_any m ok (by omega) e W2 B A n c h2 hB2
    obtain ⟨he, h32⟩ := hf
    have he' := he
    unfold epo at he'
    simp only [Bool.and_eq_true, decide_eq_true_eq] at he'
    obtain ⟨q1, q2⟩ := he'
    have q1' : ¬ e < 1 := by omega
    have q2' : ¬ (64 : Int) < e := by omega
    obtain rfl : k = 32 := by omega
    obtain ⟨fd, hfd⟩ : ∃ f, f = (rfind m e).isSome := ⟨_, rfl⟩
    unfold RetFind at cf
    rw [← hfd] at cf
    cases fd with
    | true =>
      have HR : Hid (R = 19) := by unfold Hid; rw [hR]; unfold putE; rw [if_pos ⟨he, h32⟩, if_pos hfd.symm]
      have HM : Hid (putM m e l = m) := by unfold Hid putM; rw [if_neg (by rintro ⟨_, _, h3⟩; rw [h3] at hfd; cases hfd)]
      rw [HM.out]
      have HF := Lib.hid cf
      clear hfd hR he hkl h32 cf
      go_enter Tryz.func31, Tryz.ntmps31
      go_wp2_with (first
        | (rw [HW1.out])
        | (rw [HW2.out, HG2.out])
        | (go_at_call 58; refine HF.out.mono ?_; rintro r w3 ⟨K3, q, d3, rfl, s1, s2, s3, s4, hb3⟩; clear s1 s2; have b13 := b12.next hb3; have b23 := b2.next hb3; have hc13 : w3.cell? ⟨w.heap.size, 0, none⟩ = some (.slice A n c) := b13.cell 0; have hc23 : w3.cell? ⟨g2, 0, none⟩ = some (.slice none 0 0) := b23.cell 0; have hf23 := b23.frozen 0))
      have b4 := b23.set 0 (.slice A n c)
      have hb4 : Below w.heap.size w (w3.setCell ⟨g2, 0, none⟩ (.slice A n c)) := (next hbw hb3).setCell (Nat.le_of_lt hg2w) _
      refine ret_row_tmp Tryz.results31 rfl b4 Tryz.underlying30 rfl (by kernel_rfl) rfl ⟨A, n, c, by rw [HR.out]; rfl, ?_, fun j _ h => h, hb4⟩
      have h3 := h2.next hB2 hb3
      exact h3.row (but_setCell (but_refl _ _) 0 _) (Nat.le_trans hB2 hb3.size) (by omega) HOA.out
    | false =>
      have hfn : rfind m e = none := by rw [← Option.not_isSome_iff_eq_none, ← hfd]; simp
      obtain ⟨en, rfl⟩ : ∃ en : Nat, e = en := ⟨e.toNat, by omega⟩
      have HR : Hid (R = 0) := by unfold Hid; rw [hR]; unfold putE; rw [if_pos ⟨he, h32⟩, if_neg (by rw [← hfd]; simp)]
      have HM : Hid (putM m en l = m ++ [(en, l)]) := by unfold Hid putM; rw [if_pos ⟨he, h32, hfn⟩]; simp
      rw [HM.out]
      have HF := Lib.hid cf
      obtain ⟨hnm, hnc, hA, xs, hs, hx1, hx⟩ := h2
      have HX := Lib.hid hx
      have HNM := Lib.hid hnm
      clear hfd hR he hkl h32 cf hx hnm
      go_enter Tryz.func31, Tryz.ntmps31
      go_wp2_with (first
        | (rw [HW1.out])
        | (rw [HW2.out, HG2.out])
        | (go_at_call 58; refine HF.out.mono ?_; rintro r w3 ⟨K3, q, d3, rfl, s1, s2, s3, s4, hb3⟩; clear s1 s2; have b13 := b12.next hb3; have b23 := b2.next hb3; have hc13 : (w3.alloc (.cells #[] 63)).cell? ⟨w.heap.size, 0, none⟩ = some (.slice A n c) := (b13.alloc _).cell 0; have own4 := World.ownsRow_lit (base := w3.heap.size) (e := 63) (size := 2) w3 #[] 0 (Nat.le_refl _) (by decide) rfl; have hs4 := (hs.nx hb3).alloc (Nat.le_refl _) (.cells #[] 63); have hb4 : Below w3.heap.size w3 (w3.alloc (.cells #[] 63)) := (Below.refl _ _).alloc (Nat.le_refl _) _)
        | (at_builtin; refine wpList_append_slK _ rfl _ _ 23 rfl w3.heap.size 63 i0 (.agg #[.int .i64 0, .slice none 0 0]) 2 32 Tryz.underlying23 hi hz0 hz1 hz2 rfl (by decide) _ 0 [] rfl own4 _ A n c xs rfl (by rw [HNM.out]; exact hs4) hA hx1 (by have := HNM.out; unfold maxLen; omega) (by have := HNM.out; omega) hb4.size ?_; intro v5 w5 own5 gr5 at5; have hb5 := below_app hb4 (Nat.le_refl _) own4 gr5; have own6 := own5.alloc (.cells #[.int .i64 (en : Int), .slice K 32 d] 63); have src6 := Sl.new w5 #[.int .i64 (en : Int), .slice K 32 d] 63; have hb6 := hb5.alloc hb5.size (.cells #[.int .i64 (en : Int), .slice K 32 d] 63); clear own4 gr5 at5 hb4 hs4)
        | (at_builtin; refine wpList_append_slK _ rfl _ _ 23 rfl w3.heap.size 63 i0 (.agg #[.int .i64 0, .slice none 0 0]) 2 32 Tryz.underlying23 hi hz0 hz1 hz2 rfl (by decide) _ (0 + n) _ rfl own6 _ _ 1 1 [.int .i64 (en : Int), .slice K 32 d] rfl src6 (by intro h; cases h) (by intro u hu; simp at hu; rcases hu with rfl | rfl <;> rfl) (by have := HNM.out; unfold maxLen; omega) (by have := HNM.out; omega) hb6.size ?_; intro v7 w7 own7 gr7 at7; have hb7 := below_app hb6 (Nat.le_refl _) own6 gr7; obtain ⟨A7, c7, rfl⟩ := ownK_form own7; have b27 := b23.next hb7; have hc27 : w7.cell? ⟨g2, 0, none⟩ = some (.slice none 0 0) := b27.cell 0; have hf27 := b27.frozen 0; clear own6 gr7 at7 src6 hb6 own5))
      have b8 := b27.set 0 (.slice A7 (0 + n + 1) c7)
      have hb37 := next hb3 hb7
      have hb8 : Below w.heap.size w (w7.setCell ⟨g2, 0, none⟩ (.slice A7 (0 + n + 1) c7)) := (next hbw hb37).setCell (Nat.le_of_lt hg2w) _
      have gr8 : w7.grownBy (w7.setCell ⟨g2, 0, none⟩ (.slice A7 (0 + n + 1) c7)) (some g2) := but_setCell (but_refl _ _) 0 _
      obtain ⟨sl7, hcap7, hnil7⟩ := slK_own own7
      have hg23 : g2 < w3.heap.size := b23.lt
      have off7 : Off g2 ((0 + n + 1) * 2) A7 := by
        intro _ ad had hbl
        subst had
        rcases own7.2 with ⟨hv, _⟩ | ⟨g', cap', cur, hv, hbb, _⟩
        · cases hv
        · injection hv with ha _ _
          injection ha with ha
          rw [ha] at hbl
          simp at hbl
          omega
      have hsz8 : (w7.setCell ⟨g2, 0, none⟩ (.slice A7 (0 + n + 1) c7)).heap.size = w7.heap.size := heap_size_setCell _ _ _
      have sl8 := sl_off sl7 gr8 (Nat.le_refl _) off7
      rw [← hsz8] at sl8
      have mv : ∀ (Kj : Option Addr) (lj : List UInt8), Sl W2 B Kj 32 (cb lj) → Sl (w7.setCell ⟨g2, 0, none⟩ (.slice A7 (0 + n + 1) c7)) B Kj 32 (cb lj) := by
        intro Kj lj hj
        have a1 : Sl w7 B Kj 32 (cb lj) := hj.below (hb37.mono hB2)
        exact sl_off a1 gr8 (Nat.le_trans hB2 hb37.size) (hj.off (by omega))
      have offj : ∀ j, j < w.heap.size → Off j (m.length * 2) A → Off j ((m ++ [(en, l)]).length * 2) A7 := by
        intro j hj _ _ ad had hbl
        subst had
        rcases own7.2 with ⟨hv, _⟩ | ⟨g', cap', cur, hv, hbb, _⟩
        · cases hv
        · injection hv with ha _ _
          injection ha with ha
          rw [ha] at hbl
          simp at hbl
          have := hbw.size
          have := hb3.size
          omega
      have hrr := rr_put (en := en) (l := l) (m := m) (n := 0 + n + 1) (c := c7) (A := A7) (xs := xs) (K := K) (d := d) (w := w7.setCell ⟨g2, 0, none⟩ (.slice A7 (0 + n + 1) c7)) (B := B)
        (by have := HNM.out; omega) hcap7 hnil7 (by simpa using sl8) hx1 hs.1 (fun j hj => by
          obtain ⟨y1, Kj, dj, y2, y3, y4⟩ := HX.out j hj
          exact ⟨y1, Kj, dj, y2, mv _ _ y3, y4⟩) (mv _ _ k2) hd
      simp only [Nat.zero_add] at b8 hb8 hrr
      exact ret_row_tmp Tryz.results31 rfl b8 Tryz.underlying30 rfl (by kernel_rfl) rfl ⟨A7, n + 1, c7, by rw [HR.out]; rfl, hrr, offj, hb8⟩
  · have HR : Hid (R = 1) := by unfold Hid; rw [hR]; unfold putE; rw [if_neg hf]
    have HM : Hid (putM m e l = m) := by unfold Hid putM; rw [if_neg (fun h => hf ⟨h.1, h.2.1⟩)]
    rw [HM.out]
    have hcase : e < 1 ∨ (¬ e < 1 ∧ (64 : Int) < e) ∨ (¬ e < 1 ∧ ¬ (64 : Int) < e ∧ ¬ (k : Int) = 32) := by
      unfold epo at hf
      simp only [Bool.and_eq_true, decide_eq_true_eq] at hf
      omega
    clear hf hR hkl
    have b4 := b2.set 0 (.slice A n c)
    have hb4 : Below w.heap.size w (W2.setCell ⟨g2, 0, none⟩ (.slice A n c)) := hbw.setCell (Nat.le_of_lt hg2w) _
    have h4 : Rr (W2.setCell ⟨g2, 0, none⟩ (.slice A n c)) B A n c m := h2.row (but_setCell (but_refl _ _) 0 _) hB2 (by omega) HOA.out
    have H4 := Lib.hid h4
    clear h4 h2
    go_enter Tryz.func31, Tryz.ntmps31
    rcases hcase with q1 | ⟨q1, q2⟩ | ⟨q1, q2, q3⟩
    all_goals
      go_wp2_with (first
        | (rw [HW1.out])
        | (rw [HW2.out, HG2.out]))
      exact ret_row_tmp Tryz.results31 rfl b4 Tryz.underlying30 rfl (by kernel_rfl) rfl ⟨A, n, c, by rw [HR.out]; rfl, H4.out, fun j _ h => h, hb4⟩

end Go.Proofs.YtlnoopmblmkgkaaGreatDoor
