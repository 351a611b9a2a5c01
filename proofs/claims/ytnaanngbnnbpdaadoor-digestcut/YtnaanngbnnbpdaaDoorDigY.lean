/- The walk of the law DigestCut. -/
import Derived.Test.YtnaanngbnnbpdaaDoorDigW
import Derived.Stop.BytesEq
namespace Go.Proofs.YtnaanngbnnbpdaaDoor
open Go.RowKit
set_option linter.unusedVariables false

theorem exec_slice_from {P : Program} {a : Act} {o : Oper} (w : World) (t e : TypeId) (x lo : Operand) (ho : o.op = .slice t x (some lo) none none) (ht : P.underlying t = some (.slice e)) (he : (P.info? e).map (·.size) = some 1) (A : Option Addr) (n c k : Nat) (kl : IntKind) (L : Int)
    (hx : a.eval x = .slice A n c) (hlo : a.eval lo = .int kl L) (eL : L = k) (hk : k ≤ n) (hc : n ≤ c) (hA : A = none → c = 0) (A' : Option Addr) (hA' : A' = if c = k then A else A.map (·.add k)) :
    (execOp a.eval o).run P w = .ok (.value (.slice A' (n - k) (c - k))) w := by
  have hr := run_slice_from (P := P) w t e ht he A n c k kl L eL hk hc hA
  unfold execOp
  simp only [ho, Option.map_some, Option.map_none, hx, hlo, Instr.sliceAt, Sem.run_bind, run_underlying ht, Result.andThen_ok, hr, hA']
  rfl
theorem run_slice_to {P : Program} (w : World) (t e : TypeId) (ht : P.underlying t = some (.slice e)) (he : (P.info? e).map (·.size) = some 1) (A : Option Addr) (n c k : Nat) (kh : IntKind) (H : Int) (eH : H = k) (hk : k ≤ c) (hA : A = none → c = 0) :
    (Instr.slice t (.slice A n c) none (some (.int kh H)) none).run P w = .ok (.slice A k c) w := by
  subst eH
  cases hq : P.info? e with
  | none => simp [hq] at he
  | some i =>
    rcases A with _ | a
    · obtain rfl := hA rfl
      obtain rfl : k = 0 := by omega
      simp [Instr.slice, run_underlying ht, Instr.sliceBounds, run_sliceBound, sizeOf, typeInfo, hq]
    · simp [Instr.slice, run_underlying ht, Instr.sliceBounds, run_sliceBound, sizeOf, typeInfo, hq, hk, Addr.add]
theorem exec_slice_to {P : Program} {a : Act} {o : Oper} (w : World) (t e : TypeId) (x hi : Operand) (ho : o.op = .slice t x none (some hi) none) (ht : P.underlying t = some (.slice e)) (he : (P.info? e).map (·.size) = some 1) (A : Option Addr) (n c k : Nat) (kl : IntKind) (L : Int)
    (hx : a.eval x = .slice A n c) (hlo : a.eval hi = .int kl L) (eL : L = k) (hk : k ≤ c) (hA : A = none → c = 0) :
    (execOp a.eval o).run P w = .ok (.value (.slice A k c)) w := by
  have hr := run_slice_to (P := P) w t e ht he A n c k kl L eL hk hA
  unfold execOp
  simp only [ho, Option.map_some, Option.map_none, hx, hlo, Instr.sliceAt, Sem.run_bind, run_underlying ht, Result.andThen_ok, hr]
  rfl
theorem sl_head {w : World} {B n k : Nat} {A : Option Addr} {xs : List Value} (h : Sl w B A n xs) (hk : k ≤ n) : Sl w B A k (xs.take k) := by
  refine ⟨by rw [List.length_take, h.1]; omega, fun hn => ?_⟩
  obtain ⟨ad, e, hb, hc⟩ := h.2 (by omega)
  refine ⟨ad, e, hb, fun j u hu => hc j u ?_⟩
  rcases Nat.lt_or_ge j k with hj | hj
  · rwa [List.getElem?_take_of_lt hj] at hu
  · rw [List.getElem?_eq_none (by rw [List.length_take]; omega)] at hu; cases hu
theorem list_two {w : World} {A A' : Option Addr} {c c' : Nat} {l l' : List UInt8} (t : TypeId) (hs : Sl w w.heap.size A l.length (cb l)) (hc : l.length ≤ c) (hz : A = none → c = 0) (hs' : Sl w w.heap.size A' l'.length (cb l')) (hc' : l'.length ≤ c') (hz' : A' = none → c' = 0) :
    Parts (w.alloc (.cells #[.slice A l.length c, .slice A' l'.length c'] t)) (w.alloc (.cells #[.slice A l.length c, .slice A' l'.length c'] t)).heap.size (some ⟨w.heap.size, 0, none⟩) 2 [l, l'] ∧ Below w.heap.size w (w.alloc (.cells #[.slice A l.length c, .slice A' l'.length c'] t)) := by
  have hb : Below w.heap.size w (w.alloc (.cells #[.slice A l.length c, .slice A' l'.length c'] t)) := (Below.refl _ w).alloc (Nat.le_refl _) _
  exact ⟨parts_two (Bl.newA w #[.slice A l.length c, .slice A' l'.length c'] t) (by simp) (hs.nx hb) hc hz (hs'.nx hb) hc' hz', hb⟩
theorem eql_sum (s : List UInt8) (w : World) (hs : s.length = 32) : (binOp .eql 27 (.agg (cb s).toArray) (.agg (cb s).toArray)).run Tryd.prog w = .ok (.bool true) w := by
  have := run_eql_bytes (P := Tryd.prog) w 27 5 32 Tryd.underlying27 Tryd.underlying5 (fun w => by kernel_rfl) s s hs hs
  rw [show (s == s) = true by simp] at this
  exact this

theorem sum_guard : Tryd.prog.eqGuardType Tryd.prog.depth 27 = false := by kernel_rfl
theorem exec_eql_sum {a : Act} {o : Oper} (w : World) (x y : Operand) (t : TypeId) (ho : o.op = .binOp .eql 27 x y t) (s : List UInt8) (hs : s.length = 32) (hx : a.eval x = .agg (cb s).toArray) (hy : a.eval y = .agg (cb s).toArray) :
    (execOp a.eval o).run Tryd.prog w = .ok (.value (.bool true)) w := by
  unfold execOp
  simp only [ho, hx, hy, Sem.run_bind, run_eqGuard_agg w .eql _ x y _ _ sum_guard, Result.andThen_ok, eql_sum s w hs]
  rfl

set_option linter.unusedSimpArgs false in
set_option maxHeartbeats 1000000 in
theorem digestCut_walk (A0 : Option Addr) (n0 c0 : Nat) (l0 : List UInt8) (a1 : Int) (w : World) (hT : Tabs w) (s0 : InBytes w A0 n0 c0 l0) (w1 : (Lit.int .u16 a1).wf = true) :
    Calls Tryd.prog 7 #[.slice A0 n0 c0, .int .u16 a1] w fun e w' => e = .returned (.bool true) ∧ Below w.heap.size w w' := by
  have r0 := s0.room
  have p0 := s0.cap
  have y0 := s0.sl
  have z0 := s0.none_
  have hl := s0.len
  clear s0
  subst hl
  obtain ⟨b0, b1⟩ := bounds_u16 w1
  clear w1
  have HT := Lib.hid hT
  clear hT
  by_cases hbig : 4000 < l0.length
  · go_enter Tryd.func7, Tryd.ntmps7
    go_wp2_with (go_at_call 9; refine (awake2_any _ HT.out).mono ?_; rintro e w' ⟨rfl, hb⟩)
    go_ret
    exact ⟨rfl, hb⟩
  · have HSL := Lib.hid (sha_len l0)
    obtain ⟨k, hk⟩ : ∃ k : Nat, a1 % ((l0.length : Int) + 1) = (k : Int) := Int.eq_ofNat_of_zero_le (Int.emod_nonneg _ (by omega))
    have hkl : k ≤ l0.length := by have := Int.emod_lt_of_pos a1 (show (0 : Int) < (l0.length : Int) + 1 by omega); omega
    obtain ⟨A', HA'⟩ : ∃ A', Hid (A' = if c0 = k then A0 else A0.map (·.add k)) := ⟨_, rfl⟩
    have HP : Hid (k ≤ c0) := (by omega : k ≤ c0)
    go_enter Tryd.func7, Tryd.ntmps7
    go_wp2_with fail
    rw [hk]
    clear hk
    refine wp_region_any (by kernel_rfl) ?_
    change wpAny _ _ _ _ _ _ _ (World.drew _)
    refine wpAny_take (i := 0) (v := (.slice A0 l0.length c0)) rfl (by kernel_rfl) (by kernel_rfl) (by kernel_rfl) (fun _ _ _ h => h) (Or.inl ⟨by rfl, fun _ => by go_simp⟩) ?_
    simp only [List.getElem_toArray, List.getElem_cons_succ, List.getElem_cons_zero, Act.put, List.setIfInBounds_toArray, List.set_cons_zero, List.set_cons_succ]
    refine wpAny_take (i := 1) (v := (.int .i64 (k : Int))) rfl (by kernel_rfl) (by kernel_rfl) (by kernel_rfl) (fun _ _ _ h => h) (Or.inl ⟨by rfl, fun _ => by go_simp⟩) ?_
    simp only [List.getElem_toArray, List.getElem_cons_succ, List.getElem_cons_zero, Act.put, List.setIfInBounds_toArray, List.set_cons_zero, List.set_cons_succ]
    refine wpAny_take (i := 2) (v := (.slice A0 k c0)) rfl (by kernel_rfl) (by kernel_rfl) (by kernel_rfl) (fun _ _ _ h => h) (Or.inl ⟨by rfl, fun _ => exec_slice_to _ 22 5 _ _ rfl Tryd.underlying22 u8_size A0 l0.length c0 k .i64 _ rfl rfl rfl HP.out z0⟩) ?_
    simp only [List.getElem_toArray, List.getElem_cons_succ, List.getElem_cons_zero, Act.put, List.setIfInBounds_toArray, List.set_cons_zero, List.set_cons_succ]
    refine wpAny_take (i := 4) (v := (.slice A0 l0.length c0)) rfl (by kernel_rfl) (by kernel_rfl) (by kernel_rfl) (fun _ _ _ h => h) (Or.inl ⟨by rfl, fun _ => by go_simp⟩) ?_
    simp only [List.getElem_toArray, List.getElem_cons_succ, List.getElem_cons_zero, Act.put, List.setIfInBounds_toArray, List.set_cons_zero, List.set_cons_succ]
    refine wpAny_take (i := 5) (v := (.int .i64 (k : Int))) rfl (by kernel_rfl) (by kernel_rfl) (by kernel_rfl) (fun _ _ _ h => h) (Or.inl ⟨by rfl, fun _ => by go_simp⟩) ?_
    simp only [List.getElem_toArray, List.getElem_cons_succ, List.getElem_cons_zero, Act.put, List.setIfInBounds_toArray, List.set_cons_zero, List.set_cons_succ]
    refine wpAny_take (i := 6) (v := (.slice A' (l0.length - k) (c0 - k))) rfl (by kernel_rfl) (by kernel_rfl) (by kernel_rfl) (fun _ _ _ h => h) (Or.inl ⟨by rfl, fun _ => exec_slice_from _ 22 5 _ _ rfl Tryd.underlying22 u8_size A0 l0.length c0 k .i64 _ rfl rfl rfl hkl p0 z0 A' HA'.out⟩) ?_
    simp only [List.getElem_toArray, List.getElem_cons_succ, List.getElem_cons_zero, Act.put, List.setIfInBounds_toArray, List.set_cons_zero, List.set_cons_succ]
    refine wpAny_take (i := 10) (v := (.slice A0 l0.length c0)) rfl (by kernel_rfl) (by kernel_rfl) (by kernel_rfl) (fun _ _ _ h => h) (Or.inl ⟨by rfl, fun _ => by go_simp⟩) ?_
    simp only [List.getElem_toArray, List.getElem_cons_succ, List.getElem_cons_zero, Act.put, List.setIfInBounds_toArray, List.set_cons_zero, List.set_cons_succ]
    have hd := (Below.refl w.heap.size w).drew
    have ya := sl_head (y0.below hd) hkl
    have yb := sl_cut (k := k) (y0.below hd) hkl p0
    rw [← HA'.out] at yb
    have ea : (cb l0).take k = cb (l0.take k) := by simp [cb]
    have eb : (cb l0).drop k = cb (l0.drop k) := by simp [cb]
    rw [ea] at ya
    rw [eb] at yb
    have la : (l0.take k).length = k := by simp; omega
    have lb : (l0.drop k).length = l0.length - k := by simp
    have zb : A' = none → c0 - k = 0 := by
      intro h
      have hh := HA'.out
      rw [h] at hh
      split at hh
      · omega
      · rcases A0 with _ | x
        · rw [z0 rfl]; omega
        · cases hh
    have HLA := Lib.hid la
    have HLB := Lib.hid lb
    clear ea eb la lb
    refine wpAny_ready (rs := [3]) (by kernel_rfl) (by simp) (AllReady.cons rfl (fun K hK => ?_) AllReady.nil)
    simp only [List.getElem_toArray, List.getElem_cons_succ, List.getElem_cons_zero, Act.put, List.setIfInBounds_toArray, List.set_cons_zero, List.set_cons_succ]
    go_simp
    refine (own_any (l0.take k) _ _ _ _ _ ya z0 (by omega) (Nat.le_refl _)).mono ?_
    rintro e w2 ⟨A2, c2, rfl, h2⟩
    refine hK _ _ ?_
    clear hK K
    have hb2 := next hd h2.below
    have x2 := h2.sl
    have yb2 := yb.below (h2.below.mono (Nat.le_refl _))
    refine wpAny_ready (rs := [7]) (by kernel_rfl) (by simp) (AllReady.cons rfl (fun K hK => ?_) AllReady.nil)
    simp only [List.getElem_toArray, List.getElem_cons_succ, List.getElem_cons_zero, Act.put, List.setIfInBounds_toArray, List.set_cons_zero, List.set_cons_succ]
    go_simp
    refine (own_any (l0.drop k) _ _ _ _ _ yb2 zb (by omega) h2.below.size).mono ?_
    rintro e w3 ⟨A3, c3, rfl, h3⟩
    refine hK _ _ ?_
    clear hK K
    have hb3 := next hb2 h3.below
    have x23 := x2.nx h3.below
    have x3 := h3.sl
    have k2 := own_cap h2.own
    have k3 := own_cap h3.own
    have n2 := h2.none_
    have n3 := h3.none_
    have xa : Sl w3 w3.heap.size A2 (l0.take k).length (cb (l0.take k)) := by rw [HLA.out]; exact x23
    have ka : (l0.take k).length ≤ c2 := by rw [HLA.out]; exact k2
    have xb : Sl w3 w3.heap.size A3 (l0.drop k).length (cb (l0.drop k)) := by rw [HLB.out]; exact x3
    have kb : (l0.drop k).length ≤ c3 := by rw [HLB.out]; exact k3
    obtain ⟨hp, hbp⟩ := list_two 22 xa ka n2 xb kb n3
    rw [HLA.out, HLB.out] at hp hbp
    have hb4 := next hb3 hbp
    have HHP := Lib.hid hp
    clear xa ka xb kb x23 x3 k2 k3 n2 n3 hp ya yb yb2 x2 h2 h3 hb2 hb3 hbp
    refine wpAny_ready (rs := [8]) (by kernel_rfl) (by simp) (AllReady.cons rfl (fun K hK => ?_) AllReady.nil)
    simp only [List.getElem_toArray, List.getElem_cons_succ, List.getElem_cons_zero, Act.put, List.setIfInBounds_toArray, List.set_cons_zero, List.set_cons_succ]
    go_simp
    refine hK _ _ ?_
    clear hK K
    refine wpAny_ready (rs := [9]) (by kernel_rfl) (by simp) (AllReady.cons rfl (fun K hK => ?_) AllReady.nil)
    simp only [List.getElem_toArray, List.getElem_cons_succ, List.getElem_cons_zero, Act.put, List.setIfInBounds_toArray, List.set_cons_zero, List.set_cons_succ]
    go_simp
    refine (of_any [l0.take k, l0.drop k] _ _ _ _ _ HHP.out (Nat.le_refl _) (by omega) (HT.out.next hb4) (by simp; omega)).mono ?_
    rintro e w5 ⟨rfl, hb5'⟩
    rw [show [l0.take k, l0.drop k].flatten = l0 by simp]
    refine hK _ _ ?_
    clear hK K
    have hb5 := next hb4 hb5'
    have y5 := y0.below hb5
    clear hb5' hb4 HHP
    refine wpAny_ready (rs := [11]) (by kernel_rfl) (by simp) (AllReady.cons rfl (fun K hK => ?_) AllReady.nil)
    simp only [List.getElem_toArray, List.getElem_cons_succ, List.getElem_cons_zero, Act.put, List.setIfInBounds_toArray, List.set_cons_zero, List.set_cons_succ]
    go_simp
    refine (own_any l0 _ _ _ _ _ y5 z0 (by omega) hb5.size).mono ?_
    rintro e w6 ⟨A6, c6, rfl, h6⟩
    refine hK _ _ ?_
    clear hK K
    have hb6 := next hb5 h6.below
    obtain ⟨hp7, hbp7⟩ := list_one 22 h6.sl (own_cap h6.own) h6.none_
    have hb7 := next hb6 hbp7
    have HHP := Lib.hid hp7
    clear y5 hb5 h6 hb6 hp7 hbp7
    refine wpAny_ready (rs := [12]) (by kernel_rfl) (by simp) (AllReady.cons rfl (fun K hK => ?_) AllReady.nil)
    simp only [List.getElem_toArray, List.getElem_cons_succ, List.getElem_cons_zero, Act.put, List.setIfInBounds_toArray, List.set_cons_zero, List.set_cons_succ]
    go_simp
    refine hK _ _ ?_
    clear hK K
    refine wpAny_ready (rs := [13]) (by kernel_rfl) (by simp) (AllReady.cons rfl (fun K hK => ?_) AllReady.nil)
    simp only [List.getElem_toArray, List.getElem_cons_succ, List.getElem_cons_zero, Act.put, List.setIfInBounds_toArray, List.set_cons_zero, List.set_cons_succ]
    go_simp
    refine (of_any [l0] _ _ _ _ _ HHP.out (Nat.le_refl _) (by omega) (HT.out.next hb7) (by simp; omega)).mono ?_
    rintro e w8 ⟨rfl, hb8'⟩
    rw [show [l0].flatten = l0 by simp]
    refine hK _ _ ?_
    clear hK K
    have hb8 := next hb7 hb8'
    clear hb8' hb7 HHP
    refine wpAny_take (i := 14) (v := (.bool true)) rfl (by kernel_rfl) (by kernel_rfl) (by kernel_rfl) (fun _ _ _ h => h) (Or.inl ⟨by rfl, fun _ => exec_eql_sum _ _ _ _ rfl (sha l0) HSL.out rfl rfl⟩) ?_
    simp only [List.getElem_toArray, List.getElem_cons_succ, List.getElem_cons_zero, Act.put, List.setIfInBounds_toArray, List.set_cons_zero, List.set_cons_succ]
    refine wpAny_take (i := 15) (v := (.bool true)) rfl (by kernel_rfl) (by kernel_rfl) (by kernel_rfl) (fun _ _ _ h => h) (Or.inl ⟨by rfl, fun _ => by go_simp⟩) ?_
    simp only [List.getElem_toArray, List.getElem_cons_succ, List.getElem_cons_zero, Act.put, List.setIfInBounds_toArray, List.set_cons_zero, List.set_cons_succ]
    refine wpAny_ready (rs := [16]) (by kernel_rfl) (by simp) (AllReady.cons rfl (fun K hK => ?_) AllReady.nil)
    simp only [List.getElem_toArray, List.getElem_cons_succ, List.getElem_cons_zero, Act.put, List.setIfInBounds_toArray, List.set_cons_zero, List.set_cons_succ]
    go_simp
    refine (awake2_any _ (HT.out.next hb8)).mono ?_
    rintro e w9 ⟨rfl, hb9'⟩
    refine hK _ _ ?_
    clear hK K
    have hb9 := next hb8 hb9'
    clear hb8 hb9'
    refine wpAny_take (i := 17) (v := (.bool true)) rfl (by kernel_rfl) (by kernel_rfl) (by kernel_rfl) (fun _ _ _ h => h) (Or.inl ⟨by rfl, fun _ => by go_simp⟩) ?_
    simp only [List.getElem_toArray, List.getElem_cons_succ, List.getElem_cons_zero, Act.put, List.setIfInBounds_toArray, List.set_cons_zero, List.set_cons_succ]
    refine wpAny_take (i := 18) (v := (.bool true)) rfl (by kernel_rfl) (by kernel_rfl) (by kernel_rfl) (fun _ _ _ h => h) (Or.inl ⟨by rfl, fun _ => by go_simp⟩) ?_
    simp only [List.getElem_toArray, List.getElem_cons_succ, List.getElem_cons_zero, Act.put, List.setIfInBounds_toArray, List.set_cons_zero, List.set_cons_succ]
    refine wpAny_done (by kernel_rfl) ?_ _
    go_wp2
    go_ret
    exact ⟨rfl, hb9⟩

end Go.Proofs.YtnaanngbnnbpdaaDoor

