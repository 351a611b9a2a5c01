/- The walk of the law RollingWindow. -/
import Derived.Test.YthgedpnoghgdhaaRolV
import Derived.Test.YthgedpnoghgdhaaOpn
namespace Go.Proofs.Ythgedpnoghgdhaa
set_option maxRecDepth 100000
open Go Go.RowKit
set_option linter.unusedVariables false
set_option linter.unusedSimpArgs false

/-- append in a region that draws its order, by its run. -/
theorem op_append {P : Program} {o : Oper} {a : Act} {w w' : World} {K : Act → World → Prop} {Q : Exit → Act → World → Prop} (s x : Operand) (t : TypeId)
    (ho : o.op = .call { callee := .builtin .append, args := #[s, x], argTypes := #[t, t] }) (v y v' : Value) (hs : a.eval s = v) (hx : a.eval x = y)
    (hrun : (Builtin.append_ #[t, t] o.type #[v, y]).run P w = .ok v' w') (h : K (a.put o.dst v') w') : Oper.wp P o a w K Q := by
  unfold Oper.wp execOp
  simp only [ho, resolve, invoke, builtin, Sem.run_bind, Sem.run_pure, Result.andThen_ok, List.map_toArray, List.map_cons, List.map_nil, hs, hx, hrun]
  exact h

theorem rolV_end (m : Nat) (a x : List UInt8) (hx : x.length = 16) : rolV m (a ++ x) = rolV m x := by
  unfold rolV
  rw [fpr_last m _ a x (by omega)]

set_option maxRecDepth 100000 in
set_option maxHeartbeats 2000000 in
theorem rollingWindow_walk (a0 : Int) (A1 : Option Addr) (n1 c1 : Nat) (l1 : List UInt8) (A2 : Option Addr) (n2 c2 : Nat) (l2 : List UInt8) (x : List UInt8) (w : World) (w0 : (Lit.int .u64 a0).wf = true) (s1 : InBytes w A1 n1 c1 l1) (s2 : InBytes w A2 n2 c2 l2) (hx : x.length = 16) :
    Calls Try.prog 6 #[.int .u64 a0, .slice A1 n1 c1, .slice A2 n2 c2, .agg (cb x).toArray] w fun e w' => e = .returned (.bool true) ∧ Below w.heap.size w w' := by
  obtain ⟨b0, b1⟩ := bounds_u64 w0
  obtain ⟨m, rfl⟩ := Int.eq_ofNat_of_zero_le b0
  have hm : m < 18446744073709551616 := by omega
  clear w0 b0 b1
  obtain ⟨i0, hi, hz0, hz1, hz2⟩ := info_parts u8_info
  have y1 := s1.sl
  have z1 := s1.none_
  have r1 := s1.room
  have p1 := s1.cap
  have y2 := s2.sl
  have z2 := s2.none_
  have r2 := s2.room
  have p2 := s2.cap
  clear s1 s2
  have HX := Lib.hid hx
  clear hx
  have bt := Bl.new w (cb x) 40
  have hbt : Below w.heap.size w (w.alloc (.cells (cb x).toArray 40)) := (Below.refl _ w).alloc (Nat.le_refl _) _
  obtain ⟨W0, hW0⟩ : ∃ W, W = w.alloc (.cells (cb x).toArray 40) := ⟨_, rfl⟩
  rw [← hW0] at bt hbt
  have HW0 := Lib.hid hW0
  clear hW0
  have AW := Lib.hid awake13_any
  by_cases hbig : n1 ≤ 4000 ∧ n2 ≤ 4000
  · obtain ⟨g1, g2⟩ := hbig
    have q1 : ¬ (4000 : Int) < (n1 : Int) := by omega
    have q2 : ¬ (4000 : Int) < (n2 : Int) := by omega
    obtain ⟨V, hV⟩ : ∃ V, V = rolV m (l1 ++ x) := ⟨_, rfl⟩
    obtain ⟨E, hE⟩ : ∃ E, E = rolE m := ⟨_, rfl⟩
    have HV := Lib.hid hV
    have HV2 : Hid (rolV m (l2 ++ x) = V) := by unfold Hid; rw [hV, rolV_end m l1 x HX.out, rolV_end m l2 x HX.out]
    have HE := Lib.hid hE
    clear hV hE
    go_enter Try.func6, Try.ntmps6
    go_wp2_with (first
      | (refine wpList_box_agg rfl 40 _ rfl (cb x) rfl ?_; rw [← HW0.out])
      | fail)
    refine wp_region_any (by kernel_rfl) ?_
    change wpAny _ _ _ _ _ _ _ (World.drew _)
    obtain ⟨W3, hW3⟩ : ∃ W, W = W0.drew := ⟨_, rfl⟩
    have hb3 : Below w.heap.size w W3 := by rw [hW3]; exact hbt.drew
    have bt3 : Bl W3 w.heap.size (cb x) 40 := by rw [hW3]; exact bt.drew
    rw [← hW3]
    clear hW3
    refine wpAny_take (i := 0) (v := (.int .u64 (m : Int))) rfl (by kernel_rfl) (by kernel_rfl) (by kernel_rfl) (fun _ _ _ h => h) (Or.inl ⟨by rfl, fun _ => by go_simp⟩) ?_
    simp only [List.getElem_toArray, List.getElem_cons_succ, List.getElem_cons_zero, Act.put, List.setIfInBounds_toArray, List.set_cons_zero, List.set_cons_succ]
    refine wpAny_take (i := 2) (v := (.slice A1 n1 c1)) rfl (by kernel_rfl) (by kernel_rfl) (by kernel_rfl) (fun _ _ _ h => h) (Or.inl ⟨by rfl, fun _ => by go_simp⟩) ?_
    simp only [List.getElem_toArray, List.getElem_cons_succ, List.getElem_cons_zero, Act.put, List.setIfInBounds_toArray, List.set_cons_zero, List.set_cons_succ]
    refine wpAny_take (i := 4) (v := (.slice (some ⟨w.heap.size, 0, none⟩) 16 16)) rfl (by kernel_rfl) (by kernel_rfl) (by kernel_rfl) (fun _ _ _ h => h) (Or.inl ⟨by rfl, fun _ => by go_simp⟩) ?_
    simp only [List.getElem_toArray, List.getElem_cons_succ, List.getElem_cons_zero, Act.put, List.setIfInBounds_toArray, List.set_cons_zero, List.set_cons_succ]
    refine wpAny_one (i := 1) (by kernel_rfl) rfl (by rfl) (fun K hK => ?_)
    simp only [List.getElem_toArray, List.getElem_cons_succ, List.getElem_cons_zero, Act.put, List.setIfInBounds_toArray, List.set_cons_zero, List.set_cons_succ]
    go_simp
    refine hK.out _ _ ?_
    clear hK K
    have own3 := World.ownsRow_lit (base := w.heap.size + 1) (e := 5) (size := 1) W3 #[] 0 bt3.lt (by decide) rfl
    have hc3 : Below w.heap.size w (W3.alloc (.cells #[] 5)) := hb3.alloc hb3.size _
    obtain ⟨v3, x3, hr3, ox3, gr3, _⟩ := run_append_sl (P := Try.prog) _ (w.heap.size + 1) 23 23 5 i0 (.int .u8 0) 1 Try.underlying23 hi hz0 hz1 hz2 rfl _ 0 [] own3 _ A1 n1 c1 (cb l1) (y1.nx hc3) z1 (cb_one _) (by unfold maxLen; omega) (by omega) (by have := bt3.lt; simp; omega)
    obtain ⟨X3, d3, rfl⟩ := own_form ox3
    have hd3 : Below w.heap.size w x3 := below_app hc3 (Nat.le_refl _) (own_down own3 (Nat.le_succ _)) gr3
    have bx3 : Bl x3 w.heap.size (cb x) 40 := (bt3.alloc _).grown gr3 (by intro h; have h2 := bt3.lt; simp [Value.ownBlock] at h; omega)
    rw [Nat.zero_add, List.nil_append] at ox3
    rw [Nat.zero_add] at hr3
    have HR3 := Lib.hid hr3
    clear hr3 gr3 own3 hc3 bt3 hb3
    refine wpAny_one (i := 3) (by kernel_rfl) rfl (by rfl) (fun K hK => ?_)
    simp only [List.getElem_toArray, List.getElem_cons_succ, List.getElem_cons_zero, Act.put, List.setIfInBounds_toArray, List.set_cons_zero, List.set_cons_succ]
    refine op_append _ _ 23 rfl _ _ _ rfl rfl HR3.out ?_
    refine hK.out _ _ ?_
    clear hK K
    obtain ⟨u3, t3, hs3, ot3, gt3, at3⟩ := run_append_sl (P := Try.prog) x3 (w.heap.size + 1) 23 23 5 i0 (.int .u8 0) 1 Try.underlying23 hi hz0 hz1 hz2 rfl _ n1 _ ox3 _ (some ⟨w.heap.size, 0, none⟩) 16 16 (cb x) (bx3.sl (n := 16) (by rw [List.drop_zero, List.take_of_length_le (by rw [cb_len, HX.out]; omega)]) (by rw [cb_len, HX.out]; omega)) (by intro h; cases h) (cb_one _) (by unfold maxLen; omega) (by omega) bx3.lt
    obtain ⟨Z3, f3, rfl⟩ := own_form ot3
    have he3 : Below w.heap.size w t3 := below_app hd3 (Nat.le_refl _) (own_down ox3 (Nat.le_succ _)) gt3
    have bz3 : Bl t3 w.heap.size (cb x) 40 := bx3.grown gt3 (fun h => by have := own_blk ox3 h; omega)
    rw [← cb_append] at ot3
    have st3 := Sl.own ot3
    have HS3 := Lib.hid hs3
    clear hs3 gt3 ot3 at3 ox3 bx3 hd3
    refine wpAny_one (i := 5) (by kernel_rfl) rfl (by rfl) (fun K hK => ?_)
    simp only [List.getElem_toArray, List.getElem_cons_succ, List.getElem_cons_zero, Act.put, List.setIfInBounds_toArray, List.set_cons_zero, List.set_cons_succ]
    refine op_append _ _ 23 rfl _ _ _ rfl rfl HS3.out ?_
    refine hK.out _ _ ?_
    clear hK K HR3 HS3
    refine wpAny_one (i := 6) (by kernel_rfl) rfl (by rfl) (fun K hK => ?_)
    simp only [List.getElem_toArray, List.getElem_cons_succ, List.getElem_cons_zero, Act.put, List.setIfInBounds_toArray, List.set_cons_zero, List.set_cons_succ]
    go_simp
    refine (rolOf_any m (l1 ++ x) t3 Z3 (n1 + 16) f3 st3 (by omega) hm).mono ?_
    rintro e k3 ⟨rfl, hk3⟩
    rw [← HV.out, ← HE.out]
    refine hK.out _ _ ?_
    clear hK K st3
    have hm3 := next he3 hk3
    have bm3 := bz3.below hk3 bz3.lt
    clear bz3 he3 hk3
    refine wpAny_take (i := 7) (v := (.tuple #[.int .u64 (V : Nat), .int .i64 E])) rfl (by kernel_rfl) (by kernel_rfl) (by kernel_rfl) (fun _ _ _ h => h) (Or.inl ⟨by rfl, fun _ => by go_simp⟩) ?_
    simp only [List.getElem_toArray, List.getElem_cons_succ, List.getElem_cons_zero, Act.put, List.setIfInBounds_toArray, List.set_cons_zero, List.set_cons_succ]
    refine wpAny_take (i := 8) (v := (.int .u64 (V : Nat))) rfl (by kernel_rfl) (by kernel_rfl) (by kernel_rfl) (fun _ _ _ h => h) (Or.inl ⟨by rfl, fun _ => by go_simp⟩) ?_
    simp only [List.getElem_toArray, List.getElem_cons_succ, List.getElem_cons_zero, Act.put, List.setIfInBounds_toArray, List.set_cons_zero, List.set_cons_succ]
    refine wpAny_take (i := 9) (v := (.int .i64 E)) rfl (by kernel_rfl) (by kernel_rfl) (by kernel_rfl) (fun _ _ _ h => h) (Or.inl ⟨by rfl, fun _ => by go_simp⟩) ?_
    simp only [List.getElem_toArray, List.getElem_cons_succ, List.getElem_cons_zero, Act.put, List.setIfInBounds_toArray, List.set_cons_zero, List.set_cons_succ]
    refine wpAny_take (i := 10) (v := (.int .u64 (V : Nat))) rfl (by kernel_rfl) (by kernel_rfl) (by kernel_rfl) (fun _ _ _ h => h) (Or.inl ⟨by rfl, fun _ => by go_simp⟩) ?_
    simp only [List.getElem_toArray, List.getElem_cons_succ, List.getElem_cons_zero, Act.put, List.setIfInBounds_toArray, List.set_cons_zero, List.set_cons_succ]
    refine wpAny_take (i := 11) (v := (.int .i64 E)) rfl (by kernel_rfl) (by kernel_rfl) (by kernel_rfl) (fun _ _ _ h => h) (Or.inl ⟨by rfl, fun _ => by go_simp⟩) ?_
    simp only [List.getElem_toArray, List.getElem_cons_succ, List.getElem_cons_zero, Act.put, List.setIfInBounds_toArray, List.set_cons_zero, List.set_cons_succ]
    refine wpAny_done (by kernel_rfl) ?_ _
    go_wp2_with fail
    refine wp_region_any (by kernel_rfl) ?_
    change wpAny _ _ _ _ _ _ _ (World.drew _)
    obtain ⟨W4, hW4⟩ : ∃ W, W = k3.drew := ⟨_, rfl⟩
    have hb4 : Below w.heap.size w W4 := by rw [hW4]; exact hm3.drew
    have bt4 : Bl W4 w.heap.size (cb x) 40 := by rw [hW4]; exact bm3.drew
    rw [← hW4]
    clear hW4
    refine wpAny_take (i := 0) (v := (.int .u64 (m : Int))) rfl (by kernel_rfl) (by kernel_rfl) (by kernel_rfl) (fun _ _ _ h => h) (Or.inl ⟨by rfl, fun _ => by go_simp⟩) ?_
    simp only [List.getElem_toArray, List.getElem_cons_succ, List.getElem_cons_zero, Act.put, List.setIfInBounds_toArray, List.set_cons_zero, List.set_cons_succ]
    refine wpAny_take (i := 2) (v := (.slice A2 n2 c2)) rfl (by kernel_rfl) (by kernel_rfl) (by kernel_rfl) (fun _ _ _ h => h) (Or.inl ⟨by rfl, fun _ => by go_simp⟩) ?_
    simp only [List.getElem_toArray, List.getElem_cons_succ, List.getElem_cons_zero, Act.put, List.setIfInBounds_toArray, List.set_cons_zero, List.set_cons_succ]
    refine wpAny_take (i := 4) (v := (.slice (some ⟨w.heap.size, 0, none⟩) 16 16)) rfl (by kernel_rfl) (by kernel_rfl) (by kernel_rfl) (fun _ _ _ h => h) (Or.inl ⟨by rfl, fun _ => by go_simp⟩) ?_
    simp only [List.getElem_toArray, List.getElem_cons_succ, List.getElem_cons_zero, Act.put, List.setIfInBounds_toArray, List.set_cons_zero, List.set_cons_succ]
    refine wpAny_one (i := 1) (by kernel_rfl) rfl (by rfl) (fun K hK => ?_)
    simp only [List.getElem_toArray, List.getElem_cons_succ, List.getElem_cons_zero, Act.put, List.setIfInBounds_toArray, List.set_cons_zero, List.set_cons_succ]
    go_simp
    refine hK.out _ _ ?_
    clear hK K
    have own4 := World.ownsRow_lit (base := w.heap.size + 1) (e := 5) (size := 1) W4 #[] 0 bt4.lt (by decide) rfl
    have hc4 : Below w.heap.size w (W4.alloc (.cells #[] 5)) := hb4.alloc hb4.size _
    obtain ⟨v4, x4, hr4, ox4, gr4, _⟩ := run_append_sl (P := Try.prog) _ (w.heap.size + 1) 23 23 5 i0 (.int .u8 0) 1 Try.underlying23 hi hz0 hz1 hz2 rfl _ 0 [] own4 _ A2 n2 c2 (cb l2) (y2.nx hc4) z2 (cb_one _) (by unfold maxLen; omega) (by omega) (by have := bt4.lt; simp; omega)
    obtain ⟨X4, d4, rfl⟩ := own_form ox4
    have hd4 : Below w.heap.size w x4 := below_app hc4 (Nat.le_refl _) (own_down own4 (Nat.le_succ _)) gr4
    have bx4 : Bl x4 w.heap.size (cb x) 40 := (bt4.alloc _).grown gr4 (by intro h; have h2 := bt4.lt; simp [Value.ownBlock] at h; omega)
    rw [Nat.zero_add, List.nil_append] at ox4
    rw [Nat.zero_add] at hr4
    have HR4 := Lib.hid hr4
    clear hr4 gr4 own4 hc4 bt4 hb4
    refine wpAny_one (i := 3) (by kernel_rfl) rfl (by rfl) (fun K hK => ?_)
    simp only [List.getElem_toArray, List.getElem_cons_succ, List.getElem_cons_zero, Act.put, List.setIfInBounds_toArray, List.set_cons_zero, List.set_cons_succ]
    refine op_append _ _ 23 rfl _ _ _ rfl rfl HR4.out ?_
    refine hK.out _ _ ?_
    clear hK K
    obtain ⟨u4, t4, hs4, ot4, gt4, at4⟩ := run_append_sl (P := Try.prog) x4 (w.heap.size + 1) 23 23 5 i0 (.int .u8 0) 1 Try.underlying23 hi hz0 hz1 hz2 rfl _ n2 _ ox4 _ (some ⟨w.heap.size, 0, none⟩) 16 16 (cb x) (bx4.sl (n := 16) (by rw [List.drop_zero, List.take_of_length_le (by rw [cb_len, HX.out]; omega)]) (by rw [cb_len, HX.out]; omega)) (by intro h; cases h) (cb_one _) (by unfold maxLen; omega) (by omega) bx4.lt
    obtain ⟨Z4, f4, rfl⟩ := own_form ot4
    have he4 : Below w.heap.size w t4 := below_app hd4 (Nat.le_refl _) (own_down ox4 (Nat.le_succ _)) gt4
    have bz4 : Bl t4 w.heap.size (cb x) 40 := bx4.grown gt4 (fun h => by have := own_blk ox4 h; omega)
    rw [← cb_append] at ot4
    have st4 := Sl.own ot4
    have HS4 := Lib.hid hs4
    clear hs4 gt4 ot4 at4 ox4 bx4 hd4
    refine wpAny_one (i := 5) (by kernel_rfl) rfl (by rfl) (fun K hK => ?_)
    simp only [List.getElem_toArray, List.getElem_cons_succ, List.getElem_cons_zero, Act.put, List.setIfInBounds_toArray, List.set_cons_zero, List.set_cons_succ]
    refine op_append _ _ 23 rfl _ _ _ rfl rfl HS4.out ?_
    refine hK.out _ _ ?_
    clear hK K HR4 HS4
    refine wpAny_one (i := 6) (by kernel_rfl) rfl (by rfl) (fun K hK => ?_)
    simp only [List.getElem_toArray, List.getElem_cons_succ, List.getElem_cons_zero, Act.put, List.setIfInBounds_toArray, List.set_cons_zero, List.set_cons_succ]
    go_simp
    refine (rolOf_any m (l2 ++ x) t4 Z4 (n2 + 16) f4 st4 (by omega) hm).mono ?_
    rintro e k4 ⟨rfl, hk4⟩
    rw [HV2.out, ← HE.out]
    refine hK.out _ _ ?_
    clear hK K st4
    have hm4 := next he4 hk4
    have bm4 := bz4.below hk4 bz4.lt
    clear bz4 he4 hk4
    refine wpAny_take (i := 7) (v := (.tuple #[.int .u64 (V : Nat), .int .i64 E])) rfl (by kernel_rfl) (by kernel_rfl) (by kernel_rfl) (fun _ _ _ h => h) (Or.inl ⟨by rfl, fun _ => by go_simp⟩) ?_
    simp only [List.getElem_toArray, List.getElem_cons_succ, List.getElem_cons_zero, Act.put, List.setIfInBounds_toArray, List.set_cons_zero, List.set_cons_succ]
    refine wpAny_take (i := 8) (v := (.int .u64 (V : Nat))) rfl (by kernel_rfl) (by kernel_rfl) (by kernel_rfl) (fun _ _ _ h => h) (Or.inl ⟨by rfl, fun _ => by go_simp⟩) ?_
    simp only [List.getElem_toArray, List.getElem_cons_succ, List.getElem_cons_zero, Act.put, List.setIfInBounds_toArray, List.set_cons_zero, List.set_cons_succ]
    refine wpAny_take (i := 9) (v := (.int .i64 E)) rfl (by kernel_rfl) (by kernel_rfl) (by kernel_rfl) (fun _ _ _ h => h) (Or.inl ⟨by rfl, fun _ => by go_simp⟩) ?_
    simp only [List.getElem_toArray, List.getElem_cons_succ, List.getElem_cons_zero, Act.put, List.setIfInBounds_toArray, List.set_cons_zero, List.set_cons_succ]
    refine wpAny_take (i := 10) (v := (.int .u64 (V : Nat))) rfl (by kernel_rfl) (by kernel_rfl) (by kernel_rfl) (fun _ _ _ h => h) (Or.inl ⟨by rfl, fun _ => by go_simp⟩) ?_
    simp only [List.getElem_toArray, List.getElem_cons_succ, List.getElem_cons_zero, Act.put, List.setIfInBounds_toArray, List.set_cons_zero, List.set_cons_succ]
    refine wpAny_take (i := 11) (v := (.int .i64 E)) rfl (by kernel_rfl) (by kernel_rfl) (by kernel_rfl) (fun _ _ _ h => h) (Or.inl ⟨by rfl, fun _ => by go_simp⟩) ?_
    simp only [List.getElem_toArray, List.getElem_cons_succ, List.getElem_cons_zero, Act.put, List.setIfInBounds_toArray, List.set_cons_zero, List.set_cons_succ]
    refine wpAny_done (by kernel_rfl) ?_ _
    go_wp2_with (first
      | (go_at_call 9; refine (AW.out _).mono ?_; rintro e w6 ⟨rfl, hb6⟩)
      | fail)
    go_ret
    exact ⟨rfl, next hm4 hb6⟩
  · have hbig : 4000 < n1 ∨ (¬ 4000 < n1 ∧ 4000 < n2) := by omega
    rcases hbig with h | ⟨h, h2⟩
    · have q1 : (4000 : Int) < (n1 : Int) := by omega
      go_enter Try.func6, Try.ntmps6
      go_wp2_with (first
        | (refine wpList_box_agg rfl 40 _ rfl (cb x) rfl ?_; rw [← HW0.out])
        | (go_at_call 9; refine (AW.out _).mono ?_; rintro e w6 ⟨rfl, hb6⟩)
        | fail)
      go_ret
      exact ⟨rfl, next hbt hb6⟩
    · have q1 : ¬ (4000 : Int) < (n1 : Int) := by omega
      have q2 : (4000 : Int) < (n2 : Int) := by omega
      go_enter Try.func6, Try.ntmps6
      go_wp2_with (first
        | (refine wpList_box_agg rfl 40 _ rfl (cb x) rfl ?_; rw [← HW0.out])
        | (go_at_call 9; refine (AW.out _).mono ?_; rintro e w6 ⟨rfl, hb6⟩)
        | fail)
      go_ret
      exact ⟨rfl, next hbt hb6⟩

end Go.Proofs.Ythgedpnoghgdhaa
