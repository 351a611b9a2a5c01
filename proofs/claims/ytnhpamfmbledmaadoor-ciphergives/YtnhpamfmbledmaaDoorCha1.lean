/- The walk of the law CipherBlocks. -/
import Derived.Test.YtnhpamfmbledmaaDoorChaW
import Derived.Test.YtnhpamfmbledmaaDoorLA
import Derived.Stop.BytesEq
namespace Go.Proofs.YtnhpamfmbledmaaDoor
open Go.RowKit
set_option linter.unusedVariables false
set_option linter.unusedSimpArgs false

/-- An operation whose run is known. -/
theorem wpList_exec {P : Program} {ops : Array Oper} {rest : List Oper} {o : Oper} {a : Act} {w : World} {Q : Exit → Act → World → Prop} (hgd : o.guard = none) (v : Value) (hr : (execOp a.eval o).run P w = .ok (.value v) w) (h : wpList P ops Q rest (a.put o.dst v) w) : wpList P ops Q (o :: rest) a w := by
  refine wpList_plain hgd fun K hK => ?_
  unfold Oper.wp
  rw [hr]
  exact hK _ _ h

theorem eql_block (s : List UInt8) (w : World) (hs : s.length = 64) : (binOp .eql 25 (.agg (cb s).toArray) (.agg (cb s).toArray)).run Tryd.prog w = .ok (.bool true) w := by
  have := run_eql_bytes (P := Tryd.prog) w 25 5 64 Tryd.underlying25 Tryd.underlying5 (fun w => by kernel_rfl) s s hs hs
  rw [show (s == s) = true by simp] at this
  exact this
theorem block_guard : Tryd.prog.eqGuardType Tryd.prog.depth 25 = false := by kernel_rfl
theorem exec_eql_block {a : Act} {o : Oper} (w : World) (x y : Operand) (t : TypeId) (ho : o.op = .binOp .eql 25 x y t) (s : List UInt8) (hs : s.length = 64) (hx : a.eval x = .agg (cb s).toArray) (hy : a.eval y = .agg (cb s).toArray) :
    (execOp a.eval o).run Tryd.prog w = .ok (.value (.bool true)) w := by
  unfold execOp
  simp only [ho, hx, hy, Sem.run_bind, run_eqGuard_agg w .eql _ x y _ _ block_guard, Result.andThen_ok, eql_block s w hs]
  rfl
theorem rblock_n (key nonce : List UInt8) (n : Nat) (w : World) (A0 A1 : Option Addr) (n0 n1 c0 c1 : Nat) (e0 : n0 = 32) (e1 : n1 = 12) (h0 : Sl w w.heap.size A0 n0 (cb key)) (h1 : Sl w w.heap.size A1 n1 (cb nonce)) (k0 : n0 ≤ c0) (k1 : n1 ≤ c1) (z0 : A0 = none → c0 = 0) (z1 : A1 = none → c1 = 0) (hn : n < 4294967296) (O : List UInt8) (hO : O = cblk key nonce n) :
    Calls Tryd.prog 12 #[.slice A0 n0 c0, .slice A1 n1 c1, .int .u32 n] w (RetBytes 5 w 64 O) := by
  subst e0; subst e1
  exact rblock_any key nonce n w A0 A1 c0 c1 h0 h1 k0 k1 z0 z1 hn O hO

theorem built_blockZ : Tryd.prog.built 25 [] = some (cb (List.replicate 64 0)).toArray := by kernel_rfl

set_option maxRecDepth 100000 in
set_option maxHeartbeats 1000000 in
theorem cipherBlocks_walk (A0 : Option Addr) (n0 c0 : Nat) (l0 : List UInt8) (A1 : Option Addr) (n1 c1 : Nat) (l1 : List UInt8) (a2 : Int) (w : World) (hT : TabC w)
    (s0 : InBytes w A0 n0 c0 l0) (s1 : InBytes w A1 n1 c1 l1) (w2 : (Lit.int .u32 a2).wf = true) :
    Calls Tryd.prog 3 #[.slice A0 n0 c0, .slice A1 n1 c1, .int .u32 a2] w fun e w' => e = .returned (.bool true) ∧ Below w.heap.size w w' := by
  obtain ⟨b0, b1⟩ := bounds_u32 w2
  obtain ⟨n, rfl⟩ := Int.eq_ofNat_of_zero_le b0
  have hn : n < 4294967296 := by omega
  clear w2 b0 b1
  have y0 := s0.sl
  have z0 := s0.none_
  have e0 := s0.len
  have y1 := s1.sl
  have z1 := s1.none_
  have e1 := s1.len
  have r0 := s0.room
  have r1 := s1.room
  have p0 := s0.cap
  have p1 := s1.cap
  clear s0 s1
  subst e0; subst e1
  have HT := Lib.hid hT
  clear hT
  obtain ⟨B, hB⟩ : ∃ B, B = blkR l0 l1 n := ⟨_, rfl⟩
  have HBL : Hid (B.length = 64) := by unfold Hid; rw [hB]; unfold blkR; split <;> simp [cblk_len]
  obtain ⟨E, hE⟩ : ∃ E, E = blkE l0 l1 := ⟨_, rfl⟩
  have HB := Lib.hid hB
  have HE := Lib.hid hE
  have HC : Hid ((fitK l0 l1 = true ∧ (l0.length == 32 && l1.length == 12) = true ∧ B = cblk l0 l1 n ∧ E = 0) ∨ (fitK l0 l1 = false ∧ (l0.length == 32 && l1.length == 12) = false ∧ B = List.replicate 64 0 ∧ E = 1)) := by
    unfold Hid
    by_cases hf : fitK l0 l1 = true
    · exact .inl ⟨hf, hf, by rw [hB, blkR, if_pos hf], by rw [hE, blkE, if_pos hf]⟩
    · exact .inr ⟨by simpa using hf, by simpa [fitK] using hf, by rw [hB, blkR, if_neg hf], by rw [hE, blkE, if_neg hf]⟩
  clear hB hE
  go_enter Tryd.func3, Tryd.ntmps3
  go_wp2_with fail
  refine (own_any l0 _ _ _ _ _ y0 z0 (by omega) (Nat.le_refl _)).mono ?_
  rintro e w1 ⟨X0, d0, rfl, h0⟩
  have hb1 := h0.below
  have x0 := h0.sl
  have f0 := h0.none_
  have g0 := own_cap h0.own
  clear h0
  go_wp2_with fail
  refine (own_any l1 _ _ _ _ _ (y1.nx hb1) z1 (by omega) (Nat.le_refl _)).mono ?_
  rintro e w2 ⟨X1, d1, rfl, h1⟩
  have hb2 := next hb1 h1.below
  replace x0 := x0.nx h1.below
  have x1 := h1.sl
  have f1 := h1.none_
  have g1 := own_cap h1.own
  clear h1 hb1
  go_wp2_with fail
  refine (block_any l0 l1 n _ _ _ _ _ _ w2 hn x0 x1 g0 g1 f0 f1 (HT.out.next hb2)).mono ?_
  rintro e w3 ⟨rfl, hb3⟩
  rw [← HB.out, ← HE.out]
  obtain ⟨bb, hb4, hz4⟩ := put_new w3 (zeros .u8 64) (cb B) 25 (by rw [cb_len, HBL.out, zeros_len])
  obtain ⟨W4, hW4⟩ : ∃ W, W = (w3.alloc (.cells (zeros .u8 64).toArray 25)).setCells w3.heap.size 0 (cb B) := ⟨_, rfl⟩
  rw [← hW4] at bb hb4
  have HW4 := Lib.hid hW4
  have hb34 := next hb3 hb4
  have hbw4 := next hb2 hb34
  have u0 := u8_str (x0.nx hb34) d0
  have u1 := u8_str (x1.nx hb34) d1
  have v0 := u8_str (y0.nx hbw4) c0
  have v1 := u8_str (y1.nx hbw4) c1
  have hs0 : (l0 != l0) = false := by simp
  have hs1 : (l1 != l1) = false := by simp
  clear hW4 hz4 x0 x1 hb3 hb4 hb2
  have hR := right_any l0.length l1.length c0 c1 A0 A1 W4
  have HRC := Lib.hid hR
  clear hR
  go_wp2_with (first
    | (refine wpList_alloc_zero rfl 25 rfl (zeros .u8 64) zero_block ?_)
    | (refine wpList_store_mid rfl 25 _ _ rfl _ _ (cb B).toArray rfl rfl (Bl.there_ (Bl.new w3 (zeros .u8 64) 25) (by simp [zeros, cb_len, HBL.out])) (by rw [size_block, List.size_toArray, cb_len, HBL.out]) (all_oneCell_toArray (cb_one _)) ?_; change wpList _ _ _ _ _ (World.setCells (w3.alloc (.cells (zeros .u8 64).toArray 25)) w3.heap.size 0 (cb B)); rw [← HW4.out]))
  refine HRC.out.mono ?_
  rintro e w' ⟨rfl, rfl⟩
  clear u0 u1 v0 v1 HRC
  rcases HC.out with ⟨hfit, hq, hBc, hEc⟩ | ⟨hfit, hq, hBc, hEc⟩
  · rw [hq]
    have HBC := Lib.hid hBc
    have hfl : l0.length = 32 ∧ l1.length = 12 := by simpa [fitK] using hfit
    have HFL := Lib.hid hfl
    have hEE : (E == 0) = true := by rw [hEc]; rfl
    clear hq hBc hfit hfl hEc
    have hsb : Sl W4 W4.heap.size (some ⟨w3.heap.size, 0, none⟩) 64 (cb B) := (bb.sl (o := 0) (n := 64) (by rw [List.drop_zero, List.take_of_length_le (by rw [cb_len, HBL.out]; omega)]) (by rw [cb_len, HBL.out]; omega)).up bb.lt
    obtain ⟨S, hSd⟩ : ∃ S : World → Prop, S = fun w' => (convert 22 9 (.slice (some ⟨w3.heap.size, 0, none⟩) 64 64)).run Tryd.prog w' = .ok (.string ⟨B.toArray⟩) w' := ⟨_, rfl⟩
    have HSI : Hid (∀ w', Below W4.heap.size W4 w' → S w') := by unfold Hid; intro w' hb; rw [hSd]; exact u8_str (hsb.nx hb) _
    have HS1 : Hid (∀ w', S w' → (convert 22 9 (.slice (some ⟨w3.heap.size, 0, none⟩) 64 64)).run Tryd.prog w' = .ok (.string ⟨B.toArray⟩) w') := by unfold Hid; intro w' h; rw [hSd] at h; exact h
    clear hSd hsb bb
    go_wp2_with fail
    have hbd : Below W4.heap.size W4 W4.drew := (Below.refl _ W4).drew
    have hS := HSI.out _ hbd
    refine wp_region_held_drew (S := S) (by kernel_rfl) hS (fun _ => ?_)
    refine wpAnyH_take (i := 0) (v := (.slice (some ⟨w3.heap.size, 0, none⟩) 64 64)) rfl (by kernel_rfl) (by kernel_rfl) (by kernel_rfl) (fun _ _ _ h => h) (Or.inl ⟨by rfl, fun _ hSw => by go_simp⟩) hS ?_
    simp only [List.getElem_toArray, List.getElem_cons_succ, List.getElem_cons_zero, Act.put, List.setIfInBounds_toArray, List.set_cons_zero, List.set_cons_succ]
    refine wpAnyH_take (i := 1) (v := .string ⟨B.toArray⟩) rfl (by kernel_rfl) (by kernel_rfl) (by kernel_rfl) (fun _ _ _ h => h) (Or.inl ⟨by rfl, fun w' hw' => exec_convert w' _ _ _ rfl _ _ rfl (HS1.out w' hw')⟩) hS ?_
    simp only [List.getElem_toArray, List.getElem_cons_succ, List.getElem_cons_zero, Act.put, List.setIfInBounds_toArray, List.set_cons_zero, List.set_cons_succ]
    refine wpAnyH_take (i := 2) (v := (.slice A0 l0.length c0)) rfl (by kernel_rfl) (by kernel_rfl) (by kernel_rfl) (fun _ _ _ h => h) (Or.inl ⟨by rfl, fun _ hSw => by go_simp⟩) hS ?_
    simp only [List.getElem_toArray, List.getElem_cons_succ, List.getElem_cons_zero, Act.put, List.setIfInBounds_toArray, List.set_cons_zero, List.set_cons_succ]
    refine wpAnyH_take (i := 3) (v := (.slice A1 l1.length c1)) rfl (by kernel_rfl) (by kernel_rfl) (by kernel_rfl) (fun _ _ _ h => h) (Or.inl ⟨by rfl, fun _ hSw => by go_simp⟩) hS ?_
    simp only [List.getElem_toArray, List.getElem_cons_succ, List.getElem_cons_zero, Act.put, List.setIfInBounds_toArray, List.set_cons_zero, List.set_cons_succ]
    refine wpAnyH_take (i := 4) (v := (.int .u32 (n : Int))) rfl (by kernel_rfl) (by kernel_rfl) (by kernel_rfl) (fun _ _ _ h => h) (Or.inl ⟨by rfl, fun _ hSw => by go_simp⟩) hS ?_
    simp only [List.getElem_toArray, List.getElem_cons_succ, List.getElem_cons_zero, Act.put, List.setIfInBounds_toArray, List.set_cons_zero, List.set_cons_succ]
    refine wpAnyH_ready (rs := [5]) (by kernel_rfl) (by simp) (AllReadyH.cons rfl (fun K hK => ?_) AllReadyH.nil)
    simp only [List.getElem_toArray, List.getElem_cons_succ, List.getElem_cons_zero, Act.put, List.setIfInBounds_toArray, List.set_cons_zero, List.set_cons_succ]
    go_simp
    refine (rblock_n l0 l1 n _ A0 A1 _ _ c0 c1 HFL.out.1 HFL.out.2 (y0.nx (next hbw4 hbd)) (y1.nx (next hbw4 hbd)) p0 p1 z0 z1 hn B HBC.out).mono ?_
    rintro e w5 ⟨X5, d5, rfl, h5⟩
    have hb5 := next hbd h5.below
    have hq5 := u8_str h5.sl d5
    replace hS := HSI.out _ hb5
    refine hK.out _ _ hS (fun _ => ?_)
    clear hK K hbd h5
    refine wpAnyH_ready (rs := [6]) (by kernel_rfl) (by simp) (AllReadyH.cons rfl (fun K hK => ?_) AllReadyH.nil)
    simp only [List.getElem_toArray, List.getElem_cons_succ, List.getElem_cons_zero, Act.put, List.setIfInBounds_toArray, List.set_cons_zero, List.set_cons_succ]
    rw [if_pos (by rfl)]
    refine wp_convert _ _ _ rfl _ _ rfl hq5 ?_
    refine hK.out _ _ hS (fun _ => ?_)
    clear hK K hq5
    simp only [List.getElem_toArray, List.getElem_cons_succ, List.getElem_cons_zero, Act.put, List.setIfInBounds_toArray, List.set_cons_zero, List.set_cons_succ]
    refine wpAnyH_take (i := 7) (v := (.bool true)) rfl (by kernel_rfl) (by kernel_rfl) (by kernel_rfl) (fun _ _ _ h => h) (Or.inl ⟨by rfl, fun _ hSw => by go_simp⟩) hS ?_
    simp only [List.getElem_toArray, List.getElem_cons_succ, List.getElem_cons_zero, Act.put, List.setIfInBounds_toArray, List.set_cons_zero, List.set_cons_succ]
    refine wpAnyH_take (i := 8) (v := (.bool true)) rfl (by kernel_rfl) (by kernel_rfl) (by kernel_rfl) (fun _ _ _ h => h) (Or.inl ⟨by rfl, fun _ hSw => by go_simp⟩) hS ?_
    simp only [List.getElem_toArray, List.getElem_cons_succ, List.getElem_cons_zero, Act.put, List.setIfInBounds_toArray, List.set_cons_zero, List.set_cons_succ]
    refine wpAnyH_take (i := 9) (v := (.int .i64 E)) rfl (by kernel_rfl) (by kernel_rfl) (by kernel_rfl) (fun _ _ _ h => h) (Or.inl ⟨by rfl, fun _ hSw => by go_simp⟩) hS ?_
    simp only [List.getElem_toArray, List.getElem_cons_succ, List.getElem_cons_zero, Act.put, List.setIfInBounds_toArray, List.set_cons_zero, List.set_cons_succ]
    refine wpAnyH_take (i := 10) (v := (.bool true)) rfl (by kernel_rfl) (by kernel_rfl) (by kernel_rfl) (fun _ _ _ h => h) (Or.inl ⟨by rfl, fun _ hSw => by go_simp⟩) hS ?_
    simp only [List.getElem_toArray, List.getElem_cons_succ, List.getElem_cons_zero, Act.put, List.setIfInBounds_toArray, List.set_cons_zero, List.set_cons_succ]
    refine wpAnyH_take (i := 11) (v := (.bool true)) rfl (by kernel_rfl) (by kernel_rfl) (by kernel_rfl) (fun _ _ _ h => h) (Or.inl ⟨by rfl, fun _ hSw => by go_simp⟩) hS ?_
    simp only [List.getElem_toArray, List.getElem_cons_succ, List.getElem_cons_zero, Act.put, List.setIfInBounds_toArray, List.set_cons_zero, List.set_cons_succ]
    refine wpAnyH_take (i := 12) (v := (.bool true)) rfl (by kernel_rfl) (by kernel_rfl) (by kernel_rfl) (fun _ _ _ h => h) (Or.inl ⟨by rfl, fun _ hSw => by go_simp⟩) hS ?_
    simp only [List.getElem_toArray, List.getElem_cons_succ, List.getElem_cons_zero, Act.put, List.setIfInBounds_toArray, List.set_cons_zero, List.set_cons_succ]
    refine wpAnyH_ready (rs := [13]) (by kernel_rfl) (by simp) (AllReadyH.cons rfl (fun K hK => ?_) AllReadyH.nil)
    simp only [List.getElem_toArray, List.getElem_cons_succ, List.getElem_cons_zero, Act.put, List.setIfInBounds_toArray, List.set_cons_zero, List.set_cons_succ]
    go_simp
    refine (awake5_any _ (HT.out.next (next hbw4 hb5))).mono ?_
    rintro e w9 ⟨rfl, hb9⟩
    have hb10 := next hb5 hb9
    replace hS := HSI.out _ hb10
    refine hK.out _ _ hS (fun _ => ?_)
    clear hK K hb5 hb9
    refine wpAnyH_take (i := 14) (v := (.bool true)) rfl (by kernel_rfl) (by kernel_rfl) (by kernel_rfl) (fun _ _ _ h => h) (Or.inl ⟨by rfl, fun _ hSw => by go_simp⟩) hS ?_
    simp only [List.getElem_toArray, List.getElem_cons_succ, List.getElem_cons_zero, Act.put, List.setIfInBounds_toArray, List.set_cons_zero, List.set_cons_succ]
    refine wpAnyH_take (i := 15) (v := (.bool true)) rfl (by kernel_rfl) (by kernel_rfl) (by kernel_rfl) (fun _ _ _ h => h) (Or.inl ⟨by rfl, fun _ hSw => by go_simp⟩) hS ?_
    simp only [List.getElem_toArray, List.getElem_cons_succ, List.getElem_cons_zero, Act.put, List.setIfInBounds_toArray, List.set_cons_zero, List.set_cons_succ]
    refine wpAnyH_done (by kernel_rfl) ?_ _
    go_wp2
    go_ret
    exact ⟨rfl, next hbw4 hb10⟩
  · rw [hq]
    have HBC := Lib.hid hBc
    clear hq hBc hfit
    have hEE : (E == 1) = true := by rw [hEc]; rfl
    clear hEc
    have hbz : cb (List.replicate 64 0) = cb B := by rw [HBC.out]
    have hbu := built_blockZ
    rw [hbz] at hbu
    have HBU := Lib.hid hbu
    clear hbz hbu
    go_wp2_with (first
      | (refine wpList_load_mid rfl 25 _ rfl _ _ rfl (cb B) _ bb.whole Tryd.underlying25 rfl (by rw [size_block, cb_len, HBL.out]) ?_)
      | (refine wpList_build_to rfl 25 _ rfl (cb B) HBU.out ?_)
      | (refine wpList_exec rfl (.bool true) (exec_eql_block _ _ _ _ rfl B HBL.out rfl rfl) ?_))
    refine (awake5_any _ (HT.out.next hbw4)).mono ?_
    rintro e w9 ⟨rfl, hb9⟩
    go_wp2
    go_ret
    exact ⟨rfl, next hbw4 hb9⟩

end Go.Proofs.YtnhpamfmbledmaaDoor
