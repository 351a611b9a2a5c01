/- The document's source: More, Draw. -/
import Derived.Test.YtmemgiekkedeoaaLE
import Derived.Deep.SlicePairs
namespace Go.Proofs.Ytmemgiekkedeoaa
set_option maxRecDepth 100000
open Go.RowKit
set_option linter.unusedVariables false
set_option linter.unusedSimpArgs false

/-- append onto a slice of the call's own, of a slice that reads as cells, as a step of a drawn region. -/
theorem wp_appendS {P : Program} {o : Oper} {a : Act} {w : World} {K : Act → World → Prop} {Q : Exit → Act → World → Prop} (s x : Operand) (t : TypeId)
    (ho : o.op = .call { callee := .builtin .append, args := #[s, x], argTypes := #[t, t] })
    (base : Nat) (e : TypeId) (i : TypeInfo) (z : Value) (bytes : Nat) (ht : P.underlying t = some (.slice e)) (hi : P.info? e = some i) (hz : i.zero = some z)
    (hsize : i.size = 1) (hby : i.bytes = bytes) (hzs : z.cells.size = 1)
    (v : Value) (n : Nat) (xs : List Value) (hs : a.eval s = v) (hown : w.ownsRow base e 1 v n xs)
    (B : Nat) (A : Option Addr) (m c : Nat) (news : List Value) (hx : a.eval x = .slice A m c) (hr : Sl w B A m news) (hc : A = none → c = 0) (h1 : ∀ u ∈ news, u.oneCell' = true)
    (h63 : n + m ≤ maxLen) (hbytes : (n + m) * bytes ≤ 140737488355328) (hbase : base ≤ w.heap.size)
    (h : ∀ v' w', w'.ownsRow base e 1 v' (n + m) (xs ++ news) → w.grownBy w' v.ownBlock → (v'.ownBlock = v.ownBlock ∨ v'.ownBlock = some w.heap.size) → K (a.put o.dst v') w') : Oper.wp P o a w K Q := by
  obtain ⟨v', w', hrun, h2, h3, h4⟩ := run_append_sl (P := P) w base t o.type e i z bytes ht hi hz hsize hby hzs v n xs hown B A m c news hr hc h1 h63 hbytes hbase
  unfold Oper.wp execOp
  simp only [ho, resolve, invoke, builtin, Sem.run_bind, Sem.run_pure, Result.andThen_ok, List.map_toArray, List.map_cons, List.map_nil, hs, hx, hrun]
  exact h v' w' h2 h3 h4

/-- The cells of a source of the document's. -/
def rsC (R : Option Addr) (rn rc : Nat) (rd : Int) : List Value := [.slice R rn rc, .int .i64 rd]
theorem rsC_one (R : Option Addr) (rn rc : Nat) (rd : Int) : ∀ v ∈ rsC R rn rc rd, v.oneCell' = true := by
  intro v hv
  simp only [rsC, List.mem_cons, List.not_mem_nil, or_false] at hv
  rcases hv with rfl | rfl <;> rfl

theorem size_rs : (Try.prog.info? 29).map (·.size) = some 2 := by kernel_rfl

theorem built_rs (R : Option Addr) (rn rc : Nat) (rd : Int) : Try.prog.built 29 [(0, .slice R rn rc), (1, .int .i64 rd)] = some (rsC R rn rc rd).toArray := by kernel_rfl

set_option maxHeartbeats 1000000 in
theorem rmore8_any (l m : List UInt8) (rd : Int) (w : World) (R M : Option Addr) (rn rc mn mc : Nat) (h : Sl w w.heap.size R rn (cb l)) (hz : R = none → rc = 0) (hm : Sl w w.heap.size M mn (cb m)) (zm : M = none → mc = 0) (hsum : rn + mn ≤ 1000000) :
    Calls Try.prog 17 #[.agg #[.slice R rn rc, .int .i64 rd], .slice M mn mc] w fun e w' => ∃ X cx, e = .returned (.agg (rsC X (rn + mn) cx rd).toArray) ∧ NewBytes 5 w (rn + mn) (l ++ m) X cx w' := by
  obtain ⟨i0, hi, hz0, hz1, hz2⟩ := info_parts u8_info
  obtain ⟨b0, b1, hsz, hb0⟩ := two_new w (rsC R rn rc rd) (rsC none 0 0 0) 29 29
  obtain ⟨W1, hW1⟩ : ∃ W, W = ((w.alloc (.cells (rsC R rn rc rd).toArray 29)).alloc (.cells (rsC none 0 0 0).toArray 29)) := ⟨_, rfl⟩
  rw [← hW1] at b0 b1 hsz hb0
  have HW1 : Hid (((w.alloc (.cells #[.slice R rn rc, .int .i64 rd] 29)).alloc (.cells #[.slice none 0 0, .int .i64 0] 29)) = W1) := hW1.symm
  have HSZ := Lib.hid hsz
  clear hW1 hsz
  obtain ⟨S, hSd⟩ : ∃ S : World → Prop, S = fun w' => Bl w' w.heap.size (rsC R rn rc rd) 29 := ⟨_, rfl⟩
  have HSI : Hid (∀ w', Bl w' w.heap.size (rsC R rn rc rd) 29 → S w') := by unfold Hid; intro w' hb; rw [hSd]; exact hb
  have HS0 : Hid (∀ w', S w' → w'.cell? ⟨w.heap.size, 0, none⟩ = some (.slice R rn rc)) := by unfold Hid; intro w' h; rw [hSd] at h; rw [h.cell]; rfl
  have HS1 : Hid (∀ w', S w' → w'.cell? ⟨w.heap.size, 1, none⟩ = some (.int .i64 rd)) := by unfold Hid; intro w' h; rw [hSd] at h; rw [h.cell]; rfl
  clear hSd
  go_enter Try.func17, Try.ntmps17
  go_wp2_with fail
  rw [HW1.out]
  obtain ⟨W2, hW2⟩ : ∃ W, W = W1.drew := ⟨_, rfl⟩
  have hbd : Below W1.heap.size W1 W2 := by rw [hW2]; exact (Below.refl _ W1).drew
  have hsz2 : W2.heap.size = w.heap.size + 2 := by rw [hW2, ← HSZ.out]; rfl
  replace b0 := b0.next hbd
  replace b1 := b1.next hbd
  replace hb0 := next hb0 hbd
  have hS := HSI.out _ b0
  refine wp_region_held_drew (S := S) (by kernel_rfl) (by rw [← hW2]; exact hS) (fun _ => ?_)
  rw [← hW2]
  clear hW2 hbd HW1
  refine wpAnyH_take (i := 1) (v := (.pointer (some ⟨w.heap.size, 0, none⟩))) rfl (by kernel_rfl) (by kernel_rfl) (by kernel_rfl) (fun _ _ _ h => h) (Or.inl ⟨by rfl, fun _ hSw => by go_simp⟩) hS ?_
  simp only [List.getElem_toArray, List.getElem_cons_succ, List.getElem_cons_zero, Act.put, List.setIfInBounds_toArray, List.set_cons_zero, List.set_cons_succ]
  refine wpAnyH_take (i := 2) (v := .slice R rn rc) rfl (by kernel_rfl) (by kernel_rfl) (by kernel_rfl) (fun _ _ _ h => h) (Or.inl ⟨by rfl, fun w' hSw => by have hq := HS0.out w' hSw; go_simp⟩) hS ?_
  simp only [List.getElem_toArray, List.getElem_cons_succ, List.getElem_cons_zero, Act.put, List.setIfInBounds_toArray, List.set_cons_zero, List.set_cons_succ]
  refine wpAnyH_take (i := 4) (v := (.slice M mn mc)) rfl (by kernel_rfl) (by kernel_rfl) (by kernel_rfl) (fun _ _ _ h => h) (Or.inl ⟨by rfl, fun _ hSw => by go_simp⟩) hS ?_
  simp only [List.getElem_toArray, List.getElem_cons_succ, List.getElem_cons_zero, Act.put, List.setIfInBounds_toArray, List.set_cons_zero, List.set_cons_succ]
  refine wpAnyH_take (i := 6) (v := (.pointer (some ⟨w.heap.size, 1, none⟩))) rfl (by kernel_rfl) (by kernel_rfl) (by kernel_rfl) (fun _ _ _ h => h) (Or.inl ⟨by rfl, fun _ hSw => by go_simp⟩) hS ?_
  simp only [List.getElem_toArray, List.getElem_cons_succ, List.getElem_cons_zero, Act.put, List.setIfInBounds_toArray, List.set_cons_zero, List.set_cons_succ]
  refine wpAnyH_take (i := 7) (v := .int .i64 rd) rfl (by kernel_rfl) (by kernel_rfl) (by kernel_rfl) (fun _ _ _ h => h) (Or.inl ⟨by rfl, fun w' hSw => by have hq := HS1.out w' hSw; go_simp⟩) hS ?_
  simp only [List.getElem_toArray, List.getElem_cons_succ, List.getElem_cons_zero, Act.put, List.setIfInBounds_toArray, List.set_cons_zero, List.set_cons_succ]
  refine wpAnyH_ready (rs := [0]) (by kernel_rfl) (by simp) (AllReadyH.cons rfl (fun K hK => ?_) AllReadyH.nil)
  simp only [List.getElem_toArray, List.getElem_cons_succ, List.getElem_cons_zero, Act.put, List.setIfInBounds_toArray, List.set_cons_zero, List.set_cons_succ]
  go_simp
  have own3 := World.ownsRow_lit (base := w.heap.size + 2) (e := 5) (size := 1) W2 #[] 0 (by omega) (by decide) rfl
  rw [hsz2] at own3
  replace b0 := b0.alloc (.cells #[] 5)
  replace b1 := b1.alloc (.cells #[] 5)
  replace hb0 := hb0.alloc (by omega) (.cells #[] 5)
  have hsz3 : (W2.alloc (.cells #[] 5)).heap.size = w.heap.size + 3 := by simp [hsz2]
  obtain ⟨W3, hW3⟩ : ∃ W, W = W2.alloc (.cells #[] 5) := ⟨_, rfl⟩
  rw [← hW3] at own3 b0 b1 hb0 hsz3 ⊢
  clear hW3 hsz2
  replace hS := HSI.out _ b0
  refine hK.out _ _ hS (fun _ => ?_)
  clear hK K
  refine wpAnyH_ready (rs := [3]) (by kernel_rfl) (by simp) (AllReadyH.cons rfl (fun K hK => ?_) AllReadyH.nil)
  simp only [List.getElem_toArray, List.getElem_cons_succ, List.getElem_cons_zero, Act.put, List.setIfInBounds_toArray, List.set_cons_zero, List.set_cons_succ]
  rw [if_pos (by rfl)]
  refine wp_appendS _ _ 22 rfl (w.heap.size + 2) 5 i0 (.int .u8 0) 1 Try.underlying22 hi hz0 hz1 hz2 rfl _ 0 [] rfl own3 _ R rn rc (cb l) rfl (h.nx hb0) hz (cb_one _) (by unfold maxLen; omega) (by omega) (by omega) ?_
  intro v4 w4 own4 gr4 _
  rw [Nat.zero_add, List.nil_append] at own4
  replace hb0 : Below w.heap.size w w4 := hb0.grown gr4 (by omega) (fun k hk => by have := own_blk own3 hk; omega)
  replace b0 := b0.grown gr4 (fun e => by have := own_blk own3 e; omega)
  replace b1 := b1.grown gr4 (fun e => by have := own_blk own3 e; omega)
  have hsz4 := gr4.size
  replace hS := HSI.out _ b0
  obtain ⟨A4, c4, rfl⟩ := own_form own4
  refine hK.out _ _ hS (fun _ => ?_)
  clear hK K own3 gr4
  simp only [List.getElem_toArray, List.getElem_cons_succ, List.getElem_cons_zero, Act.put, List.setIfInBounds_toArray, List.set_cons_zero, List.set_cons_succ]
  refine wpAnyH_ready (rs := [5]) (by kernel_rfl) (by simp) (AllReadyH.cons rfl (fun K hK => ?_) AllReadyH.nil)
  simp only [List.getElem_toArray, List.getElem_cons_succ, List.getElem_cons_zero, Act.put, List.setIfInBounds_toArray, List.set_cons_zero, List.set_cons_succ]
  rw [if_pos (by rfl)]
  refine wp_appendS _ _ 22 rfl (w.heap.size + 2) 5 i0 (.int .u8 0) 1 Try.underlying22 hi hz0 hz1 hz2 rfl _ rn (cb l) rfl own4 _ M mn mc (cb m) rfl (hm.nx hb0) zm (cb_one _) (by unfold maxLen; omega) (by omega) (by omega) ?_
  intro v5 w5 own5 gr5 _
  rw [← cb_append] at own5
  replace hb0 : Below w.heap.size w w5 := hb0.grown gr5 (by omega) (fun k hk => by have := own_blk own4 hk; omega)
  replace b0 := b0.grown gr5 (fun e => by have := own_blk own4 e; omega)
  replace b1 := b1.grown gr5 (fun e => by have := own_blk own4 e; omega)
  replace hS := HSI.out _ b0
  obtain ⟨A5, c5, rfl⟩ := own_form own5
  refine hK.out _ _ hS (fun _ => ?_)
  clear hK K own4 gr5
  simp only [List.getElem_toArray, List.getElem_cons_succ, List.getElem_cons_zero, Act.put, List.setIfInBounds_toArray, List.set_cons_zero, List.set_cons_succ]
  refine wpAnyH_take (i := 8) (v := .agg (rsC A5 (rn + mn) c5 rd).toArray) rfl (by kernel_rfl) (by kernel_rfl) (by kernel_rfl) (fun _ _ _ h => h) (Or.inl ⟨by rfl, fun w' _ => exec_build 29 #[(0, .tmp 10), (1, .tmp 12)] rfl _ (built_rs A5 (rn + mn) c5 rd) w'⟩) hS ?_
  simp only [List.getElem_toArray, List.getElem_cons_succ, List.getElem_cons_zero, Act.put, List.setIfInBounds_toArray, List.set_cons_zero, List.set_cons_succ]
  refine wpAnyH_ready (rs := [9]) (by kernel_rfl) (by simp) (AllReadyH.cons rfl (fun K hK => ?_) AllReadyH.nil)
  simp only [List.getElem_toArray, List.getElem_cons_succ, List.getElem_cons_zero, Act.put, List.setIfInBounds_toArray, List.set_cons_zero, List.set_cons_succ]
  rw [if_pos (by rfl)]
  refine wp_store_mid 29 _ _ rfl _ _ (rsC A5 (rn + mn) c5 rd).toArray rfl rfl (b1.there_ (by simp [rsC])) (by rw [size_rs]; rfl) (all_oneCell_toArray (rsC_one _ _ _ _)) ?_
  have hfin := b1.over (vs := rsC A5 (rn + mn) c5 rd) rfl
  have hbf := below_setCells hb0 (show w.heap.size ≤ w.heap.size + 1 by omega) 0 (rsC A5 (rn + mn) c5 rd)
  have b0f := b0.sets_other (g := w.heap.size + 1) (by omega) 0 (rsC A5 (rn + mn) c5 rd)
  have hown := own_keep own5 (w' := w5.setCells (w.heap.size + 1) 0 (rsC A5 (rn + mn) c5 rd)) (fun k hk => heap_setCells_other _ _ (by have := own_blk own5 hk; omega) _ _ _)
  replace hS := HSI.out _ b0f
  refine hK.out _ _ hS (fun _ => ?_)
  clear hK K
  simp only [List.getElem_toArray, List.getElem_cons_succ, List.getElem_cons_zero, Act.put, List.setIfInBounds_toArray, List.set_cons_zero, List.set_cons_succ]
  refine wpAnyH_done (by kernel_rfl) ?_ _
  go_wp2
  exact ret_row Try.results17 rfl hfin Try.underlying29 rfl (by rw [size_rs]; rfl) rfl ⟨A5, c5, rfl, own_down hown (by omega), hbf⟩

theorem results_cell_two {fn : Func} {p u v : Tmp} {ty : TypeId} (h : fn.results = #[.cell p ty, .tmp u, .tmp v]) (tmps : Array Value) (P : Program) (w : World) :
    (results fn tmps).run P w =
      ((asAddr (tmps.getD p undef)).run P w).andThen fun a w₁ => ((loadVar ty a).run P w₁).andThen fun x w₂ => .ok (.tuple #[x, tmps.getD u undef, tmps.getD v undef]) w₂ := by
  simp only [results, h]
  simp [Sem.run_bind, Result.andThen]

theorem ret_row_two {P : Program} {fn : Func} {R : Ending → World → Prop} {a : Act} {w : World} {p u v : Tmp} {ty : TypeId} {g : Nat} {cs : List Value} {t : TypeId} {d : TypeDesc} (hres : fn.results = #[.cell p ty, .tmp u, .tmp v])
    (hp : a.tmps.getD p undef = .pointer (some ⟨g, 0, none⟩)) (hb : Bl w g cs t) (hu : P.underlying ty = some d) (hd : d.isRow = true) (hi : (P.info? ty).map (·.size) = some cs.length)
    (hdf : a.defers = []) (hR : R (.returned (.tuple #[.agg cs.toArray, a.tmps.getD u undef, a.tmps.getD v undef])) w) : bodyPost P fn R .ret a w := by
  refine bodyPost_ret ?_ hdf hR
  rw [results_cell_two hres, hp]
  simp only [asAddr, Sem.run_pure, Result.andThen_ok]
  rw [run_loadVar_mid w g 0 ty cs d hb.whole hu hd hi]
  rfl

/-- What the document's Draw tells. -/
def RDrawPost (w : World) (R : Option Addr) (rn : Nat) (l : List UInt8) (rd : Nat) (N : Int) (e : Ending) (w' : World) : Prop :=
  ∃ R' rn' rc' X k cx, e = .returned (.tuple #[.agg (rsC R' rn' rc' ((rd + k : Nat) : Int)).toArray, .slice X k cx, .int .i64 (drawE l N)]) ∧ Sl w' w'.heap.size R' rn' (cb (drawR l N)) ∧ rn' ≤ rc' ∧ (R' = none → rc' = 0) ∧ Cut rn R rn' R' ∧ Sl w' w'.heap.size X k (cb (drawL l N)) ∧ Cut rn R k X ∧ Below w.heap.size w w'

theorem rdraw_none {w w' : World} {R : Option Addr} {rn rc rd : Nat} {l : List UInt8} {N : Int} (h : Sl w w.heap.size R rn (cb l)) (hc : rn ≤ rc) (hz : R = none → rc = 0) (hb : Below w.heap.size w w') (e : Int) (he : drawE l N = e) (h0 : e ≠ 0) : RDrawPost w R rn l rd N (.returned (.tuple #[.agg (rsC R rn rc (rd : Int)).toArray, .slice none 0 0, .int .i64 e])) w' := by
  have h1 := draw_none (l := l) (N := N) (by rw [he]; exact h0)
  refine ⟨R, rn, rc, none, 0, 0, by rw [he]; rfl, ?_, hc, hz, Cut.refl rn R, ?_, cut_none _ _ _, hb⟩
  · rw [h1.2]; exact h.nx hb
  · rw [h1.1]; exact Sl.nil_

set_option maxHeartbeats 1000000 in
theorem rdraw8_any (l : List UInt8) (rd : Nat) (N : Int) (w : World) (R : Option Addr) (rn rc : Nat) (h : Sl w w.heap.size R rn (cb l)) (hc : rn ≤ rc) (hz : R = none → rc = 0) (hd : rd + rn ≤ 1000000000) :
    Calls Try.prog 18 #[.agg #[.slice R rn rc, .int .i64 (rd : Int)], .int .i64 N] w (RDrawPost w R rn l rd N) := by
  have hn : rn = l.length := by rw [← h.1, cb_len]
  have HN := Lib.hid hn
  clear hn
  obtain ⟨b0, b1, hsz, hb0⟩ := two_new w (rsC R rn rc rd) (rsC none 0 0 0) 29 29
  obtain ⟨W1, hW1⟩ : ∃ W, W = ((w.alloc (.cells (rsC R rn rc rd).toArray 29)).alloc (.cells (rsC none 0 0 0).toArray 29)) := ⟨_, rfl⟩
  rw [← hW1] at b0 b1 hsz hb0
  have HW1 : Hid (((w.alloc (.cells #[.slice R rn rc, .int .i64 (rd : Int)] 29)).alloc (.cells #[.slice none 0 0, .int .i64 0] 29)) = W1) := hW1.symm
  clear hW1 hsz
  have hc0 : W1.cell? ⟨w.heap.size, 0, none⟩ = some (.slice R rn rc) := by rw [b0.cell]; rfl
  have hc1 : W1.cell? ⟨w.heap.size, 1, none⟩ = some (.int .i64 (rd : Int)) := by rw [b0.cell]; rfl
  have hfin := b1.over (vs := rsC R rn rc rd) rfl
  have hbf := below_setCells hb0 (show w.heap.size ≤ w.heap.size + 1 by omega) 0 (rsC R rn rc rd)
  by_cases h1 : N < 0 ∨ 4096 < N
  · have HE : Hid (drawE l N = 1) := by unfold Hid drawE; rw [if_pos h1]
    rcases h1 with h1 | h1
    · go_enter Try.func18, Try.ntmps18
      go_wp2_with (first
        | (refine wpList_load_mid rfl 29 _ rfl _ _ rfl (rsC R rn rc rd) _ b0.whole Try.underlying29 rfl size_rs ?_)
        | (refine wpList_store_mid rfl 29 _ _ rfl _ _ (rsC R rn rc rd).toArray rfl rfl (b1.there_ (by simp [rsC])) size_rs (all_oneCell_toArray (rsC_one _ _ _ _)) ?_)
        | (rw [HW1.out]))
      exact ret_row_two Try.results18 rfl hfin Try.underlying29 rfl size_rs rfl (rdraw_none h hc hz hbf 1 HE.out (by decide))
    · have h2 : ¬ N < 0 := by omega
      go_enter Try.func18, Try.ntmps18
      go_wp2_with (first
        | (refine wpList_load_mid rfl 29 _ rfl _ _ rfl (rsC R rn rc rd) _ b0.whole Try.underlying29 rfl size_rs ?_)
        | (refine wpList_store_mid rfl 29 _ _ rfl _ _ (rsC R rn rc rd).toArray rfl rfl (b1.there_ (by simp [rsC])) size_rs (all_oneCell_toArray (rsC_one _ _ _ _)) ?_)
        | (rw [HW1.out]))
      exact ret_row_two Try.results18 rfl hfin Try.underlying29 rfl size_rs rfl (rdraw_none h hc hz hbf 1 HE.out (by decide))
  · have h2 : ¬ N < 0 := by omega
    have h3 : ¬ 4096 < N := by omega
    by_cases h4 : (rn : Int) < N
    · have HE : Hid (drawE l N = 9) := by unfold Hid drawE; rw [if_neg h1, if_pos (by rw [← HN.out]; exact h4)]
      clear h1
      go_enter Try.func18, Try.ntmps18
      go_wp2_with (first
        | (refine wpList_load_mid rfl 29 _ rfl _ _ rfl (rsC R rn rc rd) _ b0.whole Try.underlying29 rfl size_rs ?_)
        | (refine wpList_store_mid rfl 29 _ _ rfl _ _ (rsC R rn rc rd).toArray rfl rfl (b1.there_ (by simp [rsC])) size_rs (all_oneCell_toArray (rsC_one _ _ _ _)) ?_)
        | (rw [HW1.out]))
      exact ret_row_two Try.results18 rfl hfin Try.underlying29 rfl size_rs rfl (rdraw_none h hc hz hbf 9 HE.out (by decide))
    · have HE : Hid (drawE l N = 0) := by unfold Hid drawE; rw [if_neg h1, if_neg (by rw [← HN.out]; exact h4)]
      clear h1
      obtain ⟨k, rfl⟩ : ∃ k : Nat, N = (k : Int) := ⟨N.toNat, by omega⟩
      have HL : Hid (drawL l (k : Int) = l.take k) := by unfold Hid drawL; rw [if_pos HE.out]; simp
      have HR : Hid (drawR l (k : Int) = l.drop k) := by unfold Hid drawR; rw [if_pos HE.out]; simp
      have hkn : k ≤ rn := by omega
      have hdk : rd + k ≤ 1000000000 := by omega
      obtain ⟨D, hD⟩ : ∃ D : Int, D = ((rd + k : Nat) : Int) := ⟨_, rfl⟩
      have HD := Lib.hid hD
      clear hD
      obtain ⟨R2, hR2⟩ : ∃ X, X = if rc = k then R else R.map (·.add k) := ⟨_, rfl⟩
      have HR2 := Lib.hid hR2
      clear hR2 hfin hbf
      obtain ⟨S, hSd⟩ : ∃ S : World → Prop, S = fun w' => Bl w' w.heap.size (rsC R rn rc rd) 29 := ⟨_, rfl⟩
      have HSI : Hid (∀ w', Bl w' w.heap.size (rsC R rn rc rd) 29 → S w') := by unfold Hid; intro w' hb; rw [hSd]; exact hb
      have HS0 : Hid (∀ w', S w' → w'.cell? ⟨w.heap.size, 0, none⟩ = some (.slice R rn rc)) := by unfold Hid; intro w' h; rw [hSd] at h; rw [h.cell]; rfl
      have HS1 : Hid (∀ w', S w' → w'.cell? ⟨w.heap.size, 1, none⟩ = some (.int .i64 (rd : Int))) := by unfold Hid; intro w' h; rw [hSd] at h; rw [h.cell]; rfl
      clear hSd
      go_enter Try.func18, Try.ntmps18
      go_wp2_with (rw [HW1.out])
      obtain ⟨W2, hW2⟩ : ∃ W, W = W1.drew := ⟨_, rfl⟩
      have hbd : Below W1.heap.size W1 W2 := by rw [hW2]; exact (Below.refl _ W1).drew
      replace b0 := b0.next hbd
      replace b1 := b1.next hbd
      replace hb0 := next hb0 hbd
      have hS := HSI.out _ b0
      refine wp_region_held_drew (S := S) (by kernel_rfl) (by rw [← hW2]; exact hS) (fun _ => ?_)
      rw [← hW2]
      clear hW2 hbd HW1
      refine wpAnyH_take (i := 0) (v := (.pointer (some ⟨w.heap.size, 0, none⟩))) rfl (by kernel_rfl) (by kernel_rfl) (by kernel_rfl) (fun _ _ _ h => h) (Or.inl ⟨by rfl, fun _ hSw => by go_simp⟩) hS ?_
      simp only [List.getElem_toArray, List.getElem_cons_succ, List.getElem_cons_zero, Act.put, List.setIfInBounds_toArray, List.set_cons_zero, List.set_cons_succ]
      refine wpAnyH_take (i := 1) (v := .slice R rn rc) rfl (by kernel_rfl) (by kernel_rfl) (by kernel_rfl) (fun _ _ _ h => h) (Or.inl ⟨by rfl, fun w' hSw => by have hq := HS0.out w' hSw; go_simp⟩) hS ?_
      simp only [List.getElem_toArray, List.getElem_cons_succ, List.getElem_cons_zero, Act.put, List.setIfInBounds_toArray, List.set_cons_zero, List.set_cons_succ]
      refine wpAnyH_take (i := 2) (v := (.int .i64 (k : Int))) rfl (by kernel_rfl) (by kernel_rfl) (by kernel_rfl) (fun _ _ _ h => h) (Or.inl ⟨by rfl, fun _ hSw => by go_simp⟩) hS ?_
      simp only [List.getElem_toArray, List.getElem_cons_succ, List.getElem_cons_zero, Act.put, List.setIfInBounds_toArray, List.set_cons_zero, List.set_cons_succ]
      refine wpAnyH_take (i := 3) (v := .slice R2 (rn - k) (rc - k)) rfl (by kernel_rfl) (by kernel_rfl) (by kernel_rfl) (fun _ _ _ h => h) (Or.inl ⟨by rfl, fun w' _ => exec_slice_from w' 22 5 _ _ rfl Try.underlying22 u8_size R rn rc k .i64 _ rfl rfl rfl hkn hc hz R2 HR2.out⟩) hS ?_
      simp only [List.getElem_toArray, List.getElem_cons_succ, List.getElem_cons_zero, Act.put, List.setIfInBounds_toArray, List.set_cons_zero, List.set_cons_succ]
      refine wpAnyH_take (i := 4) (v := (.pointer (some ⟨w.heap.size, 1, none⟩))) rfl (by kernel_rfl) (by kernel_rfl) (by kernel_rfl) (fun _ _ _ h => h) (Or.inl ⟨by rfl, fun _ hSw => by go_simp⟩) hS ?_
      simp only [List.getElem_toArray, List.getElem_cons_succ, List.getElem_cons_zero, Act.put, List.setIfInBounds_toArray, List.set_cons_zero, List.set_cons_succ]
      refine wpAnyH_take (i := 5) (v := .int .i64 (rd : Int)) rfl (by kernel_rfl) (by kernel_rfl) (by kernel_rfl) (fun _ _ _ h => h) (Or.inl ⟨by rfl, fun w' hSw => by have hq := HS1.out w' hSw; go_simp⟩) hS ?_
      simp only [List.getElem_toArray, List.getElem_cons_succ, List.getElem_cons_zero, Act.put, List.setIfInBounds_toArray, List.set_cons_zero, List.set_cons_succ]
      refine wpAnyH_take (i := 6) (v := (.int .i64 (k : Int))) rfl (by kernel_rfl) (by kernel_rfl) (by kernel_rfl) (fun _ _ _ h => h) (Or.inl ⟨by rfl, fun _ hSw => by go_simp⟩) hS ?_
      simp only [List.getElem_toArray, List.getElem_cons_succ, List.getElem_cons_zero, Act.put, List.setIfInBounds_toArray, List.set_cons_zero, List.set_cons_succ]
      refine wpAnyH_take (i := 7) (v := (.int .i64 D)) rfl (by kernel_rfl) (by kernel_rfl) (by kernel_rfl) (fun _ _ _ h => h) (Or.inl ⟨by rfl, fun _ hSw => by go_simp; rw [IntKind.wrap_i64, HD.out]; omega⟩) hS ?_
      simp only [List.getElem_toArray, List.getElem_cons_succ, List.getElem_cons_zero, Act.put, List.setIfInBounds_toArray, List.set_cons_zero, List.set_cons_succ]
      refine wpAnyH_take (i := 8) (v := .agg (rsC R2 (rn - k) (rc - k) D).toArray) rfl (by kernel_rfl) (by kernel_rfl) (by kernel_rfl) (fun _ _ _ h => h) (Or.inl ⟨by rfl, fun w' _ => exec_build 29 #[(0, .tmp 23), (1, .tmp 27)] rfl _ (built_rs R2 (rn - k) (rc - k) _) w'⟩) hS ?_
      simp only [List.getElem_toArray, List.getElem_cons_succ, List.getElem_cons_zero, Act.put, List.setIfInBounds_toArray, List.set_cons_zero, List.set_cons_succ]
      refine wpAnyH_take (i := 9) (v := (.pointer (some ⟨w.heap.size, 0, none⟩))) rfl (by kernel_rfl) (by kernel_rfl) (by kernel_rfl) (fun _ _ _ h => h) (Or.inl ⟨by rfl, fun _ hSw => by go_simp⟩) hS ?_
      simp only [List.getElem_toArray, List.getElem_cons_succ, List.getElem_cons_zero, Act.put, List.setIfInBounds_toArray, List.set_cons_zero, List.set_cons_succ]
      refine wpAnyH_take (i := 10) (v := .slice R rn rc) rfl (by kernel_rfl) (by kernel_rfl) (by kernel_rfl) (fun _ _ _ h => h) (Or.inl ⟨by rfl, fun w' hSw => by have hq := HS0.out w' hSw; go_simp⟩) hS ?_
      simp only [List.getElem_toArray, List.getElem_cons_succ, List.getElem_cons_zero, Act.put, List.setIfInBounds_toArray, List.set_cons_zero, List.set_cons_succ]
      refine wpAnyH_take (i := 11) (v := (.int .i64 (k : Int))) rfl (by kernel_rfl) (by kernel_rfl) (by kernel_rfl) (fun _ _ _ h => h) (Or.inl ⟨by rfl, fun _ hSw => by go_simp⟩) hS ?_
      simp only [List.getElem_toArray, List.getElem_cons_succ, List.getElem_cons_zero, Act.put, List.setIfInBounds_toArray, List.set_cons_zero, List.set_cons_succ]
      refine wpAnyH_take (i := 12) (v := .slice R k rc) rfl (by kernel_rfl) (by kernel_rfl) (by kernel_rfl) (fun _ _ _ h => h) (Or.inl ⟨by rfl, fun w' _ => exec_slice_to w' 22 5 _ _ rfl Try.underlying22 u8_size R rn rc k .i64 _ rfl rfl rfl (by omega) hz⟩) hS ?_
      simp only [List.getElem_toArray, List.getElem_cons_succ, List.getElem_cons_zero, Act.put, List.setIfInBounds_toArray, List.set_cons_zero, List.set_cons_succ]
      refine wpAnyH_ready (rs := [13]) (by kernel_rfl) (by simp) (AllReadyH.cons rfl (fun K hK => ?_) AllReadyH.nil)
      simp only [List.getElem_toArray, List.getElem_cons_succ, List.getElem_cons_zero, Act.put, List.setIfInBounds_toArray, List.set_cons_zero, List.set_cons_succ]
      rw [if_pos (by rfl)]
      refine wp_store_mid 29 _ _ rfl _ _ (rsC R2 (rn - k) (rc - k) D).toArray rfl rfl (b1.there_ (by simp [rsC])) size_rs (all_oneCell_toArray (rsC_one _ _ _ _)) ?_
      have hfin := b1.over (vs := rsC R2 (rn - k) (rc - k) D) rfl
      have hbf := below_setCells hb0 (show w.heap.size ≤ w.heap.size + 1 by omega) 0 (rsC R2 (rn - k) (rc - k) D)
      have b0f := b0.sets_other (g := w.heap.size + 1) (by omega) 0 (rsC R2 (rn - k) (rc - k) D)
      obtain ⟨W9, hW9⟩ : ∃ W, W = W2.setCells (w.heap.size + 1) 0 (rsC R2 (rn - k) (rc - k) D) := ⟨_, rfl⟩
      rw [← hW9] at hfin hbf b0f
      replace hS := HSI.out _ b0f
      refine hK.out _ _ (by rw [← hW9]; exact hS) (fun _ => ?_)
      clear hK K
      simp only [List.getElem_toArray, List.getElem_cons_succ, List.getElem_cons_zero, Act.put, List.setIfInBounds_toArray, List.set_cons_zero, List.set_cons_succ]
      have hW9' : W2.setCells (w.heap.size + 1) 0 (rsC R2 (rn - k) (rc - k) D).toArray.toList = W9 := hW9.symm
      rw [hW9']
      clear hW9 hW9'
      refine wpAnyH_take (i := 14) (v := (.slice R k rc)) rfl (by kernel_rfl) (by kernel_rfl) (by kernel_rfl) (fun _ _ _ h => h) (Or.inl ⟨by rfl, fun _ hSw => by go_simp⟩) hS ?_
      simp only [List.getElem_toArray, List.getElem_cons_succ, List.getElem_cons_zero, Act.put, List.setIfInBounds_toArray, List.set_cons_zero, List.set_cons_succ]
      refine wpAnyH_take (i := 15) (v := (.int .i64 0)) rfl (by kernel_rfl) (by kernel_rfl) (by kernel_rfl) (fun _ _ _ h => h) (Or.inl ⟨by rfl, fun _ hSw => by go_simp⟩) hS ?_
      simp only [List.getElem_toArray, List.getElem_cons_succ, List.getElem_cons_zero, Act.put, List.setIfInBounds_toArray, List.set_cons_zero, List.set_cons_succ]
      refine wpAnyH_done (by kernel_rfl) ?_ _
      go_wp2
      refine ret_row_two Try.results18 rfl hfin Try.underlying29 rfl size_rs rfl ⟨R2, rn - k, rc - k, R, k, rc, by rw [HE.out, ← HD.out]; rfl, ?_, by omega, ?_, ?_, ?_, cut_head R hkn, hbf⟩
      · rw [HR.out, HR2.out, show cb (l.drop k) = (cb l).drop k by simp [cb]]
        exact sl_cut (h.nx hbf) hkn hc
      · intro e
        rw [HR2.out] at e
        split at e
        · rename_i hck; omega
        · rcases R with _ | a
          · have := hz rfl; omega
          · cases e
      · rw [HR2.out]; exact cut_tail rn k rc R
      · rw [HL.out, show cb (l.take k) = (cb l).take k by simp [cb]]
        exact sl_take (h.nx hbf) hkn

end Go.Proofs.Ytmemgiekkedeoaa

namespace Go.Proofs.Ytmemgiekkedeoaa
set_option maxRecDepth 100000
open Go.ChangeShapes Go.WideShapes Go.ChangeAt Go.RowKit
set_option linter.unusedVariables false
set_option linter.unusedSimpArgs false

/-- A step (N, More) lies at p. -/
def DoAt (w : World) (B : Nat) (p : Addr) (x : Int × List UInt8) : Prop :=
  (Lit.int .i64 x.1).wf = true ∧ p.block < B ∧ ∃ M c, w.cell? p = some (.int .i64 x.1) ∧ w.cell? (p.add 1) = some (.slice M x.2.length c) ∧ Sl w B M x.2.length (cb x.2) ∧ x.2.length ≤ c ∧ (M = none → c = 0) ∧ x.2.length ≤ maxLen

/-- Steps lie in a row at A. -/
def Dos (w : World) (B : Nat) (A : Option Addr) (ds : List (Int × List UInt8)) : Prop := ∀ j (h : j < ds.length), ∃ ad, A = some ad ∧ DoAt w B (ad.add (j * 2)) ds[j]

theorem DoAt.below {w w' : World} {B : Nat} {p : Addr} {x : Int × List UInt8} (h : DoAt w B p x) (hb : Below B w w') : DoAt w' B p x := by
  obtain ⟨h1, h2, M, c, h3, h4, h5, h6⟩ := h
  exact ⟨h1, h2, M, c, by rw [hb.cell h2]; exact h3, by rw [hb.cell (by rw [add_block]; exact h2)]; exact h4, h5.below hb, h6⟩

theorem Dos.below {w w' : World} {B : Nat} {A : Option Addr} {ds : List (Int × List UInt8)} (h : Dos w B A ds) (hb : Below B w w') : Dos w' B A ds := fun j hj => by
  obtain ⟨ad, e, h1⟩ := h j hj
  exact ⟨ad, e, h1.below hb⟩

theorem Dos.take {w : World} {B : Nat} {A : Option Addr} {ds : List (Int × List UInt8)} (h : Dos w B A ds) (k : Nat) : Dos w B A (ds.take k) := fun j hj => by
  obtain ⟨ad, e, h1⟩ := h j (by rw [List.length_take] at hj; omega)
  exact ⟨ad, e, by rw [List.getElem_take]; exact h1⟩

theorem Dos.drop {w : World} {B c : Nat} {A : Option Addr} {ds : List (Int × List UInt8)} (h : Dos w B A ds) (k : Nat) (hc : ds.length ≤ c) : Dos w B (if c = k then A else A.map (·.add (k * 2))) (ds.drop k) := fun j hj => by
  rw [List.length_drop] at hj
  obtain ⟨ad, rfl, h1⟩ := h (k + j) (by omega)
  rw [if_neg (by omega)]
  refine ⟨ad.add (k * 2), rfl, ?_⟩
  rw [add_add, List.getElem_drop, show k * 2 + j * 2 = (k + j) * 2 by omega]
  exact h1

/-- What a walk is told of steps that came in. -/
structure InDos (w : World) (A : Option Addr) (n c : Nat) (ds : List (Int × List UInt8)) : Prop where
  dos : Dos w w.heap.size A ds
  len : n = ds.length
  cap : n ≤ c
  none_ : A = none → c = 0
  room : c ≤ maxLen

theorem open_dos {H : Type} {enc : TypeId × Value → H} {P : Program} {W : World} {t e q : TypeId} {f0 f1 : Field} {A : Option Addr} {len cap : Nat} {d : DataW H} {p : List MemPlace}
    (ht : P.underlying t = some (.slice e)) (he : P.underlying e = some (.struct #[f0, f1])) (ce : P.cellsOf e = 2) (o0 : f0.offset = 0) (o1 : f1.offset = 1) (c0 : P.cellsOf f0.type = 1) (c1 : P.cellsOf f1.type = 1)
    (t0 : P.underlying f0.type = some (.int .i64)) (t1 : P.underlying f1.type = some (.slice q)) (tq : P.underlying q = some (.int .u8)) (cq : P.cellsOf q = 1)
    (h0 : DataW.Trod enc P W 0 (fun _ => true) true t (.slice A len cap) d p) (lt0 : ∀ x ∈ p, x.block < W.heap.size) : ∃ ds, InDos W A len cap ds := by
  obtain ⟨fuel, hf⟩ := h0
  rcases Deep.open_slice_pairs ht he ce o0 o1 c0 c1 hf with ⟨hcs, hx⟩ | ⟨a, l, c, m, n, V0, V1, D0, D1, P0, P1, hcs, _, hl, hm, hmm, hx, hrow⟩
  · simp [Value.cells] at hcs
    obtain ⟨rfl, rfl, rfl⟩ := hcs
    exact ⟨[], fun j h => absurd h (by simp), rfl, Nat.le_refl _, fun _ => rfl, Nat.zero_le _⟩
  · simp [Value.cells] at hcs
    obtain ⟨rfl, rfl, rfl⟩ := hcs
    simp only [if_true] at hmm
    subst hmm
    simp only [Prod.mk.injEq] at hx
    obtain ⟨rfl, rfl⟩ := hx
    have each : ∀ i, i < len → ∃ x : Int × List UInt8, DoAt W W.heap.size (a.add (i * 2)) x := by
      intro i hi
      obtain ⟨h1, h2, h3, h4⟩ := hrow i (by omega)
      obtain ⟨z, ez, hw⟩ := open_i64 t0 h3
      have hlt : ∀ x ∈ P1 i, x.block < W.heap.size := fun x hx => lt0 x (List.mem_append_right _ (List.mem_flatMap.2 ⟨i, List.mem_range.2 (by omega), List.mem_append_right _ hx⟩))
      obtain ⟨M, mn, mc, ml, em, hin⟩ := open_sl t1 tq cq h4 hlt
      refine ⟨(z, ml), hw, ?_, M, mc, by rw [h1, ez], ?_, ?_, ?_, hin.none_, ?_⟩
      · have := block_lt_of_cell h1
        exact this
      · rw [add_add, h2, em, hin.len]
      · have := hin.sl; rw [hin.len] at this; exact this
      · have := hin.cap; rw [hin.len] at this; exact this
      · have h1 := hin.cap; have h2 := hin.room; rw [hin.len] at h1; exact Nat.le_trans h1 h2
    obtain ⟨f, hf⟩ := Deep.choose_lt (α := Int × List UInt8) each
    refine ⟨(List.range len).map f, fun j hj => ?_, by simp, hl, (fun h => by cases h), hm⟩
    simp only [List.length_map, List.length_range] at hj
    refine ⟨a, rfl, ?_⟩
    simp only [List.getElem_map, List.getElem_range]
    exact hf j hj

theorem open_list_do {H : Type} {enc : TypeId × Value → H} {W : World} {A : Option Addr} {len cap : Nat} {d : DataW H} {p : List MemPlace}
    (h0 : DataW.Trod enc Try.prog W 0 (fun _ => true) true 23 (.slice A len cap) d p) (lt0 : ∀ x ∈ p, x.block < W.heap.size) : ∃ ds, InDos W A len cap ds :=
  open_dos Try.underlying23 Try.underlying31 (by kernel_rfl) rfl rfl (by kernel_rfl) (by kernel_rfl) Try.underlying3 Try.underlying22 Try.underlying5 (by kernel_rfl) h0 lt0

/-- May steps be gone through? -/
def fewB (n0 : Nat) (ds : List (Int × List UInt8)) : Bool := decide (ds.length ≤ 30 ∧ n0 ≤ 4000 ∧ ∀ d ∈ ds, d.2.length ≤ 400)

theorem size_do : (Try.prog.info? 31).map (·.size) = some 2 := by kernel_rfl

/-- The cells of a step. -/
def doC (N : Int) (M : Option Addr) (n c : Nat) : List Value := [.int .i64 N, .slice M n c]
theorem doC_one (N : Int) (M : Option Addr) (n c : Nat) : ∀ v ∈ doC N M n c, v.oneCell' = true := by
  intro v hv
  simp only [doC, List.mem_cons, List.not_mem_nil, or_false] at hv
  rcases hv with rfl | rfl <;> rfl
theorem doC_at {w : World} {p : Addr} {N : Int} {M : Option Addr} {n c : Nat} (h0 : w.cell? p = some (.int .i64 N)) (h1 : w.cell? (p.add 1) = some (.slice M n c)) : ∀ j v, (doC N M n c)[j]? = some v → w.cell? (p.add j) = some v := by
  intro j v hv
  match j, hv with
  | 0, hv => simp only [doC, List.getElem?_cons_zero, Option.some.injEq] at hv; rw [← hv, add_none]; exact h0
  | 1, hv => simp only [doC, List.getElem?_cons_succ, List.getElem?_cons_zero, Option.some.injEq] at hv; rw [← hv]; exact h1
  | j + 2, hv => simp [doC] at hv

theorem zero_do : (Try.prog.info? 31).map (·.zero) = some (some (.agg (doC 0 none 0 0).toArray)) := by kernel_rfl

/-- A step is put into a new variable: the world behind it under a name. -/
theorem put_do (w : World) (N : Int) (M : Option Addr) (n c : Nat) (T : TypeId) : ∃ W, Hid ((w.alloc (.cells (doC 0 none 0 0).toArray T)).setCells w.heap.size 0 (doC N M n c).toArray.toList = W) ∧ (w.alloc (.cells (doC 0 none 0 0).toArray T)).there w.heap.size 0 (doC N M n c).toArray.size ∧
    Bl W w.heap.size (doC N M n c) T ∧ Below w.heap.size w W ∧ W.heap.size = w.heap.size + 1 ∧ W.cell? ⟨w.heap.size, 0, none⟩ = some (.int .i64 N) ∧ W.cell? ⟨w.heap.size, 1, none⟩ = some (.slice M n c) := by
  obtain ⟨b0, hb0, hsz0⟩ := put_new w (doC 0 none 0 0) (doC N M n c) T rfl
  exact ⟨_, (rfl : _ = _), (Bl.new w (doC 0 none 0 0) T).there_ (by simp [doC]), b0, hb0, hsz0, by rw [b0.cell]; rfl, by rw [b0.cell]; rfl⟩

end Go.Proofs.Ytmemgiekkedeoaa

namespace Go.Proofs.Ytmemgiekkedeoaa
set_option maxRecDepth 100000
open Go.RowKit
set_option linter.unusedVariables false
set_option linter.unusedSimpArgs false

theorem few_no {n0 : Nat} {ds : List (Int × List UInt8)} (h : 30 < ds.length ∨ 4000 < n0) : fewB n0 ds = false := by
  unfold fewB; simp only [decide_eq_false_iff_not]; omega

set_option maxHeartbeats 1000000 in
theorem few_any (ds : List (Int × List UInt8)) (w : World) (A0 A : Option Addr) (n0 c0 n c : Nat) (hd : Dos w w.heap.size A ds) (hn : n = ds.length) :
    Calls Try.prog 7 #[.slice A0 n0 c0, .slice A n c] w fun e w' => e = .returned (.bool (fewB n0 ds)) ∧ Below w.heap.size w w' := by
  have HN := Lib.hid hn
  by_cases h30 : 30 < n
  · have q30 : (30 : Int) < (n : Int) := by omega
    have HE : Hid (fewB n0 ds = false) := few_no (.inl (by omega))
    clear hn
    rw [HE.out]
    go_enter Try.func7, Try.ntmps7
    go_wp2
    go_ret
    exact ⟨rfl, Below.refl _ _⟩
  · have q30 : ¬ (30 : Int) < (n : Int) := by omega
    by_cases h40 : 4000 < n0
    · have q40 : (4000 : Int) < (n0 : Int) := by omega
      have HE : Hid (fewB n0 ds = false) := few_no (.inr (by omega))
      clear hn
      rw [HE.out]
      go_enter Try.func7, Try.ntmps7
      go_wp2
      go_ret
      exact ⟨rfl, Below.refl _ _⟩
    · have q40 : ¬ (4000 : Int) < (n0 : Int) := by omega
      have hn30 : n ≤ 30 := by omega
      clear hn
      go_enter Try.func7, Try.ntmps7
      go_wp2
      go_loopw [17] (fun i wr => ∃ k : Nat, k ≤ n ∧ i = .int .i64 k ∧ Hid (∀ j (hj : j < ds.length), j < k → ds[j].2.length ≤ 400) ∧ Below w.heap.size w wr) (fun i _ => n - (intOf i).toNat)
      case atStart => exact ⟨0, by omega, rfl, fun j _ h => absurd h (by omega), Below.refl _ _⟩
      case round =>
        obtain ⟨k, hk, rfl, HH, hb⟩ := hrel
        by_cases hlt : k < n
        · have hkI : (k : Int) < (n : Int) := by omega
          have hkd : k < ds.length := by have := HN.out; omega
          obtain ⟨ad, rfl, hat⟩ := hd k hkd
          obtain ⟨hwf, hpl, M, mc, hq0, hq1, hms, hmc, hmz, hmm⟩ := hat.below hb
          obtain ⟨x, hx⟩ : ∃ x, x = ds[k] := ⟨_, rfl⟩
          rw [← hx] at hwf hq0 hq1 hms hmc hmm
          have HX := Lib.hid hx
          have hcc := doC_at hq0 hq1
          unfold maxLen at hmm
          clear hx hq0 hq1 hat
          obtain ⟨W5, HW5, ht5, b5, hb5, hs5, e50, e51⟩ := put_do wr x.1 M x.2.length mc 31
          have hb6 : Below w.heap.size w W5 := hb.trans (hb5.mono hb.size)
          by_cases h4 : x.2.length ≤ 400
          · have hq4 : ¬ (400 : Int) < (x.2.length : Int) := by omega
            go_wp2_with (first
              | (refine wpList_load_at rfl 31 _ rfl (ad.add (k * 2)) rfl (doC x.1 M x.2.length mc) _ hcc Try.underlying31 rfl size_do ?_)
              | (refine wpList_alloc_zero rfl 31 rfl (doC 0 none 0 0) zero_do ?_)
              | (refine wpList_store_mid rfl 31 _ _ rfl _ _ (doC x.1 M x.2.length mc).toArray rfl rfl ht5 size_do (all_oneCell_toArray (doC_one _ _ _ _)) ?_; rw [HW5.out]))
            go_roundw
            case rel => exact ⟨k + 1, by omega, by go_num, fun j hj hjk => by rcases (show j < k ∨ j = k by omega) with h | rfl; exact HH.out j hj h; rw [← HX.out]; exact h4, hb6⟩
            case measure => simp [intOf]; omega
          · have hq4 : (400 : Int) < (x.2.length : Int) := by omega
            have HE : Hid (fewB n0 ds = false) := by
              unfold Hid fewB; simp only [decide_eq_false_iff_not]; rintro ⟨_, _, h⟩; exact h4 (by rw [HX.out]; exact h _ (List.getElem_mem hkd))
            go_wp2_with (first
              | (refine wpList_load_at rfl 31 _ rfl (ad.add (k * 2)) rfl (doC x.1 M x.2.length mc) _ hcc Try.underlying31 rfl size_do ?_)
              | (refine wpList_alloc_zero rfl 31 rfl (doC 0 none 0 0) zero_do ?_)
              | (refine wpList_store_mid rfl 31 _ _ rfl _ _ (doC x.1 M x.2.length mc).toArray rfl rfl ht5 size_do (all_oneCell_toArray (doC_one _ _ _ _)) ?_; rw [HW5.out]))
            go_ret
            exact ⟨ret_bool HE.out.symm, hb6⟩
        · have hkI : ¬ (k : Int) < (n : Int) := by omega
          have HE : Hid (fewB n0 ds = true) := by
            have h1 := HN.out
            unfold Hid fewB
            rw [decide_eq_true_eq]
            refine ⟨by omega, by omega, fun d hd => ?_⟩
            obtain ⟨j, hj, rfl⟩ := List.getElem_of_mem hd
            exact HH.out j hj (by omega)
          go_wp2
          go_ret
          exact ⟨ret_bool HE.out.symm, hb⟩

end Go.Proofs.Ytmemgiekkedeoaa

namespace Go.Proofs.Ytmemgiekkedeoaa
set_option maxRecDepth 100000
open Go.RowKit
set_option linter.unusedVariables false
set_option linter.unusedSimpArgs false

theorem zero_rs : (Try.prog.info? 29).map (·.zero) = some (some (.agg (rsC none 0 0 0).toArray)) := by kernel_rfl

/-- What a step does: in both the same; the source's block alone has turned. -/
def DoesPost (w : World) (g n : Nat) (A : Option Addr) (l : List UInt8) (d : Nat) (R : Option Addr) (rn mn : Nat) (e : Ending) (w' : World) : Prop :=
  ∃ R' rn' rc' A' n' c' l' d', e = .returned (.tuple #[.agg (rsC R' rn' rc' ((d' : Nat) : Int)).toArray, .bool true]) ∧ Src w' g A' n' c' l' d' ∧ From w n A n' A' ∧ Sl w' w'.heap.size R' rn' (cb l') ∧ rn' ≤ rc' ∧ (R' = none → rc' = 0) ∧ From w rn R rn' R' ∧ n' + d' ≤ n + d + mn ∧ w.grownBy w' (some g) /- 45 -/

set_option maxHeartbeats 2000000 in
theorem does_more (g : Nat) (l m : List UInt8) (d : Nat) (N : Int) (w : World) (A R M : Option Addr) (n c rn rc mn mc : Nat) (h : Src w g A n c l d)
    (hr : Sl w w.heap.size R rn (cb l)) (hrc : rn ≤ rc) (hrz : R = none → rc = 0) (hro : Off g rn R) (hm : Sl w w.heap.size M mn (cb m)) (hmc : mn ≤ mc) (hmz : M = none → mc = 0) (hmo : Off g mn M) (hsz : d + n + mn ≤ 100000) (hN : N < -9) :
    Calls Try.prog 10 #[.pointer (some ⟨g, 0, none⟩), .agg (rsC R rn rc (d : Int)).toArray, .agg (doC N M mn mc).toArray] w (DoesPost w g n A l d R rn mn) := by
  obtain ⟨i0, hi, hz0, hz1, hz2⟩ := info_parts u8_info
  have hrn : rn = l.length := by rw [← hr.1, cb_len]
  have hmn : mn = m.length := by rw [← hm.1, cb_len]
  have HRN : Hid (rn = n) := by unfold Hid; rw [hrn, ← h.len]
  have HMN := Lib.hid hmn
  have hrs : rn + mn ≤ 100000 := by rw [HRN.out]; omega
  clear hrn hmn
  have hgl := h.lt
  obtain ⟨b0, b1, b2, hs0, hb0⟩ := three_new w (rsC R rn rc (d : Int)) (doC N M mn mc) (rsC none 0 0 0) 29 31 29
  obtain ⟨W0, hW0⟩ : ∃ W, W = (((w.alloc (.cells (rsC R rn rc (d : Int)).toArray 29)).alloc (.cells (doC N M mn mc).toArray 31)).alloc (.cells (rsC none 0 0 0).toArray 29)) := ⟨_, rfl⟩
  rw [← hW0] at b0 b1 b2 hs0 hb0
  have HW0 := Lib.hid hW0.symm
  clear hW0
  have e0 : W0.cell? ⟨w.heap.size + 1, 0, none⟩ = some (.int .i64 N) := by rw [b1.cell]; rfl
  have e1 : W0.cell? ⟨w.heap.size + 1, 1, none⟩ = some (.slice M mn mc) := by rw [b1.cell]; rfl
  have own3 := World.ownsRow_lit (base := w.heap.size + 3) (e := 5) (size := 1) W0 #[] 0 (by omega) (by decide) rfl
  rw [hs0] at own3
  have hb3 : Below w.heap.size w (W0.alloc (.cells #[] 5)) := hb0.alloc (by omega) _
  have hm3 := hm.nx hb3
  have hs3 : (W0.alloc (.cells #[] 5)).heap.size = w.heap.size + 4 := by simp [hs0]
  have b03 := b0.alloc (.cells #[] 5)
  have b13 := b1.alloc (.cells #[] 5)
  have b23 := b2.alloc (.cells #[] 5)
  obtain ⟨W3, hW3⟩ : ∃ W, W = W0.alloc (.cells #[] 5) := ⟨_, rfl⟩
  rw [← hW3] at own3 hb3 hm3 hs3 b03 b13 b23
  have HW3 := Lib.hid hW3.symm
  clear hW3 b0 b1 b2
  go_enter Try.func10, Try.ntmps10
  go_wp2_with (first
    | (refine wpList_box_agg rfl 29 _ rfl (rsC R rn rc (d : Int)) rfl ?_)
    | (refine wpList_box_agg rfl 31 _ rfl (doC N M mn mc) rfl ?_)
    | (refine wpList_alloc_zero rfl 29 rfl (rsC none 0 0 0) zero_rs ?_; rw [HW0.out])
    | (at_builtin; rw [HW3.out]; refine wpList_append_sl _ rfl _ _ 22 rfl (w.heap.size + 3) 5 i0 (.int .u8 0) 1 Try.underlying22 hi hz0 hz1 hz2 rfl _ 0 [] rfl own3 _ M mn mc (cb m) rfl hm3 hmz (cb_one _) (by unfold maxLen; omega) (by omega) (by omega) ?_; intro v4 w4 own4 gr4 at4; obtain ⟨X, cx, rfl⟩ := own_form own4))
  rw [Nat.zero_add, List.nil_append] at own4
  have hb4 : Below w.heap.size w w4 := hb3.grown gr4 (by omega) (fun k hk => by have := own_blk own3 hk; omega)
  have b04 := b03.grown gr4 (fun e => by have := own_blk own3 e; omega)
  have b14 := b13.grown gr4 (fun e => by have := own_blk own3 e; omega)
  have b24 := b23.grown gr4 (fun e => by have := own_blk own3 e; omega)
  have hs4 : w.heap.size + 4 ≤ w4.heap.size := by have := gr4.size; omega
  clear own3 hb3 hm3 b03 b13 b23 gr4 at4 e0 e1
  refine (emore_any g l m d w4 A X n c mn cx (h.next hb4) (Sl.own own4) (own_cap own4) (own_none own4) (by omega)).mono ?_
  rintro e w5 ⟨rfl, A5, c5, h5, hnew5, gr5⟩
  have gw5 : w.grownBy w5 (some g) := but_trans (but_below hb4) gr5
  have own5 := own_keep own4 (w' := w5) (fun k hk => gr5.block k (own_lt own4 hk) (fun e => by injection e with e; have := own_blk own4 hk; omega))
  have b05 := b04.grown gr5 (fun e => by injection e with e; omega)
  have b15 := b14.grown gr5 (fun e => by injection e with e; omega)
  have b25 := b24.grown gr5 (fun e => by injection e with e; omega)
  have HXB : Hid (∀ k, (Value.slice X mn cx).ownBlock = some k → w.heap.size + 3 ≤ k ∧ k < w4.heap.size) := fun k hk => ⟨own_blk own4 hk, own_lt own4 hk⟩
  clear own4 b04 b14 b24 hb4 gr5
  go_wp2
  go_loopw [28] (fun i wr => ∃ (j : Nat) (xs : List UInt8), j ≤ mn ∧ i = .int .i64 j ∧ Hid (xs.length = mn) ∧ wr.ownsRow (w.heap.size + 3) 5 1 (.slice X mn cx) mn (cb xs) ∧ w5.grownBy wr (Value.slice X mn cx).ownBlock) (fun i _ => mn - (intOf i).toNat)
  case atStart => exact ⟨0, m, by omega, rfl, HMN.out.symm, own5, World.grownBy.refl _ _⟩
  case round =>
    obtain ⟨j, xs, hj, rfl, HXL, hxo, hgx⟩ := hrel
    by_cases hjl : j < mn
    · obtain ⟨gx, cx', ex, hgx0, hgxl⟩ := hxo.form (by omega)
      injection ex with ex _ ecx
      subst ex; subst ecx
      have hjx : j < xs.length := by rw [HXL.out]; exact hjl
      obtain ⟨hcl, hfz, HB, HS⟩ := own_up hxo hjx
      have hb8 : xs[j].toNat < 256 := xs[j].toNat_lt
      clear hxo
      go_wp2
      go_roundw
      case rel => exact ⟨j + 1, xs.set j (UInt8.ofNat ((xs[j].toNat + 1) % 256)), by omega, by go_num, by unfold Hid; rw [List.length_set]; exact HXL.out, by rw [HB.out]; exact HS.out, but_setCell hgx _ _⟩
      case measure => simp [intOf]; omega
    · have hjI : ¬ (j : Int) < (mn : Int) := by omega
      obtain ⟨w6, hw6⟩ : ∃ x, x = wr := ⟨wr, rfl⟩
      subst hw6
      have s6 : Src w6 g A5 (n + mn) c5 (l ++ m) d := h5.row hgx (fun e => by have := HXB.out g e; omega) (fun _ ad e e2 => by have h1 := HXB.out _ e2; have h2 := hnew5 ad e; omega)
      have gw6 : w.grownBy w6 (some g) := but_row gw5 hgx (fun k hk => by have := HXB.out k hk; omega)
      have b06 := b05.grown hgx (fun e => by have := HXB.out _ e; omega)
      have b16 := b15.grown hgx (fun e => by have := HXB.out _ e; omega)
      have b26 := b25.grown hgx (fun e => by have := HXB.out _ e; omega)
      have e16 : w6.cell? ⟨w.heap.size + 1, 1, none⟩ = some (.slice M mn mc) := by rw [b16.cell]; rfl
      have hr6 := hr.nb gw6 hro
      have hm6 := hm.nb gw6 hmo
      clear h5 gw5 b05 b15 b25 hxo hgx own5
      go_wp2_with (refine wpList_load_mid rfl 29 _ rfl _ _ rfl (rsC R rn rc (d : Int)) _ b06.whole Try.underlying29 rfl size_rs ?_)
      refine (rmore8_any l m (d : Int) w6 R M rn rc mn mc hr6 hrz hm6 hmz (by omega)).mono ?_
      rintro e w7 ⟨X7, c7, rfl, h7⟩
      have b27 := b26.next h7.below
      have ht7 : w7.there (w.heap.size + 2) 0 (rsC X7 (rn + mn) c7 (d : Int)).toArray.size := b27.there_ (by simp [rsC])
      have hfin := b27.over (vs := rsC X7 (rn + mn) c7 (d : Int)) rfl
      have s7 := s6.next h7.below
      have gw7 := but_next gw6 h7.below
      have g78 : w7.grownBy (w7.setCells (w.heap.size + 2) 0 (rsC X7 (rn + mn) c7 (d : Int))) (some (w.heap.size + 2)) := but_setCells (but_refl w7 _) 0 _
      have gw8 : w.grownBy (w7.setCells (w.heap.size + 2) 0 (rsC X7 (rn + mn) c7 (d : Int))) (some g) := but_row gw7 g78 (fun k hk => by injection hk with hk; omega)
      have hlt6 := b26.lt
      have o7 : Off (w.heap.size + 2) (rn + mn) X7 := own_off h7.own hlt6
      have s8 : Hid (Src (w7.setCells (w.heap.size + 2) 0 (rsC X7 (rn + mn) c7 (d : Int))) g A5 (n + mn) c5 (l ++ m) d) := s7.but g78 (by omega) (fun h0 ad e e2 => by have h1 := hnew5 ad e; omega)
      have hx8 : Hid (Sl (w7.setCells (w.heap.size + 2) 0 (rsC X7 (rn + mn) c7 (d : Int))) (w7.setCells (w.heap.size + 2) 0 (rsC X7 (rn + mn) c7 (d : Int))).heap.size X7 (rn + mn) (cb (l ++ m))) := h7.sl.nb g78 o7
      have hn7 : ∀ ad, X7 = some ad → w.heap.size ≤ ad.block := fun ad e => Nat.le_trans gw6.size (own_new (w' := w7) h7.own ad e)
      have hc7 := own_cap h7.own
      have hz7 := h7.none_
      have HFR : Hid (From w n A (n + mn) A5) := from_new (fun ad e => Nat.le_trans (by omega) (hnew5 ad e))
      have HFR2 : Hid (From w rn R (rn + mn) X7) := from_new hn7
      clear s7 h7 o7 hnew5 hn7 s6
      go_wp2_with (refine wpList_store_mid rfl 29 _ _ rfl _ _ (rsC X7 (rn + mn) c7 (d : Int)).toArray rfl rfl ht7 size_rs (all_oneCell_toArray (rsC_one _ _ _ _)) ?_)
      exact ret_row_tmp Try.results10 rfl hfin Try.underlying29 rfl size_rs rfl ⟨X7, rn + mn, c7, A5, n + mn, c5, l ++ m, d, rfl, s8.out, HFR.out, hx8.out, hc7, hz7, HFR2.out, by omega, gw8⟩

end Go.Proofs.Ytmemgiekkedeoaa

namespace Go.Proofs.Ytmemgiekkedeoaa
set_option maxRecDepth 100000
open Go.RowKit
set_option linter.unusedVariables false
set_option linter.unusedSimpArgs false

set_option maxHeartbeats 2000000 in
theorem does_draw (g : Nat) (l : List UInt8) (d : Nat) (N : Int) (w : World) (A R M : Option Addr) (n c rn rc mn mc : Nat) (h : Src w g A n c l d)
    (hr : Sl w w.heap.size R rn (cb l)) (hrc : rn ≤ rc) (hrz : R = none → rc = 0) (hro : Off g rn R) (hsz : d + n ≤ 100000) (hN : ¬ N < -9) :
    Calls Try.prog 10 #[.pointer (some ⟨g, 0, none⟩), .agg (rsC R rn rc (d : Int)).toArray, .agg (doC N M mn mc).toArray] w (DoesPost w g n A l d R rn mn) := by
  have hrn : rn = l.length := by rw [← hr.1, cb_len]
  have HRN : Hid (rn = n) := by unfold Hid; rw [hrn, ← h.len]
  have HNL := Lib.hid h.len
  have hrs : d + rn ≤ 100000 := by rw [HRN.out]; omega
  clear hrn
  have hgl := h.lt
  obtain ⟨b0, b1, b2, hs0, hb0⟩ := three_new w (rsC R rn rc (d : Int)) (doC N M mn mc) (rsC none 0 0 0) 29 31 29
  obtain ⟨W0, hW0⟩ : ∃ W, W = (((w.alloc (.cells (rsC R rn rc (d : Int)).toArray 29)).alloc (.cells (doC N M mn mc).toArray 31)).alloc (.cells (rsC none 0 0 0).toArray 29)) := ⟨_, rfl⟩
  rw [← hW0] at b0 b1 b2 hs0 hb0
  have HW0 := Lib.hid hW0.symm
  clear hW0
  have e0 : W0.cell? ⟨w.heap.size + 1, 0, none⟩ = some (.int .i64 N) := by rw [b1.cell]; rfl
  go_enter Try.func10, Try.ntmps10
  go_wp2_with (first
    | (refine wpList_box_agg rfl 29 _ rfl (rsC R rn rc (d : Int)) rfl ?_)
    | (refine wpList_box_agg rfl 31 _ rfl (doC N M mn mc) rfl ?_)
    | (refine wpList_alloc_zero rfl 29 rfl (rsC none 0 0 0) zero_rs ?_; rw [HW0.out]))
  refine (edraw_any g l d N W0 A n c (h.next hb0) (by omega)).mono ?_
  rintro e w2 ⟨X, k, cx, rfl, own2, ⟨A2, n2, c2, s2, fr2⟩, gr2⟩
  have gw2 : w.grownBy w2 (some g) := but_trans (but_below hb0) gr2
  have HFR : Hid (From w n A n2 A2) := fr2.from_ w
  have HAL := Lib.hid (fr2.lt h.sl)
  replace b0 := b0.grown gr2 (fun e => by injection e with e; omega)
  replace b1 := b1.grown gr2 (fun e => by injection e with e; omega)
  replace b2 := b2.grown gr2 (fun e => by injection e with e; omega)
  have hr2 := hr.nb gw2 hro
  obtain ⟨L, hL⟩ : ∃ L, L = drawL l N := ⟨_, rfl⟩
  obtain ⟨L2, hL2⟩ : ∃ L, L = drawR l N := ⟨_, rfl⟩
  obtain ⟨E, hE⟩ : ∃ E, E = drawE l N := ⟨_, rfl⟩
  rw [← hL] at own2
  rw [← hL2] at s2
  rw [← hE]
  have HL := Lib.hid hL
  have HL2 := Lib.hid hL2
  have HE := Lib.hid hE
  clear hL hL2 hE e0
  have HK : Hid (L.length = k) := by unfold Hid; have := own2.1; rw [cb_len] at this; omega
  have e2 : w2.cell? ⟨w.heap.size + 1, 0, none⟩ = some (.int .i64 N) := by rw [b1.cell]; rfl
  go_wp2_with (refine wpList_load_mid rfl 29 _ rfl _ _ rfl (rsC R rn rc (d : Int)) _ b0.whole Try.underlying29 rfl size_rs ?_)
  refine (rdraw8_any l d N w2 R rn rc hr2 hrc hrz (by omega)).mono ?_
  rintro e w3 ⟨R', rn', rc', X', k', cx', rfl, hr3, hrc3, hrz3, fr3, hx3, frx, hb3⟩
  rw [← HL.out] at hx3
  rw [← HL2.out] at hr3
  rw [← HE.out]
  have hkk : k' = k := by have h1 := hx3.1; rw [cb_len, HK.out] at h1; exact h1.symm
  subst hkk
  have hkn : k' ≤ n := by
    have h2 := draw_len l N
    rw [← HL.out, HK.out] at h2
    have h3 := HNL.out
    omega
  obtain ⟨d2, hd2⟩ : ∃ x, x = d + k' := ⟨_, rfl⟩
  rw [← hd2] at s2 ⊢
  have HD2 := Lib.hid hd2
  clear hd2 e2
  have hRlt := Sl.off hr (Nat.le_refl _)
  have HRB := Lib.hid (fr3.lt hr)
  have HXB := Lib.hid (frx.lt hr)
  have HFR2 : Hid (From w rn R rn' R') := fr3.from_ w
  replace b0 := b0.next hb3
  replace b2 := b2.next hb3
  have gw3 := but_next gw2 hb3
  have own3 := own_below own2 hb3
  have s3 := s2.next hb3
  have hlt0 := gr2.size
  have g34 : w3.grownBy (w3.setCells w.heap.size 0 (rsC R' rn' rc' (d2 : Int))) (some w.heap.size) := but_setCells (but_refl w3 _) 0 _
  have ht3 : w3.there w.heap.size 0 (rsC R' rn' rc' (d2 : Int)).toArray.size := b0.there_ (by simp [rsC])
  have b04 := b0.over (vs := rsC R' rn' rc' (d2 : Int)) rfl
  have b24 := b2.grown g34 (fun e => by injection e with e; omega)
  have own4 := own_keep own3 (w' := w3.setCells w.heap.size 0 (rsC R' rn' rc' (d2 : Int))) (fun j hj => heap_setCells_other _ _ (by have := own_blk own3 hj; omega) _ _ _)
  have hx4 := hx3.nb g34 (frx.off hRlt)
  have hr4 := hr3.nb g34 (fr3.off hRlt)
  have s4 := s3.but g34 (by omega) (fun h0 ad e e2 => by have h1 := HAL.out h0 ad e; omega)
  have gw4 : w.grownBy (w3.setCells w.heap.size 0 (rsC R' rn' rc' (d2 : Int))) (some g) := but_row gw3 g34 (fun j hj => by injection hj with hj; omega)
  obtain ⟨w4, hw4⟩ : ∃ W, W = w3.setCells w.heap.size 0 (rsC R' rn' rc' (d2 : Int)) := ⟨_, rfl⟩
  rw [← hw4] at b04 b24 own4 hx4 hr4 s4 gw4
  have HW4 : Hid (w3.setCells w.heap.size 0 (rsC R' rn' rc' (d2 : Int)).toArray.toList = w4) := hw4.symm
  have hq1 := u8_str (Sl.own own4) cx
  have hq2 := u8_str hx4 cx'
  have HOB : Hid (∀ j, (Value.slice X k' cx).ownBlock = some j → w.heap.size + 3 ≤ j) := fun j hj => by have := own_blk own4 hj; omega
  clear hw4 b0 b2 own3 hx3 hr3 s3 gw3 g34 own2 s2 gw2 hr2 hb3 b1 gr2
  go_wp2_with (refine wpList_store_mid rfl 29 _ _ rfl _ _ (rsC R' rn' rc' (d2 : Int)).toArray rfl rfl ht3 size_rs (all_oneCell_toArray (rsC_one _ _ _ _)) ?_; rw [HW4.out])
  go_loopw [69] (fun i wr => ∃ (j : Nat) (xs : List UInt8), j ≤ k' ∧ i = .int .i64 j ∧ Hid (xs.length = k') ∧ wr.ownsRow W0.heap.size 5 1 (.slice X k' cx) k' (cb xs) ∧ w4.grownBy wr (Value.slice X k' cx).ownBlock) (fun i _ => k' - (intOf i).toNat)
  case atStart => exact ⟨0, L, by omega, rfl, HK.out, own4, World.grownBy.refl _ _⟩
  case round =>
    obtain ⟨j, xs, hj, rfl, HXL, hxo, hgx⟩ := hrel
    by_cases hjl : j < k'
    · obtain ⟨gx, cx2, ex, hgx0, hgxl⟩ := hxo.form (by omega)
      injection ex with ex _ ecx
      subst ex; subst ecx
      have hjx : j < xs.length := by rw [HXL.out]; exact hjl
      obtain ⟨hcl, hfz, HB, HS⟩ := own_up hxo hjx
      have hb8 : xs[j].toNat < 256 := xs[j].toNat_lt
      clear hxo hq1 hq2
      go_wp2
      go_roundw
      case rel => exact ⟨j + 1, xs.set j (UInt8.ofNat ((xs[j].toNat + 1) % 256)), by omega, by go_num, by unfold Hid; rw [List.length_set]; exact HXL.out, by rw [HB.out]; exact HS.out, but_setCell hgx _ _⟩
      case measure => simp [intOf]; omega
    · have hjI : ¬ (j : Int) < (k' : Int) := by omega
      obtain ⟨w6, hw6⟩ : ∃ x, x = wr := ⟨wr, rfl⟩
      subst hw6
      have s6 := s4.row hgx (fun e => by have := HOB.out g e; omega) (fun h0 ad e e2 => by have h1 := HOB.out _ e2; have h2 := HAL.out h0 ad e; omega)
      have gw6 : w.grownBy w6 (some g) := but_row gw4 hgx (fun i hi => by have := HOB.out i hi; omega)
      have b06 := b04.grown hgx (fun e => by have := HOB.out _ e; omega)
      have b26 := b24.grown hgx (fun e => by have := HOB.out _ e; omega)
      have hr6 := sl_row hr4 hgx (fun h0 ad e e2 => by have h1 := HOB.out _ e2; have h2 := HRB.out h0 ad e; omega)
      have ht6 : w6.there (w.heap.size + 2) 0 (rsC R' rn' rc' (d2 : Int)).toArray.size := b26.there_ (by simp [rsC])
      have hfin := b26.over (vs := rsC R' rn' rc' (d2 : Int)) rfl
      have g67 : w6.grownBy (w6.setCells (w.heap.size + 2) 0 (rsC R' rn' rc' (d2 : Int))) (some (w.heap.size + 2)) := but_setCells (but_refl w6 _) 0 _
      have gw7 : w.grownBy (w6.setCells (w.heap.size + 2) 0 (rsC R' rn' rc' (d2 : Int))) (some g) := but_row gw6 g67 (fun i hi => by injection hi with hi; omega)
      have s7 : Hid (Src (w6.setCells (w.heap.size + 2) 0 (rsC R' rn' rc' (d2 : Int))) g A2 n2 c2 L2 d2) := s6.but g67 (by omega) (fun h0 ad e e2 => by have h1 := HAL.out h0 ad e; omega)
      have hr7 : Hid (Sl (w6.setCells (w.heap.size + 2) 0 (rsC R' rn' rc' (d2 : Int))) (w6.setCells (w.heap.size + 2) 0 (rsC R' rn' rc' (d2 : Int))).heap.size R' rn' (cb L2)) := hr6.nb g67 (fun h0 ad e e2 => by have h1 := HRB.out h0 ad e; omega)
      have HSUM : Hid (n2 + d2 ≤ n + d + mn) := by
        unfold Hid
        have h1 := s4.len
        have h2 := draw_len l N
        rw [← HL.out, ← HL2.out, HK.out, ← h1, ← HNL.out] at h2
        have h3 := HD2.out
        omega
      clear s6 s4 gw4 hr4 b04 b24 hxo own4 hgx hq1 hq2 g67 gw6 hr6
      go_wp2_with (first
        | (refine wpList_load_mid rfl 29 _ rfl _ _ rfl (rsC R' rn' rc' (d2 : Int)) _ b06.whole Try.underlying29 rfl size_rs ?_)
        | (refine wpList_store_mid rfl 29 _ _ rfl _ _ (rsC R' rn' rc' (d2 : Int)).toArray rfl rfl ht6 size_rs (all_oneCell_toArray (rsC_one _ _ _ _)) ?_))
      exact ret_row_tmp Try.results10 rfl hfin Try.underlying29 rfl size_rs rfl ⟨R', rn', rc', A2, n2, c2, L2, d2, rfl, s7.out, HFR.out, hr7.out, hrc3, hrz3, HFR2.out, HSUM.out, gw7⟩

theorem does_any (g : Nat) (l m : List UInt8) (d : Nat) (N : Int) (w : World) (A R M : Option Addr) (n c rn rc mn mc : Nat) (h : Src w g A n c l d)
    (hr : Sl w w.heap.size R rn (cb l)) (hrc : rn ≤ rc) (hrz : R = none → rc = 0) (hro : Off g rn R) (hm : Sl w w.heap.size M mn (cb m)) (hmc : mn ≤ mc) (hmz : M = none → mc = 0) (hmo : Off g mn M) (hsz : d + n + mn ≤ 100000) :
    Calls Try.prog 10 #[.pointer (some ⟨g, 0, none⟩), .agg (rsC R rn rc (d : Int)).toArray, .agg (doC N M mn mc).toArray] w (DoesPost w g n A l d R rn mn) := by
  by_cases hN : N < -9
  · exact does_more g l m d N w A R M n c rn rc mn mc h hr hrc hrz hro hm hmc hmz hmo hsz hN
  · exact does_draw g l d N w A R M n c rn rc mn mc h hr hrc hrz hro (by omega) hN

end Go.Proofs.Ytmemgiekkedeoaa

namespace Go.Proofs.Ytmemgiekkedeoaa
set_option maxRecDepth 100000
open Go.RowKit
set_option linter.unusedVariables false
set_option linter.unusedSimpArgs false

set_option maxHeartbeats 1000000 in
theorem awake8_any (w : World) : Calls Try.prog 8 #[] w fun e w' => e = .returned (.bool true) ∧ Below w.heap.size w w' := by
  have hb1 : Below w.heap.size w (w.alloc (.cells #[.int .u8 1, .int .u8 2, .int .u8 3] 5)) := (Below.refl _ w).alloc (Nat.le_refl _) _
  have hs1 : Sl (w.alloc (.cells #[.int .u8 1, .int .u8 2, .int .u8 3] 5)) (w.alloc (.cells #[.int .u8 1, .int .u8 2, .int .u8 3] 5)).heap.size (some ⟨w.heap.size, 0, none⟩) 3 (cb [1, 2, 3]) := by
    have := Sl.new w #[.int .u8 1, .int .u8 2, .int .u8 3] 5
    rw [alloc_size]
    exact this
  obtain ⟨W1, hW1⟩ : ∃ W, W = w.alloc (.cells #[.int .u8 1, .int .u8 2, .int .u8 3] 5) := ⟨_, rfl⟩
  rw [← hW1] at hb1 hs1
  have HW1 := Lib.hid hW1.symm
  clear hW1
  go_enter Try.func8, Try.ntmps8
  go_wp2_with fail
  rw [HW1.out]
  refine (enew_any [1, 2, 3] W1 _ 3 3 hs1 (by omega) (by intro h; cases h) (by omega)).mono ?_
  rintro e w2 ⟨g, A2, c2, rfl, hg, s2, _, hb2⟩
  replace hb1 := next hb1 hb2
  have hgw : w.heap.size ≤ g := by have h1 := HW1.out; have : w.heap.size ≤ W1.heap.size := by rw [← h1]; simp
                                   omega
  clear hs1 hb2
  go_wp2_with fail
  refine (edraw_any g [1, 2, 3] 0 2 w2 A2 3 c2 s2 (by omega)).mono ?_
  rintro e w3 ⟨X, k, cx, rfl, own3, ⟨A3, n3, c3, s3, _⟩, gr3⟩
  rw [show drawL [1, 2, 3] 2 = [1, 2] by decide] at own3
  rw [show drawR [1, 2, 3] 2 = [3] by decide] at s3
  rw [show drawE [1, 2, 3] 2 = 0 by decide]
  have hk : k = 2 := by have := own3.1; rw [cb_len] at this; simp at this; exact this.symm
  subst hk
  replace hb1 := below_but hb1 gr3 hb1.size hgw
  have hn3 : n3 = 1 := s3.len
  subst hn3
  obtain ⟨gx, cx2, ex, hgx0, hgxl⟩ := own3.form (by omega)
  injection ex with ex _ ecx
  subst ex; subst ecx
  have hgl := s2.lt
  clear s2 gr3
  go_wp2_with fail
  refine (edraw_any g [3] _ 2 w3 A3 1 c3 s3 (by omega)).mono ?_
  rintro e w4 ⟨X4, k4, cx4, rfl, own4, ⟨A4, n4, c4, s4, _⟩, gr4⟩
  rw [show drawR [3] 2 = [3] by decide] at s4
  rw [show drawE [3] 2 = 9 by decide]
  replace hb1 := below_but hb1 gr4 hb1.size hgw
  have hn4 : n4 = 1 := s4.len
  subst hn4
  have own5 := own_keep own3 (w' := w4) (fun j hj => gr4.block j (own_lt own3 hj) (fun e => by injection e with e; have := own_blk own3 hj; omega))
  have hc5 : w4.cell? ⟨gx, 1, none⟩ = some (.int .u8 2) := by rw [own5.cellAt 1 (by omega)]; rfl
  clear own3 own4 own5 s3 gr4
  go_wp2_with (go_at_call 11; refine (left_any g [3] _ w4 A4 1 c4 s4).mono ?_; rintro e w1 ⟨rfl, rfl⟩)
  go_ret
  exact ⟨rfl, hb1⟩

end Go.Proofs.Ytmemgiekkedeoaa
