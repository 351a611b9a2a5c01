/- Mix of package cipher: the whole. -/
import Derived.Test.YtnhpamfmbledmaaDoorChaJ
namespace Go.Proofs.YtnhpamfmbledmaaDoor
open Go.RowKit
set_option linter.unusedVariables false
set_option linter.unusedSimpArgs false
attribute [local go_sem] Oper.semAt_some

set_option maxRecDepth 100000 in
set_option maxHeartbeats 600000 in
theorem mix_main (key nonce b : List UInt8) (f : Nat) (A0 A1 A3 : Option Addr) (n c0 c1 c3 : Nat) (w : World) (hf : f < 4294967296) (h0 : Sl w w.heap.size A0 32 (cb key)) (h1 : Sl w w.heap.size A1 12 (cb nonce)) (h3 : Sl w w.heap.size A3 n (cb b)) (k0 : 32 ≤ c0) (k1 : 12 ≤ c1) (z0 : A0 = none → c0 = 0) (z1 : A1 = none → c1 = 0) (k3 : n ≤ c3) (z3 : A3 = none → c3 = 0) (hm : n ≤ 1000000000) (hcap : blksN n ≤ 4294967296 - f) (hT : TabC w) :
    Calls Tryd.prog 15 #[.slice A0 32 c0, .slice A1 12 c1, .int .u32 f, .slice A3 n c3] w (RetSl w (mixL key nonce f b) 0) := by
  have hn3 : n = b.length := by rw [← h3.1, cb_len]
  have HN3 := Lib.hid hn3
  have HF : Hid (Calls Tryd.prog 17 #[.slice A0 32 c0, .slice A1 12 c1] (w.alloc (.cells #[.slice A3 n c3] 22)) fun e w' => e = .returned (.bool true) ∧ (w.alloc (.cells #[.slice A3 n c3] 22)) = w') := fit_any 32 12 c0 c1 A0 A1 _
  obtain ⟨k, hk⟩ : ∃ k, k = blksN n := ⟨_, rfl⟩
  have hbf := bfor_any n (w.alloc (.cells #[.slice A3 n c3] 22)) (by omega)
  rw [← hk] at hcap hbf
  have HB := Lib.hid hbf
  have HK := Lib.hid hk
  have hgt : ¬ (4294967295 : Int) - (f : Int) + 1 < (k : Int) := by omega
  have b0 := Bl.new w [.slice A3 n c3] 22
  have hb0 : Below w.heap.size w (w.alloc (.cells [Value.slice A3 n c3].toArray 22)) := (Below.refl _ w).alloc (Nat.le_refl _) _
  have HT := Lib.hid hT
  have hts := hT.size
  obtain ⟨i0, hi, hz0, hz1, hz2⟩ := info_parts u8_info
  clear hn3 hbf hk hT
  refine callsIn_wide.1 (callsIn_of_wp_marks (n := 3) Tryd.func15 rfl trivial (wpIn_wide.2 ?_) rfl)
  simp only [Tryd.ntmps15, List.size_toArray, List.length_cons, List.length_nil, Nat.reduceAdd, Nat.reduceSub, Array.replicate_succ, Array.replicate_zero, List.push_toArray, List.append_toArray, List.nil_append, List.cons_append]
  go_wp2_with fail
  refine HF.out.mono ?_
  rintro e w' ⟨rfl, rfl⟩
  go_wp2_with fail
  refine HB.out.mono ?_
  rintro e w' ⟨rfl, rfl⟩
  go_wp2_with (at_make; refine wpList_make_part _ rfl _ _ 22 rfl w.heap.size 5 i0 .u8 Tryd.underlying22 hi hz0 hz1 .i64 .i64 _ _ n n rfl rfl rfl rfl (Nat.le_refl _) (by rw [hz2]; omega) (by unfold maxLen; omega) (by simp) ?_; intro w1 hown hgrow)
  have hgw : w.heap.size + 1 < w1.heap.size := by
    have h1 := hgrow.size
    have h2 := (own_lt hown (g := (w.alloc (.cells #[.slice A3 n c3] 22)).heap.size) rfl)
    simpa using h2
  have bm1 : Bl w1 (w.heap.size + 1) (zeros .u8 n) 5 := by
    have := block_of_own hown
    rw [alloc_size] at this
    exact this
  have bb1 : Bl w1 w.heap.size [.slice A3 n c3] 22 := b0.grown hgrow (by simp)
  have hb1 : Below w.heap.size w w1 := hb0.trans ((Below.refl _ _).grown hgrow (by simp) (by simp))
  clear hown hgrow b0 hb0
  obtain ⟨gm, hgm⟩ : ∃ g, g = w.heap.size + 1 := ⟨_, rfl⟩
  obtain ⟨go, hgo⟩ : ∃ g, g = w1.heap.size := ⟨_, rfl⟩
  obtain ⟨gd, hgd⟩ : ∃ g, g = go + 1 := ⟨_, rfl⟩
  rw [← hgm] at bm1 ⊢
  rw [← hgo, ← hgd]
  have bo2 : Bl ((w1.alloc (.cells #[.slice (some ⟨gm, 0, none⟩) n n] 22)).alloc (.cells #[.int .i64 0] 3)) go [.slice (some ⟨gm, 0, none⟩) n n] 22 := by
    rw [hgo]; exact (Bl.new w1 [.slice (some ⟨gm, 0, none⟩) n n] 22).alloc _
  have bd2 : Bl ((w1.alloc (.cells #[.slice (some ⟨gm, 0, none⟩) n n] 22)).alloc (.cells #[.int .i64 0] 3)) gd [.int .i64 0] 3 := by
    have := Bl.new (w1.alloc (.cells #[.slice (some ⟨gm, 0, none⟩) n n] 22)) [.int .i64 0] 3
    rw [alloc_size, ← hgo, ← hgd] at this
    exact this
  have bm2 := (bm1.alloc (.cells #[.slice (some ⟨gm, 0, none⟩) n n] 22)).alloc (.cells #[.int .i64 0] 3)
  have bb2 := (bb1.alloc (.cells #[.slice (some ⟨gm, 0, none⟩) n n] 22)).alloc (.cells #[.int .i64 0] 3)
  have hb2 : Below w.heap.size w ((w1.alloc (.cells #[.slice (some ⟨gm, 0, none⟩) n n] 22)).alloc (.cells #[.int .i64 0] 3)) := (hb1.alloc (by omega) _).alloc (by simp; omega) _
  obtain ⟨W2, hW2⟩ : ∃ W, W = (w1.alloc (.cells #[.slice (some ⟨gm, 0, none⟩) n n] 22)).alloc (.cells #[.int .i64 0] 3) := ⟨_, rfl⟩
  rw [← hW2] at bo2 bd2 bm2 bb2 hb2 ⊢
  clear hW2 bm1 bb1 hb1
  refine (blocks_any key nonce f A0 A1 c0 c1 W2 (h0.nx hb2) (h1.nx hb2) k0 k1 z0 z1).mono ?_
  rintro e w3 ⟨gF, gS, rfl, hgF, hgS, bF, bS, hb3⟩
  have bo3 := bo2.next hb3
  have bd3 := bd2.next hb3
  have bm3 := bm2.next hb3
  have bb3 := bb2.next hb3
  have hd2 := bd2.lt
  have hd3 := bS.lt
  have hb4 := next hb2 hb3
  have hT3 := HT.out.next hb4
  clear bo2 bd2 bm2 bb2 hb2 hb3
  have hlt1 : w.heap.size < gm := by omega
  have hlt2 : gm < go := by omega
  have hlt3 : go < gd := by omega
  have hlt4 : gd < gS := by omega
  have HGM := Lib.hid hgm
  clear hgm hgo hgd hgw
  go_wp2
  refine wpIn_wide.1 (wpIn_rangeFunc_ownH (F := Fence.wide) (n := 3) rfl (by omega) (gf := 24) (lb := #[.pointer (some ⟨gF, 0, none⟩), .pointer (some ⟨gS, 0, none⟩)]) rfl trivial (enters_of Tryd.func24 (by kernel_rfl) rfl)
    (blocks2_stops key nonce f gF gS _ w3 hf bF bS hT3) keepsBl_t (keepsBl_b (fun g hg => by rcases hg with rfl | rfl <;> omega)) (Below.refl _ _) (fun _ => rfl)
    (MixI key nonce f b A3 n c3 w gm go gd w3.heap.size) (MixX key nonce f b n w gm go) (mixI_own (by omega)) (mixX_own (by omega))
    ⟨by simp, .inl rfl, bb3, by rw [mixP_nil, ← HN3.out]; exact bm3, bo3, bd3, Nat.le_refl _, hb4⟩
    (fun x a' W => ∃ Bx, w3.heap.size ≤ Bx ∧ Bl W Bx (cb (cblk key nonce (f + x))) 25 ∧ ∃ u0 u1 u2 u3 u4 u5 u6 u8 u9 u12 u14 u15 u16 u17 u18 u19 u20 u21 u22 u23 u24 u25 u26 u27 u28 u29 u30 u31 u32 u33 u34 u35 u36 u37 u38 u39 u40 u41 u42 u43 u44 u45 u46 u47 u48 u49 : Value, a' = { tmps := #[u0, u1, u2, u3, u4, u5, u6, .pointer (some ⟨w.heap.size, 0, none⟩), u8, u9, .pointer (some ⟨go, 0, none⟩), .pointer (some ⟨gd, 0, none⟩), u12, .pointer (some ⟨Bx, 0, none⟩), u14, u15, u16, u17, u18, u19, u20, u21, u22, u23, u24, u25, u26, u27, u28, u29, u30, u31, u32, u33, u34, u35, u36, u37, u38, u39, u40, u41, u42, u43, u44, u45, u46, u47, u48, u49], defers := [] })
    (fun x a' _ _ _ _ hs hg hr => by obtain ⟨Bx, h1, h2, h3⟩ := hs; exact ⟨Bx, h1, bl_abides h2 hg hr, h3⟩) ?assign ?body ?done ?stop)
  case assign =>
    intro l pre x W K hI hK
    dsimp only [bencs]
    obtain ⟨B, hB⟩ : ∃ B, B = cblk key nonce (f + x) := ⟨_, rfl⟩
    rw [← hB] at hK ⊢
    have HBL : Hid (B.length = 64) := by unfold Hid; rw [hB, cblk_len]
    have HK2 := Lib.hid hK
    clear hB hK
    obtain ⟨bB, hbB, hzB⟩ := put_new W (zeros .u8 64) (cb B) 25 (by rw [cb_len, HBL.out, zeros_len])
    have HST : Hid ((storeCells ⟨W.heap.size, 0, none⟩ (cb B)).run Tryd.prog (W.alloc (.cells (zeros .u8 64).toArray 25)) = .ok () ((W.alloc (.cells (zeros .u8 64).toArray 25)).setCells W.heap.size 0 (cb B))) := by
      have hth := (Bl.new W (zeros .u8 64) 25).there_ (o := 0) (n := 64) (by simp [zeros])
      exact run_storeCells_cells W.heap.size 0 (cb B) 0 _ (fun j hj => (hth j (by rw [cb_len, HBL.out] at hj; exact hj)).1) (fun j hj => (hth j (by rw [cb_len, HBL.out] at hj; exact hj)).2) (cb_one _)
    have hcl : (cb B).length = 64 := by rw [cb_len, HBL.out]
    gi_wp2_with (first
      | (refine wpListIn_of_one (wide_round l) (by rintro ⟨a', w', h⟩; exact h) (by intro c h; cases h) rfl ?_; refine wpList_alloc_zero rfl 25 rfl (zeros .u8 64) zero_block ?_; change wpListIn _ _ _ _ _ _ _ _)
      | fail)
    rw [HST.out]
    gi_wp2
    have hlS : gS < W.heap.size := Nat.lt_of_lt_of_le hd3 hI.sz
    refine HK2.out _ _ (KeepsFrom.of_grownBy (grown_below hbB none) (by simp)) (fun g hg => hbB.block g (by rcases hg with rfl | rfl <;> omega))
      ⟨hI.le, hI.lt, hI.bb.next hbB, hI.bm.next hbB, hI.bo.next hbB, hI.bd.next hbB, Nat.le_trans hI.sz hbB.size, next hI.below hbB⟩ ⟨W.heap.size, hI.sz, bB, _, _, _, _, _, _, _, _, _, _, _, _, _, _, _, _, _, _, _, _, _, _, _, _, _, _, _, _, _, _, _, _, _, _, _, _, _, _, _, _, _, _, _, _, _, _, rfl⟩
  case body =>
    rintro l pre x a' W hl hrec hI ⟨Bx, hBx, bB, u0, u1, u2, u3, u4, u5, u6, u8, u9, u12, u14, u15, u16, u17, u18, u19, u20, u21, u22, u23, u24, u25, u26, u27, u28, u29, u30, u31, u32, u33, u34, u35, u36, u37, u38, u39, u40, u41, u42, u43, u44, u45, u46, u47, u48, u49, rfl⟩ hpre
    obtain ⟨le, lt, bb, bm, bo, bd, sz, hbl⟩ := hI
    obtain ⟨B, hB⟩ : ∃ B, B = cblk key nonce (f + x) := ⟨_, rfl⟩
    rw [← hB] at bB
    have HBL : Hid (B.length = 64) := by unfold Hid; rw [hB, cblk_len]
    obtain ⟨L, hL⟩ : ∃ L, L = 64 * pre.length := ⟨_, rfl⟩
    rw [← hL] at le bd
    have hL0 : L = 0 ∨ L < n := lt.elim (fun h => .inl (by rw [hL, h]; rfl)) (fun h => .inr (by rw [hL]; exact h))
    obtain ⟨t, ht⟩ : ∃ t, t = min (n - L) 64 := ⟨_, rfl⟩
    obtain ⟨M, hM⟩ : ∃ M, M = mixP key nonce f b pre := ⟨_, rfl⟩
    have HML : Hid (M.length = n) := by unfold Hid; rw [hM, mixP_len, HN3.out]
    have HNX : Hid (splice (cb M) L (cb (xl ((b.drop L).take t) (B.take t))) = cb (mixP key nonce f b (pre ++ [x]))) := by
      unfold Hid; rw [hM, hL, hB]; exact mixP_next key nonce f b pre x t (by rw [← HN3.out, ← hL]; exact le) (by rw [ht, HN3.out, hL])
    rw [← hM] at bm
    obtain ⟨A', hA'⟩ : ∃ A', A' = if c3 = L then A3 else A3.map (·.add L) := ⟨_, rfl⟩
    have HA' := Lib.hid hA'
    have HAo : Hid (some (⟨gm, L, none⟩ : Addr) = if n = L then some (⟨gm, 0, none⟩ : Addr) else (some (⟨gm, 0, none⟩ : Addr)).map (·.add L)) := by
      unfold Hid
      rcases hL0 with h | h
      · subst h
        split <;> simp [Addr.add]
      · rw [if_neg (by omega)]
        simp [Addr.add_mid]
    have HT2 := Lib.hid ht
    have HL := Lib.hid hL
    have hsl : Sl W.drew w.heap.size A' (n - L) (cb (b.drop L)) := by
      have := sl_cut (k := L) (show Sl W.drew w.heap.size A3 n (cb b) from (h3.below hbl).map_ (fun _ _ => rfl)) le k3
      rw [← hA'] at this
      simpa [cb] using this
    have hoff : Off gm (n - L) A' := hsl.off (by omega)
    have htn : t ≤ n - L := by omega
    have ht64 : t ≤ 64 := by omega
    obtain ⟨S, hSd⟩ : ∃ S : World → Prop, S = fun w' => Bl w' gd [.int .i64 (L : Int)] 3 ∧ Bl w' go [.slice (some ⟨gm, 0, none⟩) n n] 22 ∧ Bl w' w.heap.size [.slice A3 n c3] 22 ∧ Bl w' Bx (cb B) 25 := ⟨_, rfl⟩
    have hS : S W.drew := by rw [hSd]; exact ⟨bd.drew, bo.drew, bb.drew, bB.drew⟩
    have HSn : Hid (∀ w', W.drew.grownBy w' (some gm) → S w') := by
      unfold Hid; intro w' hg; rw [hSd]
      exact ⟨bd.drew.grown hg (by simp; omega), bo.drew.grown hg (by simp; omega), bb.drew.grown hg (by simp; omega), bB.drew.grown hg (by simp; omega)⟩
    have HSd : Hid (∀ w', S w' → w'.cell? ⟨gd, 0, none⟩ = some (.int .i64 (L : Int))) := by unfold Hid; intro w' h; rw [hSd] at h; exact h.1.cell 0
    have HSo : Hid (∀ w', S w' → w'.cell? ⟨go, 0, none⟩ = some (.slice (some ⟨gm, 0, none⟩) n n)) := by unfold Hid; intro w' h; rw [hSd] at h; exact h.2.1.cell 0
    have HSb : Hid (∀ w', S w' → w'.cell? ⟨w.heap.size, 0, none⟩ = some (.slice A3 n c3)) := by unfold Hid; intro w' h; rw [hSd] at h; exact h.2.2.1.cell 0
    have HSB : Hid (∀ w', S w' → w'.rangeAt Bx 0 (cb B)) := by unfold Hid; intro w' h; rw [hSd] at h; exact h.2.2.2.whole
    have HBM := Lib.hid bm
    have HBD := Lib.hid bd
    have HBO := Lib.hid bo
    have HBB := Lib.hid bb
    have HSL := Lib.hid hsl
    clear hB hL ht hM hA' hSd lt bm bd bo bb bB hsl
    refine wpIn_block ?_
    refine wpIn_seq ?_
    refine wpIn_region_plain (wide_round l) (by rintro ⟨a', w', h⟩; exact h) (by kernel_rfl) (by kernel_rfl) ?_
    refine wpAny_of_K (S := S) (K := 10) _ _ _ _ ?_
    refine wpAnyK_take (i := 0) (v := (.int .i64 (L : Int))) rfl (by kernel_rfl) (by kernel_rfl) (by kernel_rfl) (by kernel_rfl) (fun _ _ _ h => h) (Or.inl ⟨by rfl, fun w9 hw9 => by have hq9 := HSd.out w9 hw9; go_simp⟩) hS ?_
    simp only [List.getElem_toArray, List.getElem_cons_succ, List.getElem_cons_zero, Act.put, List.setIfInBounds_toArray, List.set_cons_zero, List.set_cons_succ]
    refine wpAnyK_take (i := 1) (v := (.slice (some ⟨gm, 0, none⟩) n n)) rfl (by kernel_rfl) (by kernel_rfl) (by kernel_rfl) (by kernel_rfl) (fun _ _ _ h => h) (Or.inl ⟨by rfl, fun w9 hw9 => by have hq9 := HSo.out w9 hw9; go_simp⟩) hS ?_
    simp only [List.getElem_toArray, List.getElem_cons_succ, List.getElem_cons_zero, Act.put, List.setIfInBounds_toArray, List.set_cons_zero, List.set_cons_succ]
    refine wpAnyK_take (i := 2) (v := (.int .i64 (L : Int))) rfl (by kernel_rfl) (by kernel_rfl) (by kernel_rfl) (by kernel_rfl) (fun _ _ _ h => h) (Or.inl ⟨by rfl, fun w9 hw9 => by have hq9 := HSd.out w9 hw9; go_simp⟩) hS ?_
    simp only [List.getElem_toArray, List.getElem_cons_succ, List.getElem_cons_zero, Act.put, List.setIfInBounds_toArray, List.set_cons_zero, List.set_cons_succ]
    refine wpAnyK_take (i := 4) (v := (.slice A3 n c3)) rfl (by kernel_rfl) (by kernel_rfl) (by kernel_rfl) (by kernel_rfl) (fun _ _ _ h => h) (Or.inl ⟨by rfl, fun w9 hw9 => by have hq9 := HSb.out w9 hw9; go_simp⟩) hS ?_
    simp only [List.getElem_toArray, List.getElem_cons_succ, List.getElem_cons_zero, Act.put, List.setIfInBounds_toArray, List.set_cons_zero, List.set_cons_succ]
    refine wpAnyK_take (i := 5) (v := (.int .i64 (L : Int))) rfl (by kernel_rfl) (by kernel_rfl) (by kernel_rfl) (by kernel_rfl) (fun _ _ _ h => h) (Or.inl ⟨by rfl, fun w9 hw9 => by have hq9 := HSd.out w9 hw9; go_simp⟩) hS ?_
    simp only [List.getElem_toArray, List.getElem_cons_succ, List.getElem_cons_zero, Act.put, List.setIfInBounds_toArray, List.set_cons_zero, List.set_cons_succ]
    refine wpAnyK_take (i := 7) (v := .agg (cb B).toArray) rfl (by kernel_rfl) (by kernel_rfl) (by kernel_rfl) (by kernel_rfl) (fun _ _ _ h => h) (Or.inl ⟨by rfl, fun w9 hw9 => exec_load_mid w9 25 _ rfl Bx 0 rfl (cb B) _ (HSB.out w9 hw9) Tryd.underlying25 rfl (by rw [size_block, cb_len, HBL.out])⟩) hS ?_
    simp only [List.getElem_toArray, List.getElem_cons_succ, List.getElem_cons_zero, Act.put, List.setIfInBounds_toArray, List.set_cons_zero, List.set_cons_succ]
    refine wpAnyK_take0 (i := 3) (v := .slice (some ⟨gm, L, none⟩) (n - L) (n - L)) rfl (by kernel_rfl) (by kernel_rfl) (by kernel_rfl) (by kernel_rfl) (fun _ _ _ h => h) (Or.inl ⟨by rfl, fun w9 => exec_slice_from w9 22 5 _ _ rfl Tryd.underlying22 u8_size (some ⟨gm, 0, none⟩) n n L .i64 _ rfl rfl rfl le (Nat.le_refl _) (by intro h; cases h) _ HAo.out⟩) hS ?_
    simp only [List.getElem_toArray, List.getElem_cons_succ, List.getElem_cons_zero, Act.put, List.setIfInBounds_toArray, List.set_cons_zero, List.set_cons_succ]
    refine wpAnyK_take0 (i := 6) (v := .slice A' (n - L) (c3 - L)) rfl (by kernel_rfl) (by kernel_rfl) (by kernel_rfl) (by kernel_rfl) (fun _ _ _ h => h) (Or.inl ⟨by rfl, fun w9 => exec_slice_from w9 22 5 _ _ rfl Tryd.underlying22 u8_size A3 n c3 L .i64 _ rfl rfl rfl le k3 z3 _ HA'.out⟩) hS ?_
    simp only [List.getElem_toArray, List.getElem_cons_succ, List.getElem_cons_zero, Act.put, List.setIfInBounds_toArray, List.set_cons_zero, List.set_cons_succ]
    refine wpAnyK_one (i := 8) (by kernel_rfl) rfl (by decide) (by rfl) (fun K hK => ?_)
    simp only [List.getElem_toArray, List.getElem_cons_succ, List.getElem_cons_zero, Act.put, List.setIfInBounds_toArray, List.set_cons_zero, List.set_cons_succ]
    go_simp
    refine (mixb_any gm L (n - L) (n - L) (cb M) 5 (b.drop L) B A' (n - L) (c3 - L) w.heap.size t _ HBM.out.drew (by rw [cb_len, HML.out]; omega) HSL.out (by have := hbl.size; simp; omega) hoff HBL.out (Nat.le_refl _) (by omega) HT2.out).mono ?_
    rintro e w4 ⟨rfl, bm4, hg4⟩
    rw [HNX.out] at bm4
    replace hS := HSn.out _ hg4
    refine hK.out _ _ hS ?_
    clear hK K
    refine wpAnyK_take0 (i := 9) (v := (.int .i64 ((L : Int) + (t : Int)))) rfl (by kernel_rfl) (by kernel_rfl) (by kernel_rfl) (by kernel_rfl) (fun _ _ _ h => h) (Or.inl ⟨by rfl, fun _ => by go_simp; exact IntWalk.i64_in _ (by omega)⟩) hS ?_
    simp only [List.getElem_toArray, List.getElem_cons_succ, List.getElem_cons_zero, Act.put, List.setIfInBounds_toArray, List.set_cons_zero, List.set_cons_succ]
    have bd4 := HBD.out.drew.grown hg4 (by simp; omega)
    have bo4 := HBO.out.drew.grown hg4 (by simp; omega)
    have bb4 := HBB.out.drew.grown hg4 (by simp; omega)
    have hc4 := bd4.cell 0
    have hc4' : w4.cell? ⟨gd, 0, none⟩ = some (.int .i64 (L : Int)) := hc4
    have hf4 := bd4.frozen 0
    have hbl4 : Below w.heap.size w w4 := below_but hbl.drew hg4 (by have := hbl.size; simp; omega) (by omega)
    refine wpAnyK_K (by kernel_rfl) rfl (by rfl) (fun K hK => ?_)
    simp only [List.getElem_toArray, List.getElem_cons_succ, List.getElem_cons_zero, Act.put, List.setIfInBounds_toArray, List.set_cons_zero, List.set_cons_succ]
    go_simp
    refine hK.out _ _ ?_
    clear hK K hc4 hc4' hf4
    obtain ⟨W5, hW5⟩ : ∃ W, W = w4.setCell ⟨gd, 0, none⟩ (.int .i64 ((L : Int) + (t : Int))) := ⟨_, rfl⟩
    have bd5 := bd4.set 0 (.int .i64 ((L : Int) + (t : Int)))
    have bo5 := bo4.set_other ⟨gd, 0, none⟩ (.int .i64 ((L : Int) + (t : Int))) (by simp; omega)
    have bb5 := bb4.set_other ⟨gd, 0, none⟩ (.int .i64 ((L : Int) + (t : Int))) (by simp; omega)
    have bm5 := bm4.set_other ⟨gd, 0, none⟩ (.int .i64 ((L : Int) + (t : Int))) (by simp; omega)
    have hbl5 := hbl4.setCell (p := ⟨gd, 0, none⟩) (show w.heap.size ≤ gd by omega) (.int .i64 ((L : Int) + (t : Int)))
    have hg5 : w4.grownBy (w4.setCell ⟨gd, 0, none⟩ (.int .i64 ((L : Int) + (t : Int)))) (some gd) := but_setCell (but_refl w4 gd) 0 _
    rw [← hW5] at bd5 bo5 bb5 bm5 hbl5 hg5 ⊢
    have hkf : KeepsFrom w3.heap.size W W5 := ((KeepsOthers.drew W).from _).trans ((KeepsFrom.of_grownBy hg4 (fun j e => by cases e; omega)).trans (KeepsFrom.of_grownBy hg5 (fun j e => by cases e; omega)))
    have hlS : gS < W.heap.size := Nat.lt_of_lt_of_le hd3 sz
    have hkb : KeepsBl (bkeep gS) W W5 := fun g hg => by
      have h1 : g ≠ gm ∧ g ≠ gd ∧ g < W.heap.size := by rcases hg with rfl | rfl <;> omega
      have h2 : w4.heap[g]? = W.heap[g]? := hg4.block g h1.2.2 (by simp; exact h1.1)
      exact (hg5.block g (Nat.lt_of_lt_of_le h1.2.2 hg4.size) (by simp; exact h1.2.1)).trans h2
    have hz5 : w3.heap.size ≤ W5.heap.size := Nat.le_trans sz (Nat.le_trans hg4.size hg5.size)
    have hcd : W5.cell? ⟨gd, 0, none⟩ = some (.int .i64 ((L : Int) + (t : Int))) := bd5.cell 0
    have hcb : W5.cell? ⟨w.heap.size, 0, none⟩ = some (.slice A3 n c3) := bb5.cell 0
    have HPL : Hid ((pre ++ [x]).length = pre.length + 1) := by unfold Hid; simp
    clear hW5 bd4 bo4 bb4 bm4 hbl4 hg4 hg5 hS HSn HSd HSo HSb HSB
    refine wpAny_done (by kernel_rfl) ?_ _
    change Code.wpIn _ _ _ _ _ _ _
    by_cases hend : L + t = n
    · have hq : ((L : Int) + (t : Int) == (n : Int)) = true := by simp; omega
      gi_wp2
      exact ⟨hkf, rfl, by rw [HPL.out]; have := HL.out; omega, bm5, bo5, hbl5⟩
    · have hq : ((L : Int) + (t : Int) == (n : Int)) = false := by simp; omega
      have ht6 : t = 64 := by have := HT2.out; omega
      gi_wp2
      refine ⟨hkf, hkb, by rw [HPL.out]; have := HL.out; omega, .inr (by rw [HPL.out]; have := HL.out; omega), bb5, bm5, bo5, ?_, hz5, hbl5⟩
      have e : ((64 * (pre ++ [x]).length : Nat) : Int) = (L : Int) + (t : Int) := by rw [HPL.out]; have := HL.out; omega
      rw [e]
      exact bd5
  case done =>
    rintro D xs W hD rfl hI hK
    exfalso
    have h1 := hI.lt
    rw [List.length_range] at h1
    have h2 := HK.out
    unfold blksN at h2
    rcases h1 with h1 | h1
    · have := congrArg List.length h1
      rw [List.length_range] at this
      simp at this
      omega
    · omega
  case stop =>
    rintro D c pre W hD ⟨j, rfl⟩ hX hK
    obtain ⟨rfl, hall, bm, bo, hbl⟩ := hX
    rw [mixP_all _ _ _ _ _ (by rw [← HN3.out]; simpa using hall)] at bm
    have hc := bo.cell 0
    have hc' : W.cell? ⟨go, 0, none⟩ = some (.slice (some ⟨gm, 0, none⟩) n n) := hc
    clear hc
    have hmD : gm ≠ D := by omega
    refine wpIn_wide.2 ?_
    go_wp2
    refine ⟨by simp, .inl ⟨_, _, rfl, run_takeDeferred hK, ?_⟩⟩
    refine ⟨_, results_tmp2 rfl _ _ _, ?_⟩
    have bm5 : Bl (W.putObj D (.deferred none)) gm (cb (mixL key nonce f b)) 5 := bm.keep (World.putObj_heap_other hmD)
    have hbl5 : Below w.heap.size w (W.putObj D (.deferred none)) := hbl.trans (belowK_b (w := w) (Nat.le_refl _) W D _ _ (by omega) hK rfl rfl)
    exact ⟨_, n, n, rfl, (bm5.sl (o := 0) (n := n) (by rw [List.drop_zero, List.take_of_length_le (by rw [cb_len, mixL_len, HN3.out]; omega)]) (by rw [cb_len, mixL_len, HN3.out]; omega)).up bm5.lt, by rw [mixL_len, HN3.out], Nat.le_refl _, (fun h => by cases h), (fun ad h => by cases h; exact Nat.le_of_lt hlt1), hbl5⟩

end Go.Proofs.YtnhpamfmbledmaaDoor
