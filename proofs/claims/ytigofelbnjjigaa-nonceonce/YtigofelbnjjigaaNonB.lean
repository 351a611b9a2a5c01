/- Layer 10, nonce: Take. -/
import Derived.Test.YtigofelbnjjigaaNonA
import Derived.Test.YtigofelbnjjigaaNonE
namespace Go.Proofs.Ytigofelbnjjigaa
set_option maxRecDepth 100000
open Go Go.RowKit
set_option linter.unusedVariables false
set_option linter.unusedSimpArgs false

/-- The nonces of the next k numbers. -/
def nls (e l k : Nat) : List (List UInt8) := (List.range k).map fun i => nonceL e (l + 1 + i)
theorem nls_len (e l k : Nat) : (nls e l k).length = k := by simp [nls]
theorem nls_next (e l k : Nat) : nls e l (k + 1) = nls e l k ++ [nonceL e (l + k + 1)] := by
  unfold nls
  rw [List.range_succ, List.map_append]
  simp
  congr 1; omega
theorem nls_at {e l k j : Nat} (h : j < (nls e l k).length) : (nls e l k)[j] = nonceL e (l + 1 + j) := by simp [nls]
/-- What Take tells. -/
def takeE (e l n : Int) : Int := if cnok e l = true ∧ 0 ≤ n ∧ n ≤ 4096 then (if 1099511627776 - l < n then 10 else 0) else 1
def takeC (e l n : Int) : List Value := if takeE e l n = 0 then cnt e (l + n) else cnt 0 0
def takeL (e l n : Int) : List (List UInt8) := if takeE e l n = 0 then nls e.toNat l.toNat n.toNat else []
def TakePost (w : World) (e l n : Int) (r : Ending) (w' : World) : Prop := ∃ v, r = .returned (.tuple #[v, .agg (takeC e l n).toArray, .int .i64 (takeE e l n)]) ∧ OwnParts 30 w' w.heap.size v (takeL e l n) ∧ Below w.heap.size w w' /- 23 -/

theorem nbytes_ok (e l : Nat) (he : e ≤ 64) (hl : l ≤ 1099511627776) (L : Int) (hL : L = (l : Int)) (w : World) : Calls Try.prog 18 #[.agg (cnt e L).toArray] w (RetBytes 53 w 12 (nonceL e l)) := by
  subst hL
  have h := nbytes_any e l w
  have e1 : nbL e l = nonceL e l := by unfold nbL; rw [if_pos ((cnok_iff _ _).2 (by omega))]; simp
  rw [e1, nonceL_len] at h
  exact h

theorem takePost_no {w w' : World} {e l n : Int} {E : Int} (he : takeE e l n = E) (h0 : E ≠ 0) (hb : Below w.heap.size w w') : TakePost w e l n (.returned (.tuple #[.slice none 0 0, .agg (cnt 0 0).toArray, .int .i64 E])) w' := by
  refine ⟨.slice none 0 0, ?_, ?_, hb⟩
  · unfold takeC; rw [he, if_neg h0]
  · unfold takeL; rw [he, if_neg h0]; exact ownParts_nil _ _ _

/-- How long a slice is. -/
def slLen : Value → Nat
  | .slice _ n _ => n
  | _ => 0

set_option maxHeartbeats 2000000 in
theorem ntake_any (e l n : Int) (w : World) : Calls Try.prog 8 #[.agg (cnt e l).toArray, .int .i64 n] w (TakePost w e l n) := by
  obtain ⟨W, HW, b0, hb0, hsz, hc0, hc1⟩ := put_cn w e l 23
  obtain ⟨W2, HW2, b2, hb2, hsz2, _, _⟩ := put_cn W 0 0 23
  have bc := b0.next hb2
  have hbb := next hb0 hb2
  obtain ⟨g, hg⟩ : ∃ g, g = W.heap.size := ⟨_, rfl⟩
  have hgl : w.heap.size < g := by omega
  rw [← hg] at b2
  have HG := Lib.hid hg
  have HBC := Lib.hid bc
  obtain ⟨ok, hok⟩ : ∃ ok, ok = cnok e l := ⟨_, rfl⟩
  have hcall := nright_any e l W2
  rw [← hok] at hcall
  have HC := Lib.hid hcall
  have hE : takeE e l n = if ok = true ∧ 0 ≤ n ∧ n ≤ 4096 then (if 1099511627776 - l < n then 10 else 0) else 1 := by unfold takeE; rw [← hok]
  have hin : ok = true → 0 ≤ e ∧ e ≤ 64 ∧ 0 ≤ l ∧ l ≤ 1099511627776 := by rw [hok]; exact (cnok_iff e l).1
  have HE := Lib.hid hE
  have HIN := Lib.hid hin
  clear hok hcall hsz hsz2 hg hc0 hc1 b0 bc hb0 hb2 hE hin
  rcases (show (ok = false ∨ (ok = true ∧ n < 0) ∨ (ok = true ∧ ¬ n < 0 ∧ 4096 < n)) ∨ (ok = true ∧ ¬ n < 0 ∧ ¬ 4096 < n) by rcases ok with _ | _ <;> simp <;> omega) with hbad | ⟨rfl, h1, h2⟩
  · have he : takeE e l n = 1 := by rw [HE.out, if_neg (by rcases hbad with rfl | ⟨rfl, h⟩ | ⟨rfl, h, h'⟩ <;> simp <;> omega)]
    have HP : Hid (∀ w', Below w.heap.size w w' → TakePost w e l n (.returned (.tuple #[.slice none 0 0, .agg (cnt 0 0).toArray, .int .i64 1])) w') := fun w' hb => takePost_no he (by decide) hb
    clear he HE HIN
    go_enter Try.func8, Try.ntmps8
    rcases hbad with rfl | ⟨rfl, h1⟩ | ⟨rfl, h1, h2⟩
    all_goals
      go_wp2_with (first
        | (refine wpList_box_agg rfl 23 _ rfl (cnt e l) rfl ?_; rw [HW.out])
        | (refine wpList_alloc_zero rfl 23 rfl (cnt 0 0) zero_cn ?_; rw [HW2.out, ← HG.out])
        | (refine wpList_load_mid rfl 23 _ rfl _ _ rfl (cnt e l) _ HBC.out.whole Try.underlying23 rfl size_cn ?_)
        | (go_at_call 10; refine HC.out.mono ?_; rintro r w3 ⟨rfl, hb3⟩; have b3 := b2.next hb3; have hbw := next hbb hb3)
        | (refine wpList_build_to rfl 23 _ rfl (cnt 0 0) built_cn0 ?_)
        | (refine wpList_store_mid rfl 23 _ _ rfl _ _ (cnt 0 0).toArray rfl rfl (b3.there_ (by simp [cnt])) size_cn (all_oneCell_toArray (cnt_one _ _)) ?_))
      exact ret_tmp_row_tmp Try.results8 rfl (b3.over (vs := cnt 0 0) rfl) Try.underlying23 rfl size_cn rfl (HP.out _ (below_setCells hbw (by omega) _ _))
  · obtain ⟨i1, i2, i3, i4⟩ := HIN.out rfl
    by_cases hcap : 1099511627776 - l < n
    · have he : takeE e l n = 10 := by rw [HE.out, if_pos ⟨rfl, by omega, by omega⟩, if_pos hcap]
      have HP : Hid (∀ w', Below w.heap.size w w' → TakePost w e l n (.returned (.tuple #[.slice none 0 0, .agg (cnt 0 0).toArray, .int .i64 10])) w') := fun w' hb => takePost_no he (by decide) hb
      clear he HE HIN
      go_enter Try.func8, Try.ntmps8
      go_wp2_with (first
        | (refine wpList_box_agg rfl 23 _ rfl (cnt e l) rfl ?_; rw [HW.out])
        | (refine wpList_alloc_zero rfl 23 rfl (cnt 0 0) zero_cn ?_; rw [HW2.out, ← HG.out])
        | (refine wpList_load_mid rfl 23 _ rfl _ _ rfl (cnt e l) _ HBC.out.whole Try.underlying23 rfl size_cn ?_)
        | (go_at_call 10; refine HC.out.mono ?_; rintro r w3 ⟨rfl, hb3⟩; have b3 := b2.next hb3; have bc3 := HBC.out.next hb3; have hbw := next hbb hb3; have hc1 : w3.cell? ⟨w.heap.size, 1, none⟩ = some (.int .i64 l) := (by rw [bc3.cell]; rfl))
        | (refine wpList_build_to rfl 23 _ rfl (cnt 0 0) built_cn0 ?_)
        | (refine wpList_store_mid rfl 23 _ _ rfl _ _ (cnt 0 0).toArray rfl rfl (b3.there_ (by simp [cnt])) size_cn (all_oneCell_toArray (cnt_one _ _)) ?_))
      exact ret_tmp_row_tmp Try.results8 rfl (b3.over (vs := cnt 0 0) rfl) Try.underlying23 rfl size_cn rfl (HP.out _ (below_setCells hbw (by omega) _ _))
    · have he : takeE e l n = 0 := by rw [HE.out, if_pos ⟨rfl, by omega, by omega⟩, if_neg hcap]
      obtain ⟨en, rfl⟩ : ∃ en : Nat, e = en := ⟨e.toNat, by omega⟩
      obtain ⟨ln, rfl⟩ : ∃ ln : Nat, l = ln := ⟨l.toNat, by omega⟩
      obtain ⟨m, rfl⟩ : ∃ m : Nat, n = m := ⟨n.toNat, by omega⟩
      obtain ⟨j0, ji, jz0, jz1, jz2⟩ := info_parts bytes_info
      have HP : Hid (∀ v w', OwnParts 30 w' w.heap.size v (nls en ln m) → Below w.heap.size w w' → TakePost w en ln m (.returned (.tuple #[v, .agg (cnt en ((ln : Int) + (m : Int))).toArray, .int .i64 0])) w') := by
        intro v w' ho hb
        refine ⟨v, ?_, ?_, hb⟩
        · unfold takeC; rw [he, if_pos rfl]
        · unfold takeL; rw [he, if_pos rfl]; simpa using ho
      clear he HE HIN
      go_enter Try.func8, Try.ntmps8
      go_wp2_with (first
        | (refine wpList_box_agg rfl 23 _ rfl (cnt en ln) rfl ?_; rw [HW.out])
        | (refine wpList_alloc_zero rfl 23 rfl (cnt 0 0) zero_cn ?_; rw [HW2.out, ← HG.out])
        | (refine wpList_load_mid rfl 23 _ rfl _ _ rfl (cnt en ln) _ HBC.out.whole Try.underlying23 rfl size_cn ?_)
        | (go_at_call 10; refine HC.out.mono ?_; rintro r w3 ⟨rfl, hb3⟩; have b3 := b2.next hb3; have bc3 := HBC.out.next hb3; have hbw := next hbb hb3; have hc1 : w3.cell? ⟨w.heap.size, 1, none⟩ = some (.int .i64 ln) := (by rw [bc3.cell]; rfl))
        | (at_make; refine wpList_make_none _ rfl _ _ 24 rfl w3.heap.size 30 j0 (.slice none 0 0) Try.underlying24 ji jz0 jz1 rfl .i64 .i64 _ _ m rfl rfl rfl rfl (by rw [jz2]; omega) (by unfold maxLen; omega) (Nat.le_refl _) ?_; intro w4 hown hgrow; have b4 := b3.grown hgrow (by simp); have bc4 := bc3.grown hgrow (by simp); have hbw4 : Below w.heap.size w w4 := hbw.grown hgrow hbw.size (by simp); have hd0 : w4.cell? ⟨w.heap.size, 0, none⟩ = some (.int .i64 en) := (by rw [bc4.cell]; rfl); have hd1 : w4.cell? ⟨w.heap.size, 1, none⟩ = some (.int .i64 ln) := (by rw [bc4.cell]; rfl); obtain ⟨W5, HW5, hth, b5, hb5, hsz5, _, _⟩ := put_cn2 w4 en ((ln : Int) + (m : Int)) 23)
        | (refine wpList_build_to rfl 23 _ rfl (cnt en ((ln : Int) + (m : Int))) (built_cn _ _) ?_)
        | (refine wpList_alloc_zero rfl 23 rfl (cnt 0 0) zero_cn ?_)
        | (refine wpList_store_mid rfl 23 _ _ rfl _ _ (cnt en ((ln : Int) + (m : Int))).toArray rfl rfl hth size_cn (all_oneCell_toArray (cnt_one _ _)) ?_; rw [HW5.out])
        | fail)
      have hop : OwnParts 30 W5 w3.heap.size (.slice (some ⟨w3.heap.size, 0, none⟩) 0 m) (nls en ln 0) := ⟨[], own_below hown hb5, fun j hj => absurd hj (by simp [nls])⟩
      have hg3 : g < w3.heap.size := b3.lt
      have bc5 := bc4.next hb5
      have b25 := b4.next hb5
      have hbw5 := next hbw4 hb5
      obtain ⟨gE, hgE⟩ : ∃ x, x = w4.heap.size := ⟨_, rfl⟩
      have hgE2 : g < gE := by rw [hgE]; exact b4.lt
      have hne0 : (Value.slice (some ⟨w3.heap.size, 0, none⟩) 0 m).ownBlock ≠ some gE := by rw [hgE]; have := (hown.lt w3.heap.size rfl).2; simp only [Value.ownBlock, ne_eq, Option.some.injEq]; omega
      rw [← hgE] at b5 ⊢
      clear hgE hown hgrow hth hb5 bc4 b4 hbw4 hd0 hd1 hc1 bc3 b3 hbw hb3 HW5 hsz5 HBC HC b2 hbb HW HW2 HG
      go_loopw [7] (fun v wr => ∃ k : Nat, k ≤ m ∧ OwnParts 30 wr (g + 1) v (nls en ln k) ∧ v.ownBlock ≠ some gE ∧ Bl wr w.heap.size (cnt en ((ln : Int) + (k : Int))) 23 ∧ Bl wr gE (cnt en ((ln : Int) + (m : Int))) 23 ∧ Bl wr g (cnt 0 0) 23 ∧ Below w.heap.size w wr) (fun v _ => m - slLen v)
      case atStart => exact ⟨0, Nat.zero_le _, hop.down hg3, hne0, by simpa using bc5, b5, b25, hbw5⟩
      case round =>
        clear hop bc5 b5 b25 hbw5 hne0
        obtain ⟨k, hk, ho, hne, bk, bE, bz, hbk⟩ := hrel
        by_cases hlt : k < m
        · have hcell : wr.cell? ⟨w.heap.size, 1, none⟩ = some (.int .i64 ((ln : Int) + (k : Int))) := by rw [bk.cell]; rfl
          have hfr := bk.frozen 1
          have bs : Bl (wr.setCell ⟨w.heap.size, 1, none⟩ (.int .i64 ((ln : Int) + (k : Int) + 1))) w.heap.size (cnt en ((ln : Int) + (k : Int) + 1)) 23 := bk.set 1 _
          have bEs := bE.set_other ⟨w.heap.size, 1, none⟩ (.int .i64 ((ln : Int) + (k : Int) + 1)) (show gE ≠ w.heap.size by omega)
          have bzs := bz.set_other ⟨w.heap.size, 1, none⟩ (.int .i64 ((ln : Int) + (k : Int) + 1)) (show g ≠ w.heap.size by omega)
          have hbs : Below w.heap.size w (wr.setCell ⟨w.heap.size, 1, none⟩ (.int .i64 ((ln : Int) + (k : Int) + 1))) := hbk.setCell (Nat.le_refl _) _
          have hos : OwnParts 30 (wr.setCell ⟨w.heap.size, 1, none⟩ (.int .i64 ((ln : Int) + (k : Int) + 1))) (g + 1) u7 (nls en ln k) := ho.kept (fun i hi _ => heap_setCell_other _ _ _ _ (by simp; omega)) (by rw [heap_size_setCell]; exact Nat.le_refl _)
          go_wp2_with (first
            | (refine wpList_load_mid rfl 23 _ rfl _ _ rfl _ _ bk.whole Try.underlying23 rfl size_cn ?_)
            | (refine wpList_load_mid rfl 23 _ rfl _ _ rfl _ _ bE.whole Try.underlying23 rfl size_cn ?_)
            | (refine wpList_load_mid rfl 23 _ rfl _ _ rfl _ _ bs.whole Try.underlying23 rfl size_cn ?_)
            | (refine wpList_value rfl (.bool true) (exec_neq_cn _ _ _ _ en ((ln : Int) + (k : Int)) en ((ln : Int) + (m : Int)) rfl rfl rfl true (by have : ¬ ((ln : Int) + (k : Int)) = ((ln : Int) + (m : Int)) := (by omega); simp [this])) ?_)
            | fail)
          obtain ⟨W6, hW6⟩ : ∃ W, W = wr.setCell ⟨w.heap.size, 1, none⟩ (.int .i64 ((ln : Int) + (k : Int) + 1)) := ⟨_, rfl⟩
          rw [← hW6] at bs bEs bzs hbs hos ⊢
          clear hW6 hcell hfr ho bk bE bz hbk
          refine (nbytes_ok en (ln + k + 1) (by omega) (by omega) _ (by omega) W6).mono ?_
          rintro r w7 ⟨A7, c7, rfl, n7⟩
          obtain ⟨cs, hos⟩ := hos
          have hoff := hos.off_new (n := 12) (A := A7) (own_new (w' := w7) n7.own)
          have hbase : ∀ ad, A7 = some ad → g + 1 ≤ ad.block := fun ad e => Nat.le_trans bzs.lt (own_new (w' := w7) n7.own ad e)
          have hos7 := hos.next n7.below
          have bs7 := bs.next n7.below
          have bE7 := bEs.next n7.below
          have bz7 := bzs.next n7.below
          have hb7 := next hbs n7.below
          have hbl : Below w7.heap.size w7 (w7.alloc (.cells #[.slice A7 12 c7] 30)) := (Below.refl _ w7).alloc (Nat.le_refl _) _
          have hos8 := hos7.next hbl
          have s8 := n7.sl.nx hbl
          have hown := hos8.1
          rw [nls_len] at hown
          have hg7 : g + 1 ≤ (w7.alloc (.cells #[.slice A7 12 c7] 30)).heap.size := by have := bz7.lt; simp; omega
          have HN := Lib.hid (nls_next en ln k)
          have HC7 := Lib.hid (own_cap n7.own)
          have HZ7 := Lib.hid n7.none_
          clear hos hos7 bs bEs bzs hbs n7
          go_wp2_with (first
            | (at_builtin; refine wpList_append_own_at _ rfl _ _ 24 rfl (g + 1) 30 j0 (.slice none 0 0) 1 24 Try.underlying24 ji jz0 jz1 jz2 rfl (by decide) _ _ _ rfl hown ⟨w7.heap.size, 0, none⟩ 1 1 _ rfl rfl (cell_one_new _ _ _) (by simp [Value.oneCell']) (by unfold maxLen; omega) (by omega) hg7 ?_; intro v' w9 hown' hgrow hnil hat)
            | fail)
          have hop := hos8.push (l := nonceL en (ln + k + 1)) (nonceL_len _ _).symm s8 HC7.out HZ7.out hoff hbase (by rw [nls_len]; exact hown') hgrow hat
          rw [← HN.out] at hop
          have ne1 : ∀ x, x < g + 1 → u7.ownBlock ≠ some x := fun x hx e => by have := own_blk hown e; omega
          have bs9 := (bs7.next hbl).grown hgrow (ne1 _ (by omega))
          have bz9 := (bz7.next hbl).grown hgrow (ne1 _ (by omega))
          have hb9 : Below w.heap.size w w9 := (next hb7 hbl).grown hgrow (next hb7 hbl).size (fun x hx => by have := own_blk hown hx; omega)
          have bE9 := (bE7.next hbl).grown hgrow hne
          have hne9 : v'.ownBlock ≠ some gE := by
            rcases hat with e | e
            · rw [e]; exact hne
            · rw [e]; have := bE7.lt; simp only [ne_eq, Option.some.injEq, alloc_size]; omega
          obtain ⟨X1, Y1, e1⟩ := own_form hos8.1
          obtain ⟨X2, Y2, e2⟩ := hop.form
          rw [nls_len] at e1 e2
          have hms : m - slLen v' < m - slLen u7 := by rw [e1, e2]; simp only [slLen]; omega
          refine ⟨⟨k + 1, by omega, hop, hne9, by rw [show (ln : Int) + ((k + 1 : Nat) : Int) = (ln : Int) + (k : Int) + 1 by omega]; exact bs9, bE9, bz9, hb9⟩, hms⟩
        · have hkm : k = m := by omega
          subst hkm
          have hof : OwnParts 30 (wr.drew.setCells g 0 (cnt en ((ln : Int) + (k : Int)))) w.heap.size u7 (nls en ln k) := ((ho.next ((Below.refl _ wr).drew)).kept (fun i hi _ => heap_setCells_other g i (by omega) _ _ _) (by rw [size_setCells]; exact Nat.le_refl _)).down (show w.heap.size ≤ g + 1 by omega)
          have hbf := below_setCells hbk.drew (Nat.le_of_lt hgl) 0 (cnt en ((ln : Int) + (k : Int)))
          go_wp2_with (first
            | (refine wpList_load_mid rfl 23 _ rfl _ _ rfl _ _ bk.whole Try.underlying23 rfl size_cn ?_)
            | (refine wpList_load_mid rfl 23 _ rfl _ _ rfl _ _ bE.whole Try.underlying23 rfl size_cn ?_)
            | (refine wpList_value rfl (.bool false) (exec_neq_cn _ _ _ _ en ((ln : Int) + (k : Int)) en ((ln : Int) + (k : Int)) rfl rfl rfl false (by simp)) ?_)
            | fail)
          refine wp_region_any (by kernel_rfl) ?_
          change wpAny _ _ _ _ _ _ _ (World.drew _)
          refine wpAny_take (i := 0) (v := (u7)) rfl (by kernel_rfl) (by kernel_rfl) (by kernel_rfl) (fun _ _ _ h => h) (Or.inl ⟨by rfl, fun _ => by go_simp⟩) ?_
          simp only [List.getElem_toArray, List.getElem_cons_succ, List.getElem_cons_zero, Act.put, List.setIfInBounds_toArray, List.set_cons_zero, List.set_cons_succ]
          refine wpAny_take (i := 2) (v := (u7)) rfl (by kernel_rfl) (by kernel_rfl) (by kernel_rfl) (fun _ _ _ h => h) (Or.inl ⟨by rfl, fun _ => by go_simp⟩) ?_
          simp only [List.getElem_toArray, List.getElem_cons_succ, List.getElem_cons_zero, Act.put, List.setIfInBounds_toArray, List.set_cons_zero, List.set_cons_succ]
          refine wpAny_one (i := 1) (by kernel_rfl) rfl (by rfl) (fun K hK => ?_)
          simp only [List.getElem_toArray, List.getElem_cons_succ, List.getElem_cons_zero, Act.put, List.setIfInBounds_toArray, List.set_cons_zero, List.set_cons_succ]
          refine wp_load_mid 23 _ rfl gE 0 rfl (cnt en ((ln : Int) + (k : Int))) _ bE.drew.whole Try.underlying23 rfl size_cn ?_
          refine hK.out _ _ ?_
          clear hK K
          refine wpAny_one (i := 3) (by kernel_rfl) rfl (by rfl) (fun K hK => ?_)
          simp only [List.getElem_toArray, List.getElem_cons_succ, List.getElem_cons_zero, Act.put, List.setIfInBounds_toArray, List.set_cons_zero, List.set_cons_succ]
          refine wp_store_mid 23 _ _ rfl _ _ (cnt en ((ln : Int) + (k : Int))).toArray rfl rfl (bz.drew.there_ (by simp [cnt])) size_cn (all_oneCell_toArray (cnt_one _ _)) ?_
          refine hK.out _ _ ?_
          clear hK K
          refine wpAny_take (i := 4) (v := (.int .i64 0)) rfl (by kernel_rfl) (by kernel_rfl) (by kernel_rfl) (fun _ _ _ h => h) (Or.inl ⟨by rfl, fun _ => by go_simp⟩) ?_
          simp only [List.getElem_toArray, List.getElem_cons_succ, List.getElem_cons_zero, Act.put, List.setIfInBounds_toArray, List.set_cons_zero, List.set_cons_succ]
          refine wpAny_done (by kernel_rfl) ?_ _
          go_wp2
          exact ret_tmp_row_tmp Try.results8 rfl (bz.drew.over (vs := cnt en ((ln : Int) + (k : Int))) rfl) Try.underlying23 rfl size_cn rfl (HP.out _ _ hof hbf)

end Go.Proofs.Ytigofelbnjjigaa
