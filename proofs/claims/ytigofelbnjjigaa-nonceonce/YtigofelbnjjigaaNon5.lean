/- NonceOnce: the walk of the law. -/
import Derived.Test.YtigofelbnjjigaaNon4
namespace Go.Proofs.Ytigofelbnjjigaa
set_option maxRecDepth 100000
open Go Go.RowKit
set_option linter.unusedVariables false
set_option linter.unusedSimpArgs false

/-- The last nonce that was taken came ahead of what the counter gives next. -/
def LastOk (e l : Int) (q : List UInt8) : Prop := q = [] ∨ ∃ e' l' : Nat, q = nonceL e' l' ∧ (e' : Int) ≤ e ∧ (l' : Int) ≤ l ∧ e' ≤ 64 ∧ l' ≤ 1099511627776
theorem LastOk.up {e l e2 l2 : Int} {q : List UInt8} (h : LastOk e l q) (he : e ≤ e2) (hl : l ≤ l2) : LastOk e2 l2 q := by
  rcases h with h | ⟨e', l', h1, h2, h3, h4⟩
  · exact .inl h
  · exact .inr ⟨e', l', h1, by omega, by omega, h4⟩
theorem LastOk.leq {e l : Nat} {q : List UInt8} (h : LastOk e l q) (he : e ≤ 64) (hl : l + 1 ≤ 1099511627776) : (Op.bytesLess (nonceL e (l + 1)) q || nonceL e (l + 1) == q) = false := by
  rcases h with rfl | ⟨e', l', rfl, h2, h3, h4, h5⟩
  · exact not_leq_nil (by rw [nonceL_len]; omega)
  · exact not_leq (by rw [nonceL_len, nonceL_len]) (nonceL_lt (by omega) (by omega) (by omega) (by omega) (by omega))
theorem lastOk_new (e l : Nat) (he : e ≤ 64) (hl : l ≤ 1099511627776) : LastOk e l (nonceL e l) := .inr ⟨e, l, rfl, by omega, by omega, he, hl⟩

/-- The cells of a step. -/
def dC (t : Bool) (n : Int) : List Value := [.bool t, .int .i64 n]
theorem dC_one (t : Bool) (n : Int) : ∀ v ∈ dC t n, v.oneCell' = true := by
  intro v hv
  simp only [dC, List.mem_cons, List.not_mem_nil, or_false] at hv
  rcases hv with rfl | rfl <;> rfl
theorem dC_at {w : World} {p : Addr} {t : Bool} {n : Int} (h0 : w.cell? p = some (.bool t)) (h1 : w.cell? (p.add 1) = some (.int .i64 n)) : ∀ j v, (dC t n)[j]? = some v → w.cell? (p.add j) = some v := by
  intro j v hv
  match j, hv with
  | 0, hv => simp only [dC, List.getElem?_cons_zero, Option.some.injEq] at hv; rw [← hv, add_none]; exact h0
  | 1, hv => simp only [dC, List.getElem?_cons_succ, List.getElem?_cons_zero, Option.some.injEq] at hv; rw [← hv]; exact h1
  | j + 2, hv => simp [dC] at hv

theorem size_d10 : (Try.prog.info? 44).map (·.size) = some 2 := by kernel_rfl

theorem zero_d10 : (Try.prog.info? 44).map (·.zero) = some (some (.agg (dC false 0).toArray)) := by kernel_rfl

/-- A step is put into a new variable: the world behind it under a name. -/
theorem put_d10 (w : World) (t : Bool) (n : Int) (T : TypeId) : ∃ W, Hid ((w.alloc (.cells (dC false 0).toArray T)).setCells w.heap.size 0 (dC t n).toArray.toList = W) ∧ (w.alloc (.cells (dC false 0).toArray T)).there w.heap.size 0 (dC t n).toArray.size ∧
    Bl W w.heap.size (dC t n) T ∧ Below w.heap.size w W ∧ W.heap.size = w.heap.size + 1 ∧ W.cell? ⟨w.heap.size, 0, none⟩ = some (.bool t) ∧ W.cell? ⟨w.heap.size, 1, none⟩ = some (.int .i64 n) := by
  obtain ⟨b0, hb0, hsz0⟩ := put_new w (dC false 0) (dC t n) T rfl
  exact ⟨_, (rfl : _ = _), (Bl.new w (dC false 0) T).there_ (by simp [dC]), b0, hb0, hsz0, by rw [b0.cell]; rfl, by rw [b0.cell]; rfl⟩

theorem turn_ways (e l n : Int) : (turnE e l n = 0 ∧ turnC e l n = cnt n l ∧ e < n) ∨ (turnE e l n = 1 ∧ turnC e l n = cnt 0 0) := by
  unfold turnE turnC
  by_cases h : cnok e l = true ∧ e < n ∧ n ≤ 64
  · rw [if_pos h, if_pos h]; exact .inl ⟨rfl, rfl, h.2.1⟩
  · rw [if_neg h, if_neg h]; exact .inr ⟨rfl, rfl⟩

set_option maxHeartbeats 4000000 in
theorem nonceOnce_walk (v0 : Value) (A1 : Option Addr) (n1 c1 : Nat) (l1 : List (Bool × Int)) (w : World) (s0 : CnIn w v0) (s1 : InDo10 w A1 n1 c1 l1) :
    Calls Try.prog 6 #[v0, .slice A1 n1 c1] w fun e w' => e = .returned (.bool true) ∧ Below w.heap.size w w' := by
  obtain ⟨e0, l0, rfl, _, _⟩ := s0
  obtain ⟨W, HW, b0, hb0, hsz, _, _⟩ := put_cn w e0 l0 23
  have HD := Lib.hid s1.dos
  have HN1 := Lib.hid s1.len
  clear s1
  go_enter Try.func6, Try.ntmps6
  by_cases h30 : 30 < n1
  · have h30' : (30 : Int) < (n1 : Int) := by omega
    go_wp2_with (first
      | (refine wpList_box_agg rfl 23 _ rfl (cnt e0 l0) rfl ?_; rw [HW.out])
      | (go_at_call 12; refine (awake10_any _).mono ?_; rintro r w9 ⟨rfl, hb9⟩))
    go_ret
    exact ⟨rfl, next hb0 hb9⟩
  · have h30' : ¬ (30 : Int) < (n1 : Int) := by omega
    obtain ⟨gc, hgc⟩ : ∃ g, g = w.heap.size := ⟨_, rfl⟩
    rw [← hgc] at b0
    have HGC : Hid (w.heap.size = gc) := hgc.symm
    clear hgc
    go_wp2_with (first
      | (refine wpList_box_agg rfl 23 _ rfl (cnt e0 l0) rfl ?_; rw [HW.out, HGC.out])
      | fail)
    clear HW hsz
    go_loopw [5, 21] (fun s i wr => ∃ (k : Nat) (e l : Int) (q : List UInt8), k ≤ n1 ∧ i = .int .i64 (k : Int) ∧ s = .string ⟨q.toArray⟩ ∧ LastOk e l q ∧ Bl wr gc (cnt e l) 23 ∧ Below w.heap.size w wr) (fun _ i _ => n1 - (intOf i).toNat)
    case atStart => exact ⟨0, e0, l0, [], Nat.zero_le _, rfl, rfl, .inl rfl, b0, hb0⟩
    case round =>
      clear b0 hb0
      obtain ⟨k, e, l, q, hk, rfl, rfl, hq, bc, hb⟩ := hrel
      by_cases hlt : k < n1
      · have hkl : k < l1.length := by have := HN1.out; omega
        obtain ⟨ad, rfl, hat⟩ := HD.out k hkl
        obtain ⟨⟨t, N⟩, hx⟩ : ∃ x, x = l1[k] := ⟨_, rfl⟩
        rw [← hx] at hat
        obtain ⟨hal, hc0, hc1, _⟩ := hat.below hb
        have hcc := dC_at hc0 hc1
        have hi0 : (0 : Int) ≤ (k : Int) := by omega
        have hi1 : (k : Int) < (n1 : Int) := by omega
        obtain ⟨W2, HW2, hth2, b2, hb2, hsz2, hd0, hd1⟩ := put_d10 wr t N 44
        have bc2 := bc.next hb2
        have hbw := hb.trans (hb2.mono hb.size)
        obtain ⟨gd, hgd⟩ : ∃ g, g = wr.heap.size := ⟨_, rfl⟩
        have hne : gd ≠ gc := by have := bc.lt; omega
        rw [← hgd] at b2 hd0 hd1
        have HGD := Lib.hid hgd
        have hgcl : w.heap.size ≤ gc := by have := HGC.out; omega
        clear hx hat hc0 hc1 hb2 hgd hsz2
        cases t with
        | true =>
          go_wp2_with (first
            | (refine wpList_load_at rfl 44 _ rfl (ad.add (k * 2)) rfl (dC true N) _ hcc Try.underlying44 rfl size_d10 ?_)
            | (refine wpList_alloc_zero rfl 44 rfl (dC false 0) zero_d10 ?_; rw [← HGD.out])
            | (refine wpList_store_mid rfl 44 _ _ rfl _ _ (dC true N).toArray rfl rfl (by rw [HGD.out]; exact hth2) size_d10 (all_oneCell_toArray (dC_one _ _)) ?_; rw [HGD.out, HW2.out, ← HGD.out])
            | (refine wpList_load_mid rfl 23 _ rfl _ _ rfl (cnt e l) _ bc2.whole Try.underlying23 rfl size_cn ?_)
            | fail)
          have ht := nturn_any e l N W2
          rcases turn_ways e l N with ⟨q1, q2, q3⟩ | ⟨q1, q2⟩
          · rw [q1, q2] at ht
            refine ht.mono ?_
            rintro r w3 ⟨rfl, hb3⟩
            obtain ⟨W4, HW4, hth4, b4, hb4, hsz4, _, _⟩ := put_cn2 w3 N l 23
            have bc4 := (bc2.next hb3).next hb4
            have hb4' := next (next hbw hb3) hb4
            have bc5 := bc4.over (vs := cnt N l) rfl
            have hb5 := below_setCells hb4' hgcl 0 (cnt N l)
            clear ht q1 q2 bc2 b2 HW2 hth2 hcc hd0 hd1 hb3 hb4 hsz4
            go_wp2_with (first
              | (refine wpList_alloc_zero rfl 23 rfl (cnt 0 0) zero_cn ?_)
              | (refine wpList_store_mid rfl 23 _ _ rfl _ _ (cnt N l).toArray rfl rfl hth4 size_cn (all_oneCell_toArray (cnt_one _ _)) ?_; rw [HW4.out])
              | (refine wpList_load_mid rfl 23 _ rfl _ _ rfl (cnt N l) _ b4.whole Try.underlying23 rfl size_cn ?_)
              | (refine wpList_store_mid rfl 23 _ _ rfl _ _ (cnt N l).toArray rfl rfl (bc4.there_ (by simp [cnt])) size_cn (all_oneCell_toArray (cnt_one _ _)) ?_))
            go_roundw
            case rel => exact ⟨k + 1, N, l, q, by omega, by go_num, rfl, hq.up (by omega) (Int.le_refl _), bc5, hb5⟩
            case measure => simp [intOf]; omega
          · rw [q1, q2] at ht
            refine ht.mono ?_
            rintro r w3 ⟨rfl, hb3⟩
            obtain ⟨W4, HW4, hth4, b4, hb4, hsz4, _, _⟩ := put_cn2 w3 0 0 23
            have bc4 := (bc2.next hb3).next hb4
            have hb4' := next (next hbw hb3) hb4
            clear ht q1 q2 bc2 b2 HW2 hth2 hcc hd0 hd1 hb3 hb4 hsz4
            go_wp2_with (first
              | (refine wpList_alloc_zero rfl 23 rfl (cnt 0 0) zero_cn ?_)
              | (refine wpList_store_mid rfl 23 _ _ rfl _ _ (cnt 0 0).toArray rfl rfl hth4 size_cn (all_oneCell_toArray (cnt_one _ _)) ?_; rw [HW4.out]))
            go_roundw
            case rel => exact ⟨k + 1, e, l, q, by omega, by go_num, rfl, hq, bc4, hb4'⟩
            case measure => simp [intOf]; omega
        | false =>
          go_wp2_with (first
            | (refine wpList_load_at rfl 44 _ rfl (ad.add (k * 2)) rfl (dC false N) _ hcc Try.underlying44 rfl size_d10 ?_)
            | (refine wpList_alloc_zero rfl 44 rfl (dC false 0) zero_d10 ?_; rw [← HGD.out])
            | (refine wpList_store_mid rfl 44 _ _ rfl _ _ (dC false N).toArray rfl rfl (by rw [HGD.out]; exact hth2) size_d10 (all_oneCell_toArray (dC_one _ _)) ?_; rw [HGD.out, HW2.out, ← HGD.out])
            | (refine wpList_load_mid rfl 23 _ rfl _ _ rfl (cnt e l) _ bc2.whole Try.underlying23 rfl size_cn ?_)
            | fail)
          have ht := ntake_any e l N W2
          unfold TakePost at ht
          rcases take_ways e l N with ⟨en, ln, m, rfl, rfl, rfl, q1, q2, q3, hE, hC, _, hL⟩ | ⟨hE, hC, _, hL⟩
          · rw [hE, hC, hL] at ht
            refine ht.mono ?_
            rintro r w3 ⟨v3, rfl, ho3, hb3⟩
            obtain ⟨W4, HW4, hth4, b4, hb4, hsz4, hd2, hd3⟩ := put_cn2 w3 en ((ln : Int) + (m : Int)) 23
            have bc4 := (bc2.next hb3).next hb4
            have hb4' := next (next hbw hb3) hb4
            have ho4 := ho3.next hb4
            have hgc3 := (bc2.next hb3).lt
            obtain ⟨A3, c3, rfl⟩ := ho4.form
            rw [nls_len] at ho4 ⊢
            obtain ⟨gn, hgn⟩ : ∃ g, g = w3.heap.size := ⟨_, rfl⟩
            have HGN := Lib.hid hgn
            rw [← hgn] at b4
            clear ht hE hC hL bc2 b2 HW2 hth2 hcc hd0 hd1 hb3 hb4 hsz4 ho3 hgn hd2 hd3
            go_wp2_with (first
              | (refine wpList_alloc_zero rfl 23 rfl (cnt 0 0) zero_cn ?_; rw [← HGN.out])
              | (refine wpList_store_mid rfl 23 _ _ rfl _ _ (cnt en ((ln : Int) + (m : Int))).toArray rfl rfl (by rw [HGN.out]; exact hth4) size_cn (all_oneCell_toArray (cnt_one _ _)) ?_; rw [HGN.out, HW4.out, ← HGN.out])
              | fail)
            have hne2 : gn ≠ gc := by have h2 := HGN.out; omega
            obtain ⟨wq, hwq⟩ : ∃ x, x = wr := ⟨wr, rfl⟩
            subst hwq
            go_loopw [5, 49] (fun s i wr => ∃ (j : Nat) (q2 : List UInt8), j ≤ m ∧ i = .int .i64 (j : Int) ∧ s = .string ⟨q2.toArray⟩ ∧ LastOk (en : Int) ((ln + j : Nat) : Int) q2 ∧ Drew W4 wr) (fun _ i _ => m - (intOf i).toNat)
            case atStart => exact ⟨0, q, Nat.zero_le _, rfl, rfl, hq, Drew.refl _⟩
            case round =>
              obtain ⟨j, q2, hj, rfl, rfl, hq2, hD⟩ := hrel
              by_cases hlj : j < m
              · obtain ⟨g1, B1, d1, rfl, k1, s1, _, _⟩ := ho4.at_ (j := j) (by rw [nls_len]; exact hlj)
                simp only [nls_at, nonceL_len] at k1 s1
                have hleq := hq2.leq (by omega) (by omega)
                obtain ⟨X, hX⟩ : ∃ X, X = nonceL en (ln + 1 + j) := ⟨_, rfl⟩
                have hX2 : X = nonceL en (ln + j + 1) := by rw [hX]; congr 1; omega
                rw [← hX] at s1
                rw [← hX2] at hleq
                have hnew : LastOk (en : Int) ((ln + (j + 1) : Nat) : Int) X := by rw [hX2]; exact lastOk_new en (ln + j + 1) (by omega) (by omega)
                have u1 := u8_str (s1.below (hD.below _)) d1
                have j1 := (hD.cell _).trans k1
                have hj0 : (0 : Int) ≤ (j : Int) := by omega
                have hj1 : (j : Int) < (m : Int) := by omega
                clear hX hX2 k1 s1 ho4
                go_wp2
                go_roundw
                case rel => exact ⟨j + 1, X, by omega, by go_num, rfl, hnew, hD⟩
                case measure => simp [intOf]; omega
              · have hjm : j = m := by omega
                have bn := b4.keep (w' := wr) (by obtain ⟨q, rfl⟩ := hD; rfl)
                have bk := bc4.keep (w' := wr) (by obtain ⟨q, rfl⟩ := hD; rfl)
                have f0 : wr.cell? ⟨gn, 0, none⟩ = some (.int .i64 en) := by rw [bn.cell]; rfl
                have f1 : wr.cell? ⟨gn, 1, none⟩ = some (.int .i64 ((ln : Int) + (m : Int))) := by rw [bn.cell]; rfl
                have f2 : wr.cell? ⟨gc, 0, none⟩ = some (.int .i64 en) := by rw [bk.cell]; rfl
                have f3 : wr.cell? ⟨gc, 1, none⟩ = some (.int .i64 ln) := by rw [bk.cell]; rfl
                have bc5 := bk.over (vs := cnt en ((ln : Int) + (m : Int))) rfl
                have hb5 := below_setCells (hb4'.trans (hD.below _)) hgcl 0 (cnt en ((ln : Int) + (m : Int)))
                have hq3 : LastOk (en : Int) ((ln : Int) + (m : Int)) q2 := by rw [hjm] at hq2; exact hq2.up (Int.le_refl _) (by omega)
                have hjl : ¬ (j : Int) < (m : Int) := by omega
                clear hjm hq2 b4 bc4 hb4' ho4
                go_wp2_with (first
                  | (refine wpList_load_mid rfl 23 _ rfl _ _ rfl (cnt en ((ln : Int) + (m : Int))) _ bn.whole Try.underlying23 rfl size_cn ?_)
                  | (refine wpList_store_mid rfl 23 _ _ rfl _ _ (cnt en ((ln : Int) + (m : Int))).toArray rfl rfl (bk.there_ (by simp [cnt])) size_cn (all_oneCell_toArray (cnt_one _ _)) ?_))
                go_roundw
                case rel => exact ⟨k + 1, en, (ln : Int) + (m : Int), q2, by omega, by go_num, rfl, hq3, bc5, hb5⟩
                case measure => simp [intOf]; omega
          · rcases hE with hE | hE
            all_goals
              rw [hE, hC, hL] at ht
              refine ht.mono ?_
              rintro r w3 ⟨v3, rfl, ho3, hb3⟩
              obtain ⟨W4, HW4, hth4, b4, hb4, hsz4, _, _⟩ := put_cn2 w3 0 0 23
              have bc4 := (bc2.next hb3).next hb4
              have hb4' := next (next hbw hb3) hb4
              clear ht hE hC hL bc2 b2 HW2 hth2 hcc hd0 hd1 hb3 hb4 hsz4 ho3
              go_wp2_with (first
                | (refine wpList_alloc_zero rfl 23 rfl (cnt 0 0) zero_cn ?_)
                | (refine wpList_store_mid rfl 23 _ _ rfl _ _ (cnt 0 0).toArray rfl rfl hth4 size_cn (all_oneCell_toArray (cnt_one _ _)) ?_; rw [HW4.out]))
              go_roundw
              case rel => exact ⟨k + 1, e, l, q, by omega, by go_num, rfl, hq, bc4, hb4'⟩
              case measure => simp [intOf]; omega
      · have hle : ¬ (k : Int) < (n1 : Int) := by omega
        go_wp2_with (go_at_call 12; refine (awake10_any _).mono ?_; rintro r w9 ⟨rfl, hb9⟩)
        go_ret
        exact ⟨rfl, next hb hb9⟩

end Go.Proofs.Ytigofelbnjjigaa
