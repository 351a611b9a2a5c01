/- The walk of the law DigestAdds. -/
import Derived.Test.YtnaanngbnnbpdaaDoorDigZ
namespace Go.Proofs.YtnaanngbnnbpdaaDoor
open Go.RowKit
set_option linter.unusedVariables false

/-- What is owned stays owned while its own block does not turn. -/
theorem own_keep {w w' : World} {base : Nat} {e : TypeId} {size n : Nat} {v : Value} {xs : List Value} (h : w.ownsRow base e size v n xs) (hk : ∀ g, v.ownBlock = some g → w'.heap[g]? = w.heap[g]?) : w'.ownsRow base e size v n xs := by
  obtain ⟨h1, h2⟩ := h
  refine ⟨h1, ?_⟩
  rcases h2 with h2 | ⟨g, cap, cur, hv, hg, hh, r⟩
  · exact .inl h2
  · exact .inr ⟨g, cap, cur, hv, hg, by rw [hk g (by rw [hv]; rfl)]; exact hh, r⟩
theorem own_lt {w : World} {base : Nat} {e : TypeId} {size n : Nat} {v : Value} {xs : List Value} (h : w.ownsRow base e size v n xs) {g : Nat} (hg : v.ownBlock = some g) : g < w.heap.size := (h.lt g hg).2
theorem byte_up (b : UInt8) : ((b.toNat : Int) + 1) % 256 = ((UInt8.ofNat ((b.toNat + 1) % 256)).toNat : Int) := by
  simp only [UInt8.toNat_ofNat']
  omega

set_option maxHeartbeats 2000000 in
theorem digestAdds_walk (A0 : Option Addr) (n0 c0 : Nat) (l0 : List (List UInt8)) (w : World) (hT : Tabs w) (s0 : InParts w A0 n0 c0 l0) :
    Calls Tryd.prog 5 #[.slice A0 n0 c0] w fun e w' => e = .returned (.bool true) ∧ Below w.heap.size w w' := by
  obtain ⟨i0, hi, hz0, hz1, hz2⟩ := info_parts u8_info
  have hp := s0.parts
  have r0 := s0.room
  have p0 := s0.cap
  have HE := Lib.hid s0.each
  have hpl := hp.len
  clear s0
  subst hpl
  have HT := Lib.hid hT
  have hws := hT.size
  clear hT
  have hm0 : l0.length ≤ maxLen := by omega
  by_cases hfew : fewB l0 = true
  · obtain ⟨h20, h400⟩ := few_true hfew
    have H400 := Lib.hid h400
    have HF := Lib.hid hfew
    clear h400 hfew
    go_enter Tryd.func5, Tryd.ntmps5
    go_wp2_with fail
    refine (few_any l0 _ _ _ _ _ hp hm0 HE.out).mono ?_
    rintro e w' ⟨rfl, rfl⟩
    rw [HF.out]
    go_wp2_with fail
    refine (new_any _ HT.out).mono ?_
    rintro e w1 ⟨g, rfl, hg, st, hb⟩
    unfold maxLen at hm0 r0
    go_wp2
    go_loopw [4, 16] (fun va i wr => ∃ (k N : Nat) (F : List UInt8), k ≤ l0.length ∧ i = .int .i64 k ∧ Hid (F = (l0.take k).flatten) ∧ Hid (N = F.length) ∧ N ≤ 400 * k ∧ wr.ownsRow w.heap.size 5 1 va N (cb F) ∧ St wr g F ∧ va.ownBlock ≠ some g ∧ Below w.heap.size w wr) (fun _ i _ => l0.length - (intOf i).toNat)
    case atStart => exact ⟨0, 0, [], by omega, rfl, (rfl : _ = _), (rfl : _ = _), by omega, World.ownsRow_nil _ _ _ _, st, (fun h => by cases h), hb⟩
    case round =>
      clear st hb
      obtain ⟨k, N, F, hk, rfl, HFk, HN, hN, hown, st, hne, hb⟩ := hrel
      obtain ⟨Aa, ca, rfl⟩ := own_form hown
      obtain ⟨w0, hw0⟩ : ∃ x, x = wr := ⟨wr, rfl⟩
      subst hw0
      by_cases hlt : k < l0.length
      · have hp2 := hp.below hb
        obtain ⟨ad, A', c', rfl, hcell, hsl, hcc, hnn⟩ := hp2.at_ hlt
        have hl4 : l0[k].length ≤ 400 := H400.out _ (List.getElem_mem hlt)
        have HF1 : Hid (F ++ l0[k] = (l0.take (k + 1)).flatten) := by unfold Hid; rw [flat_take l0 k hlt, HFk.out]
        obtain ⟨l, hl⟩ : ∃ l, l = l0[k] := ⟨_, rfl⟩
        rw [← hl] at hcell hsl hcc hl4 HF1
        clear hl hp2
        go_wp2_with fail
        refine (own_any l _ _ _ _ _ hsl hnn (by omega) hb.size).mono ?_
        rintro e w2 ⟨A1, c1, rfl, h1⟩
        have st2 := st.next h1.below
        have hb2 := next hb h1.below
        have hoff : Off g l.length A1 := own_off h1.own st.lt
        have hall2 := own_below hown h1.below
        have hFN : F.length = N := HN.out.symm
        go_wp2_with fail
        refine (add_any g F l _ _ _ _ _ st2 h1.sl (Nat.le_refl _) hoff (own_cap h1.own) h1.none_ (HT.out.next hb2) (by omega) (by omega)).mono ?_
        rintro e w3 ⟨rfl, st3, hgr3, hT3⟩
        have hb3 := below_but hb2 hgr3 hb2.size hg
        have hall3 := hall2.kept hgr3 (.inr hne)
        have hx3 := own_keep h1.own (w' := w3) (fun gx hgx => hgr3.block gx (own_lt h1.own hgx) (fun e => by have h5 := (h1.own.lt gx hgx).1; have h6 := st.lt; injection e with e; omega))
        have hgs := st.lt
        have hva : ∀ ga, (Value.slice Aa N ca).ownBlock = some ga → ga < w0.heap.size := fun ga h => own_lt hown h
        have HVA := Lib.hid hva
        clear st2 hoff hall2 hown st hT3 hgr3 hb2 hva hFN
        go_wp2
        go_loopw [27] (fun i wr => ∃ (j : Nat) (xs : List UInt8), j ≤ l.length ∧ i = .int .i64 j ∧ Hid (xs.length = l.length) ∧ wr.ownsRow w0.heap.size 5 1 (.slice A1 l.length c1) l.length (cb xs) ∧ Below w0.heap.size w3 wr) (fun i _ => l.length - (intOf i).toNat)
        case atStart => exact ⟨0, l, by omega, rfl, (rfl : _ = _), hx3, Below.refl _ _⟩
        case round =>
          obtain ⟨j, xs, hj, rfl, HXL, hxo, hbx⟩ := hrel
          by_cases hjl : j < l.length
          · obtain ⟨gx, cx, ex, hgx, hgxl⟩ := hxo.form (by omega)
            injection ex with ex _ ecx
            subst ex; subst ecx
            have hjx : j < xs.length := by rw [HXL.out]; exact hjl
            have hcl : wr.cell? ⟨gx, j, none⟩ = some (.int .u8 (xs[j].toNat : Int)) := by rw [hxo.cellAt j (by omega), cb_at hjx]
            have hfz := hxo.frozenAt j
            have HB := Lib.hid (byte_up xs[j])
            have HS := Lib.hid (hxo.stored j (bc (UInt8.ofNat ((xs[j].toNat + 1) % 256)))).1
            have hb8 : xs[j].toNat < 256 := xs[j].toNat_lt
            clear hxo hcell
            go_wp2
            go_roundw
            case rel => exact ⟨j + 1, xs.set j (UInt8.ofNat ((xs[j].toNat + 1) % 256)), by omega, by go_num, by unfold Hid; rw [List.length_set]; exact HXL.out, by rw [HB.out]; have := HS.out; rwa [← cb_set] at this, hbx.setCell (by simp; omega) _⟩
            case measure => simp [intOf]; omega
          · obtain ⟨w4, hw4⟩ : ∃ x, x = wr := ⟨wr, rfl⟩
            subst hw4
            have hb4 : Below w.heap.size w w4 := hb3.trans (hbx.mono hb.size)
            have st4 := st3.keep (hbx.block g hgs)
            have hall4 := own_keep hall3 (w' := w4) (fun ga hga => hbx.block ga (HVA.out ga hga))
            have hsl4 : Sl w4 w.heap.size A' l.length (cb l) := (hsl.map_ fun p hpp => (hb4.cell hpp).trans (hb.cell hpp).symm)
            have hg4 : g < w4.heap.size := st4.lt
            clear st3 hall3 hxo hbx hx3 hb3 hsl h1
            go_wp2_with (at_builtin; refine wpList_append_sl _ rfl _ _ 22 rfl w.heap.size 5 i0 (.int .u8 0) 1 Tryd.underlying22 hi hz0 hz1 hz2 rfl _ N _ rfl hall4 _ A' l.length c' (cb l) rfl hsl4 hnn (cb_one _) (by unfold maxLen; omega) (by omega) hb4.size ?_; intro v5 w5 hown5 hgrow5 hat5)
            have hb5 := below_app hb4 (Nat.le_refl _) hall4 hgrow5
            rw [← cb_append] at hown5
            have st5 : St w5 g (F ++ l) := st4.keep (hgrow5.block g hg4 (fun e => hne e.symm))
            have hne5 : v5.ownBlock ≠ some g := by
              rcases hat5 with h | h
              · rw [h]; exact hne
              · rw [h]; intro e; injection e with e; omega
            have hFl : (F ++ l).length = N + l.length := by rw [List.length_append, HN.out]
            have HFl := Lib.hid hFl
            clear hgrow5 hat5 hall4 hsl4 st4 hb4 hg4 hFl
            obtain ⟨A5, c5, rfl⟩ := own_form hown5
            refine (sum_any g (F ++ l) _ st5 (HT.out.next hb5) (by rw [HFl.out]; omega)).mono ?_
            rintro e w6 ⟨rfl, hb6'⟩
            have hown6 := own_below hown5 hb6'
            have st6 := st5.next hb6'
            have hb6 := next hb5 hb6'
            clear hown5 st5 hb5 hb6'
            go_wp2_with fail
            refine (rof_any (F ++ l) _ _ _ _ _ (Sl.own hown6) (own_none hown6) (Nat.le_refl _) (by omega)).mono ?_
            rintro e w7 ⟨A7, c7, rfl, h7⟩
            have hown7 := own_below hown6 h7.below
            have st7 := st6.next h7.below
            have hb7 := next hb6 h7.below
            have hsr := h7.sl
            clear hown6 st6 hb6 h7
            go_wp2_with fail
            refine (is_any (sha (F ++ l)) (sha (F ++ l)) _ _ _ _ _ (sha_len _) hsr (Nat.le_refl _)).mono ?_
            rintro e w8 ⟨rfl, hb8'⟩
            rw [same_self]
            have hown8 := own_below hown7 hb8'
            have st8 := st7.next hb8'
            have hb8 := next hb7 hb8'
            clear hown7 st7 hb7 hb8' hsr
            go_wp2
            go_roundw
            case rel => exact ⟨k + 1, N + l.length, F ++ l, by omega, by go_num, HF1, by unfold Hid; rw [HFl.out], by omega, hown8, st8, hne5, hb8⟩
            case measure => simp [intOf]; omega
      · have hFN : F.length ≤ 100000000 := by rw [← HN.out]; omega
        go_wp2_with fail
        refine (sum_any g F _ st (HT.out.next hb) hFN).mono ?_
        rintro e w6 ⟨rfl, hb6'⟩
        have hown6 := own_below hown hb6'
        have hb6 := next hb hb6'
        clear hown st hb6'
        go_wp2_with fail
        refine (rof_any F _ _ _ _ _ (Sl.own hown6) (own_none hown6) (Nat.le_refl _) (by omega)).mono ?_
        rintro e w7 ⟨A7, c7, rfl, h7⟩
        have hb7 := next hb6 h7.below
        have hsr := h7.sl
        clear hown6 hb6 h7
        go_wp2_with fail
        refine (is_any (sha F) (sha F) _ _ _ _ _ (sha_len _) hsr (Nat.le_refl _)).mono ?_
        rintro e w8 ⟨rfl, hb8'⟩
        rw [same_self]
        have hb8 := next hb7 hb8'
        clear hb7 hb8' hsr
        go_wp2_with fail
        refine (awake2_any _ (HT.out.next hb8)).mono ?_
        rintro e w9 ⟨rfl, hb9⟩
        go_wp2
        go_ret
        exact ⟨rfl, next hb8 hb9⟩
  · have hff : fewB l0 = false := by simpa using hfew
    have HF := Lib.hid hff
    clear hff hfew
    go_enter Tryd.func5, Tryd.ntmps5
    go_wp2_with fail
    refine (few_any l0 _ _ _ _ _ hp hm0 HE.out).mono ?_
    rintro e w' ⟨rfl, rfl⟩
    rw [HF.out]
    go_wp2_with fail
    refine (awake2_any _ HT.out).mono ?_
    rintro e w1 ⟨rfl, hb⟩
    go_wp2
    go_ret
    exact ⟨rfl, hb⟩

end Go.Proofs.YtnaanngbnnbpdaaDoor

