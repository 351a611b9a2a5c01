/- Layer 11, keyfile: textOf, ringOf. -/
import Derived.Test.YtlnoopmblmkgkaaGreatDoorKA
namespace Go.Proofs.YtlnoopmblmkgkaaGreatDoor
set_option maxRecDepth 100000
open Go Go.RowKit Go.Maps
set_option linter.unusedVariables false
set_option linter.unusedSimpArgs false

/-- The text of the first k masters. -/
def txt (m : RM) (k : Nat) : List UInt8 := ((sortR m).take k).flatMap entL
theorem txt_succ (m : RM) (k : Nat) {x : Nat × List UInt8} (h : (sortR m)[k]? = some x) : txt m (k + 1) = txt m k ++ (UInt8.ofNat x.1 :: x.2) := by
  obtain ⟨hk, rfl⟩ := List.getElem?_eq_some_iff.1 h
  unfold txt
  rw [List.take_succ_eq_append_getElem hk, List.flatMap_append]
  congr 1
  simp [entL]
theorem txt_all (m : RM) : txt m (repochs m).length = textR m := by
  unfold txt textR
  rw [List.take_of_length_le (by rw [sortR_len]; exact Nat.le_refl _)]
theorem ring_le {m : RM} (ok : RingOk m) : m.length ≤ 64 := by rw [← repochs_count ok]; exact repochs_len m

set_option maxHeartbeats 2000000 in
theorem textof_any (g : Nat) (m : RM) (w : World) (hr : Rg w w.heap.size g m) :
    Calls Tryz.prog 32 #[.pointer (some ⟨g, 0, none⟩)] w (RetBytes 5 w (33 * m.length) (textR m)) := by
  obtain ⟨i0, hi, hz0, hz1, hz2⟩ := info_parts u8_info
  have ok := hr.2.1
  have hl64 := ring_le ok
  have hep := lepochs_any g w.heap.size m (by omega) w hr
  obtain ⟨Es, hEs⟩ : ∃ Es, Es = repochs m := ⟨_, rfl⟩
  have hcnt : Es.length = m.length := by rw [hEs]; exact repochs_count ok
  have HEs : Hid (repochs m = Es) := hEs.symm
  have hsl : (sortR m).length = Es.length := by rw [sortR_len, hEs]
  have hat : ∀ j (h : j < Es.length), ∃ en : Nat, Es[j] = (en : Int) ∧ 1 ≤ en ∧ en ≤ 64 ∧ (sortR m)[j]? = some (en, (rfind m (en : Int)).getD []) ∧ ((rfind m (en : Int)).getD []).length = 32 := by
    intro j hj
    have h1 := (sortR_rising ok).each _ (List.getElem_mem (show j < (sortR m).length by omega))
    have e1 : (sortR m)[j]'(by omega) = (Es[j].toNat, (rfind m Es[j]).getD []) := by unfold sortR; simp [← hEs]
    rw [e1] at h1
    simp only at h1
    refine ⟨Es[j].toNat, by omega, by omega, by omega, ?_, ?_⟩
    · rw [List.getElem?_eq_getElem (by omega), e1, Int.toNat_of_nonneg (by omega)]
    · rw [Int.toNat_of_nonneg (by omega)]; exact h1.2.2
  obtain ⟨M, hM⟩ : ∃ M, M = Es.length := ⟨_, rfl⟩
  have HAT := Lib.hid hat
  have HE := Lib.hid hep
  have HM : Hid (Es.length = M) := hM.symm
  have HML : Hid (m.length = M) := by unfold Hid; omega
  have hM64 : M ≤ 64 := by omega
  have HSL : Hid ((sortR m).length = M) := by unfold Hid; omega
  have HALL : Hid (txt m M = textR m) := by unfold Hid; rw [hM, hEs]; exact txt_all m
  clear hep hEs hcnt hsl hat hM hl64
  go_enter Tryz.func32, Tryz.ntmps32
  go_wp2_with (go_at_call 44; refine HE.out.mono ?_; rintro e w1 ⟨va, rfl, owna, hb1⟩; rw [HEs.out, HM.out] at owna; obtain ⟨Aa, ca, rfl⟩ := own_form owna)
  have hzb1 := hb1.size
  go_loopw [3, 9] (fun v i wr => ∃ k : Nat, k ≤ M ∧ i = .int .i64 k ∧ wr.ownsRow w1.heap.size 5 1 v (33 * k) (cb (txt m k)) ∧ Below w1.heap.size w1 wr) (fun _ i _ => M - (Go.RowKit.intOf i).toNat)
  case atStart => exact ⟨0, by omega, rfl, World.ownsRow_nil _ _ _ _, Below.refl _ _⟩
  case round =>
    obtain ⟨k, hk, rfl, hown, hb⟩ := hrel
    by_cases hlt : k < M
    · obtain ⟨en, h1, h2, h3, h4, h5⟩ := HAT.out k (by have := HM.out; omega)
      have oa := own_below owna hb
      obtain ⟨ga, ca', ea, _, _⟩ := oa.form (by omega)
      injection ea with ea _ eca
      subst ea; subst eca
      have ha : wr.cell? ⟨ga, k, none⟩ = some (.int .i64 (en : Int)) := by rw [oa.cellAt k (by omega), ← h1]; simp [show k < Es.length by have := HM.out; omega]
      obtain ⟨l, hl⟩ : ∃ l, l = (rfind m (en : Int)).getD [] := ⟨_, rfl⟩
      have HT : Hid (txt m (k + 1) = txt m k ++ (UInt8.ofNat en :: l)) := by unfold Hid; rw [txt_succ m k h4, hl]
      rw [← hl] at h5
      have HLL := Lib.hid h5
      have HL : Hid ((rfind m (en : Int)).getD [] = l) := hl.symm
      have hwf : (Lit.int .i64 (en : Int)).wf = true := epo_wf (by unfold epo; simp; omega)
      have HWF := Lib.hid hwf
      have HBY : Hid (((en : Int)) = ((UInt8.ofNat en).toNat : Int)) := by unfold Hid; simp; omega
      have hz := hb.size
      clear oa h1 h4 hl h5 hwf
      go_wp2_with (first
        | (have := hmk; go_at_call 59; refine (lmaster_any g w.heap.size m en w5 (hr.next (next hb1 hb5)) HWF.out).mono ?_; rintro e w6 ⟨A6, c6, rfl, x6⟩; rw [HL.out, HLL.out] at x6; rw [HL.out, HLL.out]; have own6 := own_below own5 x6.below; have hb6 := next hb5 x6.below)
        | (have := hb6; at_builtin; refine wpList_append_sl _ rfl _ _ 22 rfl w1.heap.size 5 i0 (.int .u8 0) 1 Tryz.underlying22 hi hz0 hz1 hz2 rfl _ (33 * k + 1) _ rfl own6 _ A6 32 c6 (cb l) rfl x6.sl x6.none_ (cb_one _) (by unfold maxLen; omega) (by omega) hb6.size ?_; intro v7 w7 own7 hg7 hat7; have hb7 := below_app hb6 (Nat.le_refl _) own6 hg7)
        | (at_builtin; refine wpList_append_own_at _ rfl _ _ 22 rfl w1.heap.size 5 i0 (.int .u8 0) 1 1 Tryz.underlying22 hi hz0 hz1 hz2 rfl (by decide) _ _ _ rfl (hown.alloc _) ⟨wr.heap.size, 0, none⟩ 1 1 _ rfl rfl (cell_one_new _ _ _) (by simp [Value.oneCell']) (by unfold maxLen; omega) (by omega) (by simp; omega) ?_; intro v5 w5 own5 hg5 hnil5 hat5; have hb5 := below_app1 hb (Nat.le_refl _) hown hg5; have hmk : True := trivial)
        | fail)
      go_roundw
      case rel => exact ⟨k + 1, by omega, by go_num, by rw [show 33 * (k + 1) = 33 * k + 1 + 32 by omega, HT.out, cb_append, show cb (UInt8.ofNat en :: l) = [bc (UInt8.ofNat en)] ++ cb l from rfl, ← List.append_assoc]; have := own7; rw [HBY.out] at this; exact this, hb7⟩
      case measure => simp [Go.RowKit.intOf]; omega
    · obtain rfl : k = M := by omega
      go_wp2
      go_ret
      exact retBytes (by rw [HML.out]) HALL.out (own_down hown hzb1) (hb1.trans (hb.mono hzb1))


theorem rising_last {s : RM} (h : Rising s) : IsLast s (lastE s) := by
  refine ⟨fun x hx => by have := lastE_mem h x hx; omega, ?_⟩
  unfold lastE
  rcases List.eq_nil_or_concat s with rfl | ⟨r, y, rfl⟩
  · exact .inl rfl
  · refine .inr ⟨y, by simp, ?_⟩
    rw [List.concat_eq_append, List.getLast?_concat]
    rfl
/-- What a text is read as, one entry at a time. -/
theorem ringOf_yes {t : List UInt8} {k : Nat} {s : RM} (hs : ringOf t k = some s) (h1 : lastE s < (entAt t k).1) (h2 : (entAt t k).1 ≤ 64) : ringOf t (k + 1) = some (s ++ [entAt t k]) := by
  rw [ringOf, hs, Option.bind_some, if_pos ⟨h1, h2⟩]
theorem ringOf_no {t : List UInt8} {k : Nat} {s : RM} (hs : ringOf t k = some s) (h : ¬ (lastE s < (entAt t k).1 ∧ (entAt t k).1 ≤ 64)) : ringOf t (k + 1) = none := by
  rw [ringOf, hs, Option.bind_some, if_neg h]

/-- What the program's ringOf tells. -/
def RingPost (w : World) (o : Option RM) (e : Ending) (w' : World) : Prop := Below w.heap.size w w' ∧ match o with
  | some s => ∃ g, e = .returned (.tuple #[.pointer (some ⟨g, 0, none⟩), .int .i64 0]) ∧ Rg w' w'.heap.size g s ∧ w.heap.size ≤ g
  | none => e = .returned (.tuple #[.pointer none, .int .i64 5])

set_option maxHeartbeats 2000000 in
theorem ringof_any (t : List UInt8) (K : Nat) (w : World) (A : Option Addr) (n c : Nat) (h : By w A n c t) (hK : n = 33 * K) (hm : K ≤ 800) :
    Calls Tryz.prog 49 #[.slice A n c] w (RingPost w (ringOf t K)) := by
  have hn := h.len
  have hc := h.cap
  have hA := h.none_
  have HT := Lib.hid h.sl
  have HN := Lib.hid hn
  have HK := Lib.hid hK
  have hnb : n ≤ 26400 := by omega
  clear hn h hK
  go_enter Tryz.func49, Tryz.ntmps49
  go_wp2_with (go_at_call 28; refine (lnew_any w).mono ?_; rintro e w1 ⟨rfl, r1, hb1⟩)
  obtain ⟨g, hg⟩ : ∃ g, g = w.heap.size := ⟨_, rfl⟩
  have hgw : w.heap.size ≤ g := by omega
  rw [← hg] at r1
  rw [← hg]
  clear hg
  go_loopw [12] (fun i wr => ∃ (k : Nat) (s : RM), k ≤ K ∧ i = .int .i64 k ∧ Hid (ringOf t k = some s) ∧ Rg wr wr.heap.size g s ∧ Below w.heap.size w wr) (fun i _ => K - (Go.RowKit.intOf i).toNat)
  case atStart => exact ⟨0, [], by omega, rfl, rfl, r1, hb1⟩
  case round =>
    clear r1 hb1
    obtain ⟨k, s, hk, rfl, HSK, hr, hb⟩ := hrel
    have hn := HN.out
    have hK := HK.out
    by_cases hlt : k < K
    · have hlt2 : (k : Int) < (n : Int) / 33 := by omega
      have hcb : 33 * k + 33 ≤ c := by omega
      obtain ⟨hris, hslen⟩ := ringOf_rising (by omega) HSK.out
      have hlast := rising_last hris
      have sw := HT.out.nx hb
      have sp := sl_mid (l := 33 * k) (h := 33 * k + 33) sw (by omega) (by omega) hc
      rw [show 33 * k + 33 - 33 * k = 33 by omega, show ((cb t).drop (33 * k)).take 33 = cb ((t.drop (33 * k)).take 33) by simp [cb]] at sp
      have hpl : ((t.drop (33 * k)).take 33).length = 33 := by simp; omega
      obtain ⟨ad, hP, hadl, hc0⟩ := sp.byte (j := 0) (by omega)
      have hb0 : ((t.drop (33 * k)).take 33)[0]'(by omega) = t.getD (33 * k) 0 := by rw [List.getElem_take, List.getElem_drop, List.getD_eq_getElem?_getD, List.getElem?_eq_getElem (by omega)]; rfl
      rw [hb0] at hc0
      have st := sl_cut (k := 1) sp (by omega) (show 33 ≤ c - 33 * k by omega)
      rw [hP, show (cb ((t.drop (33 * k)).take 33)).drop 1 = cb ((t.drop (33 * k + 1)).take 32) by rw [cb, cb, ← List.map_drop, List.drop_take, List.drop_drop]] at st
      have hcad : wr.cell? ad = some (.int .u8 ((t.getD (33 * k) 0).toNat : Int)) := by rw [← add_none ad]; exact hc0
      obtain ⟨ep, hep⟩ : ∃ ep, ep = (t.getD (33 * k) 0).toNat := ⟨_, rfl⟩
      obtain ⟨l, hl⟩ : ∃ l, l = (t.drop (33 * k + 1)).take 32 := ⟨_, rfl⟩
      have hent : entAt t k = (ep, l) := by unfold entAt; rw [← hep, ← hl]
      have hl32 : l.length = 32 := by rw [hl]; simp; omega
      have hep256 : ep < 256 := by rw [hep]; exact (t.getD (33 * k) 0).toNat_lt
      rw [← hep] at hc0 hcad
      rw [← hl] at st
      have hst : Sl wr wr.heap.size (some ⟨ad.block, ad.off + 1, none⟩) 32 (cb l) := by
        rw [if_neg (by omega)] at st
        have e1 : (⟨ad.block, ad.off + 1, none⟩ : Addr) = ad.add 1 := by simp [Addr.add]
        rw [e1]; exact st
      obtain ⟨le, hle⟩ : ∃ le, le = lastE s := ⟨_, rfl⟩
      rw [← hle] at hlast
      have HP := Lib.hid hP
      have HST := Lib.hid hst
      have HLA := Lib.hid hlast
      have hs900 : s.length ≤ 900 := by omega
      have HY : Hid (le < ep → ep ≤ 64 → ringOf t (k + 1) = some (s ++ [(ep, l)]) ∧ putM s ep l = s ++ [(ep, l)] ∧ putE s ep l = 0) := by
        unfold Hid; intro h1 h2
        have h1' : lastE s < (entAt t k).1 := by rw [hent, ← hle]; exact h1
        have h2' : (entAt t k).1 ≤ 64 := by rw [hent]; exact h2
        have h3 := ringOf_yes HSK.out h1' h2'
        have h4 := put_rising hris h1' h2' (by rw [hent]; exact hl32)
        rw [hent] at h3 h4
        exact ⟨h3, h4.1, h4.2.1⟩
      have HNO : Hid (¬ (le < ep ∧ ep ≤ 64) → ringOf t K = none) := by
        unfold Hid; intro h
        exact ringOf_stop (ringOf_no HSK.out (by rw [hent, ← hle]; exact h)) K (by omega)
      have HBAD : Hid (¬ ep ≤ 64 → putE s ep l = 1) := by
        unfold Hid; intro h
        unfold putE
        rw [if_neg (by rintro ⟨h1, _⟩; unfold epo at h1; simp at h1; omega)]
      have hz := hb.size
      have hcap : 33 ≤ c - 33 * k := by omega
      clear hris hslen hlast sw sp hpl hP hb0 hep hl hent hl32 hle st hst hn hK
      by_cases h1 : ep ≤ le
      · have h1' : (ep : Int) ≤ (le : Int) := by omega
        have hno := HNO.out (by omega)
        have HR := Lib.hid hno
        clear hno HNO HY HBAD h1
        go_wp2_with (first
          | (refine wpList_slice_lh rfl 22 _ _ _ rfl 5 Tryz.underlying22 u8_size A n c (33 * k) (33 * k + 33) .i64 .i64 _ _ rfl rfl rfl (by omega) (by omega) (by omega) (by omega) hA ?_; intro A1 HA1; obtain rfl : A1 = some ad := HA1.out.trans HP.out; rw [show 33 * k + 33 - 33 * k = 33 by omega])
          | (go_at_call 30; refine (llast_any g wr.heap.size s wr hr).mono ?_; rintro e w2 ⟨L, rfl, hL, hb2⟩; obtain rfl := last_one hL HLA.out; clear hL)
          | fail)
        go_ret2
        exact ⟨hb.trans (hb2.mono hz), by rw [HR.out]; exact rfl⟩
      · have h1' : ¬ (ep : Int) ≤ (le : Int) := by omega
        by_cases h2 : ep ≤ 64
        · obtain ⟨hy1, hy2, hy3⟩ := HY.out (by omega) h2
          have H1 := Lib.hid hy1
          have H2 := Lib.hid hy2
          have H3 := Lib.hid hy3
          clear HY HNO HBAD hy1 hy2 hy3
          go_wp2_with (first
            | (refine wpList_slice_lh rfl 22 _ _ _ rfl 5 Tryz.underlying22 u8_size A n c (33 * k) (33 * k + 33) .i64 .i64 _ _ rfl rfl rfl (by omega) (by omega) (by omega) (by omega) hA ?_; intro A1 HA1; obtain rfl : A1 = some ad := HA1.out.trans HP.out; rw [show 33 * k + 33 - 33 * k = 33 by omega])
            | (go_at_call 30; refine (llast_any g wr.heap.size s wr hr).mono ?_; rintro e w2 ⟨L, rfl, hL, hb2⟩; obtain rfl := last_one hL HLA.out; clear hL)
            | (go_at_call 29; refine (lput_any g w2.heap.size s hs900 ep l w2 ((hr.next hb2).up hb2.size) (some ⟨ad.block, ad.off + 1, none⟩) 32 (c - 33 * k - 1) (HST.out.nx hb2) (by omega) (Nat.le_refl _)).mono ?_; rintro e w3 ⟨rfl, r3, gr3⟩; rw [H3.out]; rw [H2.out] at r3; have hb3 := below_but (hb.trans (hb2.mono hz)) gr3 (Nat.le_trans hz hb2.size) hgw)
            | fail)
          go_roundw
          case rel => exact ⟨k + 1, s ++ [(ep, l)], by omega, by go_num, H1.out, r3, hb3⟩
          case measure => simp [Go.RowKit.intOf]; omega
        · have hno := HNO.out (by omega)
          have hbad := HBAD.out h2
          have HR := Lib.hid hno
          have H3 := Lib.hid hbad
          clear hno HNO HY HBAD hbad
          go_wp2_with (first
            | (refine wpList_slice_lh rfl 22 _ _ _ rfl 5 Tryz.underlying22 u8_size A n c (33 * k) (33 * k + 33) .i64 .i64 _ _ rfl rfl rfl (by omega) (by omega) (by omega) (by omega) hA ?_; intro A1 HA1; obtain rfl : A1 = some ad := HA1.out.trans HP.out; rw [show 33 * k + 33 - 33 * k = 33 by omega])
            | (go_at_call 30; refine (llast_any g wr.heap.size s wr hr).mono ?_; rintro e w2 ⟨L, rfl, hL, hb2⟩; obtain rfl := last_one hL HLA.out; clear hL)
            | (go_at_call 29; refine (lput_any g w2.heap.size s hs900 ep l w2 ((hr.next hb2).up hb2.size) (some ⟨ad.block, ad.off + 1, none⟩) 32 (c - 33 * k - 1) (HST.out.nx hb2) (by omega) (Nat.le_refl _)).mono ?_; rintro e w3 ⟨rfl, r3, gr3⟩; rw [H3.out]; have hb3 := below_but (hb.trans (hb2.mono hz)) gr3 (Nat.le_trans hz hb2.size) hgw)
            | fail)
          go_ret2
          exact ⟨hb3, by rw [HR.out]; exact rfl⟩
    · obtain rfl : k = K := by omega
      have hlt2 : ¬ (k : Int) < (n : Int) / 33 := by omega
      clear hn hK
      go_wp2
      go_ret2
      exact ⟨hb, by rw [HSK.out]; exact ⟨g, rfl, hr, hgw⟩⟩

end Go.Proofs.YtlnoopmblmkgkaaGreatDoor
