/- Layer 9, label: the document's Right, Text, Key, Of, ID. -/
import Derived.Test.YtkkpdeembndneaaDoorLabA
namespace Go.Proofs.YtkkpdeembndneaaDoor
set_option maxRecDepth 100000
open Go.RowKit
set_option linter.unusedVariables false
set_option linter.unusedSimpArgs false

set_option maxHeartbeats 1000000 in
theorem rright_any (p : List UInt8) (e : Int) (w : World) (hm : p.length ≤ 9223372036854775807) :
    Calls Tryd.prog 24 #[.string ⟨p.toArray⟩, .int .i64 e] w fun r w' => r = .returned (.bool (purp p && epo e)) ∧ w = w' := by
  obtain ⟨r, hr⟩ : ∃ r, r = (purp p && epo e) := ⟨_, rfl⟩
  rw [← hr]
  have HR := Lib.hid hr
  clear hr
  have hlen : (ByteArray.mk p.toArray).size = p.length := by show p.toArray.size = _; simp
  go_enter Tryd.func24, Tryd.ntmps24
  go_wp2
  go_loopw [5] (fun i wr => ∃ k : Nat, k ≤ p.length ∧ i = .int .i64 k ∧ letts p k ∧ w = wr) (fun i _ => p.length - (intOf i).toNat)
  case atStart => exact ⟨0, by omega, rfl, letts_zero p, rfl⟩
  case round =>
    obtain ⟨k, hk, rfl, hL, rfl⟩ := hrel
    by_cases hlt : k < p.length
    · have hi := str_at w p k hlt
      by_cases hlo : (p[k].toNat : Int) < 97
      · have HB := Lib.hid (purp_no hlt (lett_lo hlo))
        go_wp2
        go_ret
        exact ⟨ret_bool (by rw [HR.out, HB.out]; rfl), rfl⟩
      · by_cases hhi : (122 : Int) < (p[k].toNat : Int)
        · have HB := Lib.hid (purp_no hlt (lett_hi hhi))
          go_wp2
          go_ret
          exact ⟨ret_bool (by rw [HR.out, HB.out]; rfl), rfl⟩
        · have hL2 := letts_next hL hlt (lett_in hlo hhi)
          have hw1 : wrap64 ((k : Int) + 1) = (k : Int) + 1 := by unfold wrap64; omega
          go_wp2
          go_roundw
          case rel => exact ⟨k + 1, by omega, by simp, hL2, by trivial⟩
          case measure => simp [intOf]; omega
    · have hkl : k = p.length := by omega
      rw [hkl] at hL
      have HB : Hid (purp p = (decide (1 ≤ p.length) && decide (p.length ≤ 16))) := by
        unfold Hid
        by_cases h1 : 1 ≤ p.length
        · by_cases h2 : p.length ≤ 16
          · rw [purp_of hL h1 h2, decide_eq_true h1, decide_eq_true h2]; rfl
          · rw [purp_long (by omega), decide_eq_false h2]; simp
        · unfold purp; rw [decide_eq_false h1]; rfl
      clear hkl hL
      by_cases h1 : (1 : Int) ≤ (p.length : Int)
      · by_cases h2 : (p.length : Int) ≤ 16
        · by_cases h3 : 1 ≤ e
          · go_wp2
            go_ret
            refine ⟨ret_bool ?_, rfl⟩
            rw [HR.out, HB.out]; unfold epo; rw [decide_eq_true (by omega : 1 ≤ p.length), decide_eq_true (by omega : p.length ≤ 16), decide_eq_true h3]; simp
          · go_wp2
            go_ret
            refine ⟨ret_bool ?_, rfl⟩
            rw [HR.out]; unfold epo; rw [decide_eq_false (by omega : ¬ 1 ≤ e)]; simp
        · go_wp2
          go_ret
          refine ⟨ret_bool ?_, rfl⟩
          rw [HR.out, HB.out, decide_eq_false (by omega : ¬ p.length ≤ 16)]; simp
      · go_wp2
        go_ret
        refine ⟨ret_bool ?_, rfl⟩
        rw [HR.out, HB.out, decide_eq_false (by omega : ¬ 1 ≤ p.length)]; simp

set_option maxHeartbeats 1000000 in
theorem rtext_any (p : List UInt8) (en : Nat) (w : World) (hp : p.length ≤ 16) (he : en ≤ 64) :
    Calls Tryd.prog 30 #[.string ⟨p.toArray⟩, .int .i64 (en : Int)] w fun r w' => ∃ A c, r = .returned (.slice A (p.length + 9) c) ∧ NewSl w (p.length + 9) (lmsg p en) A c w' := by
  obtain ⟨i0, hi, hz0, hz1, hz2⟩ := info_parts u8_info
  have hwr : IntKind.u64.wrap (en : Int) = (en : Int) := by simp only [IntKind.wrap_u64]; omega
  have HP := Lib.hid hp
  have HE := Lib.hid he
  clear hp he
  go_enter Tryd.func30, Tryd.ntmps30
  go_wp2_with (first
    | (refine wpList_bytes_of rfl 9 22 5 _ rfl p rfl Tryd.underlying9 Tryd.underlying22 Tryd.underlying5 ?_; intro cap w1 oc hb1
       have hz1' := Sl.new w1 #[.int .u8 0] 5
       have oc1 := oc.alloc (.cells #[.int .u8 0] 5)
       have hb2 : Below w.heap.size w (w1.alloc (.cells #[.int .u8 0] 5)) := hb1.alloc hb1.size _)
    | (at_builtin; refine wpList_append_C rfl _ _ 22 rfl w.heap.size 5 i0 (.int .u8 0) 1 Tryd.underlying22 hi hz0 hz1 hz2 rfl w.heap.size p.length cap (cb p) rfl oc1 _ ⟨w1.heap.size, 0, none⟩ 1 1 (cb [0]) rfl hz1' (cb_one _) (by have := HP.out; unfold maxLen; omega) (by have := HP.out; omega) hb2.size ?_; intro g2 cap2 w2 oc2 gr2; have hb3 := below_but hb2 gr2 hb2.size (Nat.le_refl _); clear oc1 hz1' oc hb1 hb2 gr2)
    | (go_at_call 40; refine (told_any en 8 _ (by have := HE.out; omega) (by omega)).mono ?_; rintro e w3 ⟨A3, c3, rfl, hn3⟩; rw [told8_rev] at hn3; obtain ⟨ad3, rfl, _⟩ := hn3.sl.2 (by decide); have oc3 := oc2.next hn3.below; have hb4 := next hb3 hn3.below)
    | (at_builtin; refine wpList_append_C rfl _ _ 22 rfl w.heap.size 5 i0 (.int .u8 0) 1 Tryd.underlying22 hi hz0 hz1 hz2 rfl g2 (p.length + 1) cap2 (cb p ++ cb [0]) rfl oc3 _ ad3 8 c3 (cb (told8 en)) rfl hn3.sl (cb_one _) (by have := HP.out; unfold maxLen; omega) (by have := HP.out; omega) hb4.size ?_; intro g4 cap4 w4 oc4 gr4; have hb5 := below_but hb4 gr4 hb4.size oc3.low; clear oc3 hn3 hb3 hb4 gr4 oc2))
  go_ret
  have hl : cb p ++ cb [0] ++ cb (told8 en) = cb (lmsg p en) := by unfold lmsg; rw [← cb_append, ← cb_append]; simp
  rw [hl] at oc4
  exact ⟨_, cap4, rfl, oc4.sl, (lmsg_len p en).symm, oc4.cap_, (by intro h; cases h), (by intro ad h; injection h with h; subst h; exact oc4.low), hb5⟩

set_option maxHeartbeats 1000000 in
theorem rlkey_any (k p : List UInt8) (e : Int) (w : World) (A : Option Addr) (n c : Nat) (h : Sl w w.heap.size A n (cb k)) (hA : A = none → c = 0) (hm : p.length ≤ 9223372036854775807) :
    Calls Tryd.prog 9 #[.slice A n c, .string ⟨p.toArray⟩, .int .i64 e] w (RetFill 5 w (lkeyR k p e) (lkeyE k p e)) := by
  have hn : n = k.length := by rw [← h.1, cb_len]
  have cr := rright_any p e w hm
  by_cases hf : lfit k p e = true
  · have HF := Lib.hid hf
    unfold lfit at hf
    simp only [Bool.and_eq_true, decide_eq_true_eq] at hf
    obtain ⟨h32, hp, he⟩ := hf
    have hpl : p.length ≤ 16 := by unfold purp at hp; simp only [Bool.and_eq_true, decide_eq_true_eq] at hp; exact hp.2.1
    rw [hp, he] at cr
    unfold epo at he
    simp only [Bool.and_eq_true, decide_eq_true_eq] at he
    obtain ⟨en, rfl⟩ : ∃ en : Nat, e = en := ⟨e.toNat, by omega⟩
    obtain rfl : n = 32 := by omega
    have HR : Hid (lkeyR k p en = hmac k (lmsg p en) ∧ lkeyE k p en = 0) := by unfold Hid lkeyR lkeyE; rw [if_pos HF.out, if_pos HF.out]; exact ⟨rfl, rfl⟩
    have ct := rtext_any p en w hpl (by omega)
    have HPL := Lib.hid hpl
    have HC := Lib.hid cr
    have HT := Lib.hid ct
    clear hp he h32 cr hn hpl ct HF
    go_enter Tryd.func9, Tryd.ntmps9
    go_wp2_with (first
      | (go_at_call 24; refine HC.out.mono ?_; rintro e w1 ⟨rfl, rfl⟩)
      | (go_at_call 30; refine HT.out.mono ?_; rintro e w2 ⟨A2, c2, rfl, x2⟩)
      | (go_at_call 29; refine (rtag_any k (lmsg p en) w2 w2.heap.size A A2 32 c (p.length + 9) c2 (h.nx x2.below) hA (by omega) x2.sl x2.none_ (by have := HPL.out; omega) (Nat.le_refl _)).mono ?_; rintro e w3 ⟨A3, c3, rfl, x3⟩))
    go_ret2
    exact retFill HR.out.1.symm HR.out.2.symm (x3.down x2.below).own (next x2.below x3.below)
  · have HR : Hid (lkeyR k p e = [] ∧ lkeyE k p e = 1) := by unfold Hid lkeyR lkeyE; rw [if_neg hf, if_neg hf]; exact ⟨rfl, rfl⟩
    obtain ⟨r1, hr1⟩ : ∃ r, r = lkeyR k p e := ⟨_, rfl⟩
    obtain ⟨r2, hr2⟩ : ∃ r, r = lkeyE k p e := ⟨_, rfl⟩
    rw [← hr1, ← hr2] at HR ⊢
    rw [HR.out.1, HR.out.2]
    clear hr1 hr2 HR
    have hres : RetFill 5 w [] 1 (.returned (.tuple #[.slice none 0 0, .int .i64 1])) w := ⟨none, 0, 0, rfl, ⟨rfl, .inl ⟨rfl, rfl⟩⟩, Below.refl _ _⟩
    by_cases h32 : n = 32
    · obtain rfl := h32
      have he : (purp p && epo e) = false := by
        rw [← Bool.not_eq_true]
        intro he
        exact hf (by unfold lfit; rw [he, decide_eq_true hn.symm]; rfl)
      rw [he] at cr
      have HC := Lib.hid cr
      clear hn hf he cr
      go_enter Tryd.func9, Tryd.ntmps9
      go_wp2_with (go_at_call 24; refine HC.out.mono ?_; rintro e w1 ⟨rfl, rfl⟩)
      go_ret2
      exact hres
    · have h32' : ¬ (n : Int) = 32 := by omega
      clear hn hf h32 cr
      go_enter Tryd.func9, Tryd.ntmps9
      go_wp2
      go_ret2
      exact hres

/-- The first k of l, noughts behind. -/
def ofK (l : List UInt8) (k : Nat) : List UInt8 := l.take k ++ List.replicate (32 - k) 0
theorem ofK_len {l : List UInt8} {k : Nat} (hl : l.length = 32) (hk : k ≤ 32) : (ofK l k).length = 32 := by unfold ofK; simp; omega
theorem ofK_next {l : List UInt8} {k : Nat} (hl : l.length = 32) (hk : k < 32) : (cb (ofK l k)).set k (.int .u8 ((l[k]'(by omega)).toNat : Int)) = cb (ofK l (k + 1)) := by
  have e1 : (ofK l k).set k (l[k]'(by omega)) = ofK l (k + 1) := by
    unfold ofK
    have e2 : List.replicate (32 - k) (0 : UInt8) = 0 :: List.replicate (32 - (k + 1)) 0 := by rw [← List.replicate_succ]; congr 1; omega
    rw [e2, List.set_append_right _ _ (by simp; omega)]
    rw [List.length_take, Nat.min_eq_left (by omega), Nat.sub_self, List.set_cons_zero, ← List.take_append_getElem (by omega : k < l.length), List.append_assoc]
    rfl
  rw [← e1]
  simp [cb, List.map_set, bc]

set_option maxHeartbeats 1000000 in
theorem rof9_any (l : List UInt8) (w : World) (A : Option Addr) (c : Nat) (h : Sl w w.heap.size A 32 (cb l)) :
    Calls Tryd.prog 31 #[.slice A 32 c] w fun r w' => r = .returned (.agg (cb l).toArray) ∧ Below w.heap.size w w' := by
  have hl : l.length = 32 := by rw [← h.1, cb_len]
  obtain ⟨ad, rfl, hadl, hcell⟩ := h.2 (by omega)
  have HL := Lib.hid hl
  have hcell2 : Hid (∀ j (hj : j < l.length), w.cell? (ad.add j) = some (.int .u8 (l[j].toNat : Int))) := fun j hj => hcell j _ (cb_at hj)
  obtain ⟨Z, hZ⟩ : ∃ Z, Z = zeros .u8 32 := ⟨_, rfl⟩
  have HZ : Hid (zeros .u8 32 = Z) := hZ.symm
  have HZL : Hid (Z.length = 32) := by unfold Hid; rw [hZ, zeros_len]
  have HZO : Hid (∀ v ∈ Z, v.oneCell' = true) := by unfold Hid; rw [hZ]; exact zeros_one _ _
  have HZ0 : Hid (Z = cb (ofK l 0)) := by unfold Hid ofK; rw [hZ, zeros_cb]; rfl
  have b0 := Bl.new w Z 30
  have hb0 : Below w.heap.size w (w.alloc (.cells Z.toArray 30)) := (Below.refl _ w).alloc (Nat.le_refl _) _
  obtain ⟨W0, hW0⟩ : ∃ W, W = w.alloc (.cells Z.toArray 30) := ⟨_, rfl⟩
  rw [← hW0] at b0 hb0
  have b1 := Bl.new W0 Z 30
  have hb1 : Below W0.heap.size W0 (W0.alloc (.cells Z.toArray 30)) := (Below.refl _ W0).alloc (Nat.le_refl _) _
  obtain ⟨W1, hW1⟩ : ∃ W, W = W0.alloc (.cells Z.toArray 30) := ⟨_, rfl⟩
  rw [← hW1] at b1 hb1
  have b01 := b0.next hb1
  have hbw := next hb0 hb1
  have HW0 := Lib.hid hW0
  have HW1 := Lib.hid hW1
  obtain ⟨g1, hg1⟩ : ∃ g, g = W0.heap.size := ⟨_, rfl⟩
  have hne : w.heap.size ≠ g1 := by rw [hg1]; have := b0.lt; omega
  rw [← hg1] at b1
  have HG := Lib.hid hg1
  have hlow : w.heap.size ≤ g1 := by rw [hg1]; exact hb0.size
  clear hl hcell h hZ hW0 hW1 b0 hb0 hb1 hg1
  go_enter Tryd.func31, Tryd.ntmps31
  go_wp2_with (first
    | (refine wpList_alloc_zero rfl 30 rfl (zeros .u8 32) zero_id ?_; rw [HZ.out, ← HW0.out])
    | (refine wpList_alloc_zero rfl 30 rfl (zeros .u8 32) zero_id ?_; rw [HZ.out, ← HW1.out, ← HG.out])
    | (refine wpList_build_to rfl 30 _ rfl (zeros .u8 32) built_id ?_; rw [HZ.out])
    | (refine wpList_store_mid rfl 30 _ _ rfl _ _ Z.toArray rfl rfl (b1.there_ (by simp [HZL.out])) (by rw [size_id, List.size_toArray, HZL.out]) (all_oneCell_toArray HZO.out) ?_))
  have b2 := b1.over (vs := Z) rfl
  have b02 := b01.sets_other hne 0 Z
  have hb2 := below_setCells hbw hlow 0 Z
  obtain ⟨W2, hW2⟩ : ∃ W, W = W1.setCells g1 0 Z := ⟨_, rfl⟩
  rw [← hW2] at b2 b02 hb2
  rw [← hW2]
  rw [HZ0.out] at b2
  clear b1 b01 hbw hW2
  go_loopw [4] (fun i wr => ∃ k : Nat, k ≤ 32 ∧ i = .int .i64 k ∧ Bl wr g1 (cb (ofK l k)) 30 ∧ Bl wr w.heap.size Z 30 ∧ Below w.heap.size w wr) (fun i _ => 32 - (intOf i).toNat)
  case atStart => exact ⟨0, by omega, rfl, b2, b02, hb2⟩
  case round =>
    obtain ⟨k, hk, rfl, bk, b0k, hbk⟩ := hrel
    by_cases hlt : (k : Int) < 32
    · have hk2 : k < l.length := by have := HL.out; omega
      have hc1 : wr.cell? (ad.add k) = some (.int .u8 (l[k].toNat : Int)) := by rw [hbk.cell (by rw [add_block]; exact hadl)]; exact hcell2.out k hk2
      have hf1 := bk.frozen k
      have hc2 : wr.cell? ⟨g1, k, none⟩ = (cb (ofK l k))[k]? := bk.cell k
      obtain ⟨y, hy⟩ : ∃ y, (cb (ofK l k))[k]? = some y := ⟨_, List.getElem?_eq_getElem (by rw [cb_len, ofK_len HL.out hk]; omega)⟩
      rw [hy] at hc2
      have hn := ofK_next HL.out (k := k) (by omega)
      have bn := bk.set k (.int .u8 (l[k].toNat : Int))
      rw [hn] at bn
      have HBN := Lib.hid bn
      clear hn hy bn
      go_wp2
      go_roundw
      case rel => exact ⟨k + 1, by omega, by simp, HBN.out, b0k.set_other _ _ hne, hbk.setCell hlow _⟩
      case measure => simp [intOf]; omega
    · obtain rfl : k = 32 := by omega
      have e1 : ofK l 32 = l := by unfold ofK; rw [List.take_of_length_le (by rw [HL.out]; omega)]; simp
      rw [e1] at bk
      have hlt' : ¬ (32 : Int) < 32 := by omega
      go_wp2_with (first
        | (refine wpList_load_mid rfl 30 _ rfl _ _ rfl (cb l) _ bk.whole Tryd.underlying30 rfl (by rw [size_id, cb_len, HL.out]) ?_)
        | (refine wpList_store_mid rfl 30 _ _ rfl _ _ (cb l).toArray rfl rfl (b0k.there_ (by simp [HZL.out, cb_len, HL.out])) (by rw [size_id, List.size_toArray, cb_len, HL.out]) (all_oneCell_toArray (cb_one _)) ?_))
      have hf := b0k.over (vs := cb l) (by rw [cb_len, HL.out, HZL.out])
      exact ret_row Tryd.results31 rfl hf Tryd.underlying30 rfl (by rw [size_id, cb_len, HL.out]) rfl ⟨rfl, below_setCells hbk (Nat.le_refl _) _ _⟩

set_option maxHeartbeats 1000000 in
theorem rlid_any (k t : List UInt8) (kind : Int) (w : World) (A A' : Option Addr) (n c n' c' : Nat) (h : Sl w w.heap.size A n (cb k)) (hA : A = none → c = 0) (h' : Sl w w.heap.size A' n' (cb t)) (hA' : A' = none → c' = 0) (hm : n' ≤ 1000000) :
    Calls Tryd.prog 12 #[.slice A n c, .int .i64 kind, .slice A' n' c'] w (RetId w (lidR k kind t) (lidE k kind)) := by
  have hn : n = k.length := by rw [← h.1, cb_len]
  have hn' : n' = t.length := by rw [← h'.1, cb_len]
  have b0 := Bl.new w (zeros .u8 32) 30
  have hb0 : Below w.heap.size w (w.alloc (.cells (zeros .u8 32).toArray 30)) := (Below.refl _ w).alloc (Nat.le_refl _) _
  obtain ⟨W0, hW0⟩ : ∃ W, W = w.alloc (.cells (zeros .u8 32).toArray 30) := ⟨_, rfl⟩
  rw [← hW0] at b0 hb0
  have HW0 := Lib.hid hW0
  clear hW0
  by_cases hf : ifit k kind = true
  · have HR : Hid (lidR k kind t = hmac k (UInt8.ofNat kind.toNat :: t) ∧ lidE k kind = 0) := by unfold Hid lidR lidE; rw [if_pos hf, if_pos hf]; exact ⟨rfl, rfl⟩
    unfold ifit at hf
    simp only [Bool.and_eq_true, decide_eq_true_eq] at hf
    obtain ⟨h32, hk0, hk1⟩ := hf
    obtain ⟨kn, rfl⟩ : ∃ kn : Nat, kind = kn := ⟨kind.toNat, by omega⟩
    obtain rfl : n = 32 := by omega
    have hkk : ¬ (kn : Int) < 0 := by omega
    have hkk2 : ¬ (255 : Int) < (kn : Int) := by omega
    have hwr : IntKind.u8.wrap (kn : Int) = (kn : Int) := by simp only [IntKind.wrap_u8]; omega
    have hcb : cb [UInt8.ofNat kn] = [.int .u8 (kn : Int)] := by simp [cb, bc]; omega
    obtain ⟨R, hR⟩ : ∃ R, R = hmac k (UInt8.ofNat kn :: t) := ⟨_, rfl⟩
    have HRL : Hid (R.length = 32) := by unfold Hid; rw [hR, hmac_len]
    have e1 : ((kn : Int)).toNat = kn := by simp
    rw [e1, ← hR] at HR
    rw [HR.out.1, HR.out.2]
    have HM : Hid (hmac k ([UInt8.ofNat kn] ++ t) = R) := by unfold Hid; rw [hR]; rfl
    have hz1 := Sl.new W0 #[.int .u8 (kn : Int)] 5
    have hb1 : Below W0.heap.size W0 (W0.alloc (.cells #[.int .u8 (kn : Int)] 5)) := (Below.refl _ W0).alloc (Nat.le_refl _) _
    obtain ⟨W1, hW1⟩ : ∃ W, W = W0.alloc (.cells #[.int .u8 (kn : Int)] 5) := ⟨_, rfl⟩
    have hsz : W1.heap.size = W0.heap.size + 1 := by rw [hW1, alloc_size]
    rw [← hW1, ← hsz] at hz1
    rw [← hW1] at hb1
    have HW1 := Lib.hid hW1
    have z1 : Sl W1 W1.heap.size (some ⟨W0.heap.size, 0, none⟩) 1 (cb [UInt8.ofNat kn]) := by rw [hcb]; exact hz1
    have h1 := (h.nx hb0).nx hb1
    have t1 := (h'.nx hb0).nx hb1
    have b1 := b0.next hb1
    replace hb0 := next hb0 hb1
    clear hW1 hz1 hb1 hsz h h' b0 hn hn' h32 hk0 hk1 hcb e1 hR HR
    go_enter Tryd.func12, Tryd.ntmps12
    go_wp2_with (first
      | (refine wpList_alloc_zero rfl 30 rfl (zeros .u8 32) zero_id ?_; rw [← HW0.out])
      | (rw [← HW1.out])
      | fail)
    refine (join_any [UInt8.ofNat kn] t W1 W1.heap.size _ A' 1 n' 1 c' z1 t1 (by intro h; cases h) hA' (by omega) (by omega) (Nat.le_refl _)).mono ?_
    rintro e w2 ⟨A2, c2, rfl, x2⟩
    have h2 := h1.nx x2.below
    have b2 := b1.next x2.below
    replace hb0 := next hb0 x2.below
    clear h1 b1 z1 t1
    go_wp2_with fail
    refine (rtag_any k ([UInt8.ofNat kn] ++ t) w2 w2.heap.size A A2 32 c (1 + n') c2 h2 hA (by omega) x2.sl x2.none_ (by omega) (Nat.le_refl _)).mono ?_
    rintro e w3 ⟨A3, c3, rfl, x3⟩
    rw [HM.out] at x3
    have b3 := b2.next x3.below
    replace hb0 := next hb0 x3.below
    clear h2 b2 x2
    go_wp2_with fail
    refine (rof9_any R w3 A3 c3 x3.sl).mono ?_
    rintro e w4 ⟨rfl, hb4⟩
    have b4 := b3.next hb4
    replace hb0 := next hb0 hb4
    clear x3 b3 hb4
    go_wp2_with (refine wpList_store_mid rfl 30 _ _ rfl _ _ (cb R).toArray rfl rfl (b4.there_ (by simp [zeros, cb_len, HRL.out])) (by rw [size_id, List.size_toArray, cb_len, HRL.out]) (all_oneCell_toArray (cb_one _)) ?_)
    have hf := b4.over (vs := cb R) (by rw [cb_len, HRL.out, zeros_len])
    exact ret_row_tmp Tryd.results12 rfl hf Tryd.underlying30 rfl (by rw [size_id, cb_len, HRL.out]) rfl ⟨rfl, below_setCells hb0 (Nat.le_refl _) _ _⟩
  · have HR : Hid (lidR k kind t = List.replicate 32 0 ∧ lidE k kind = 1) := by unfold Hid lidR lidE; rw [if_neg hf, if_neg hf]; exact ⟨rfl, rfl⟩
    obtain ⟨R0, hR0⟩ : ∃ R : List UInt8, R = List.replicate 32 0 := ⟨_, rfl⟩
    rw [HR.out.1, HR.out.2, ← hR0]
    have hcase : (¬ (n : Int) = 32) ∨ ((n : Int) = 32 ∧ kind < 0) ∨ ((n : Int) = 32 ∧ ¬ kind < 0 ∧ (255 : Int) < kind) := by
      unfold ifit at hf
      simp only [Bool.and_eq_true, decide_eq_true_eq] at hf
      omega
    have hz := zeros_cb 32
    obtain ⟨Z, hZ⟩ : ∃ Z, Z = zeros .u8 32 := ⟨_, rfl⟩
    have HZ : Hid (zeros .u8 32 = Z) := hZ.symm
    have HZ2 : Hid (Z = cb R0) := by unfold Hid; rw [hZ, hz, hR0]
    have HZL : Hid (Z.length = 32) := by unfold Hid; rw [hZ, zeros_len]
    have HZO : Hid (∀ v ∈ Z, v.oneCell' = true) := by unfold Hid; rw [hZ]; exact zeros_one _ _
    rw [← hZ] at b0 HW0
    clear hf hn hn' HR hz hZ hR0
    go_enter Tryd.func12, Tryd.ntmps12
    rcases hcase with hq | ⟨hq, hq2⟩ | ⟨hq, hq2, hq3⟩
    all_goals
      go_wp2_with (first
        | (refine wpList_alloc_zero rfl 30 rfl (zeros .u8 32) zero_id ?_; rw [HZ.out, ← HW0.out])
        | (refine wpList_build_to rfl 30 _ rfl (zeros .u8 32) built_id ?_; rw [HZ.out])
        | (refine wpList_store_mid rfl 30 _ _ rfl _ _ Z.toArray rfl rfl (b0.there_ (by simp [HZL.out])) (by rw [size_id, List.size_toArray, HZL.out]) (all_oneCell_toArray HZO.out) ?_))
      have hf := b0.over (vs := Z) rfl
      exact ret_row_tmp Tryd.results12 rfl hf Tryd.underlying30 rfl (by rw [size_id, HZL.out]) rfl ⟨by rw [← HZ2.out]; rfl, below_setCells hb0 (Nat.le_refl _) _ _⟩

end Go.Proofs.YtkkpdeembndneaaDoor
