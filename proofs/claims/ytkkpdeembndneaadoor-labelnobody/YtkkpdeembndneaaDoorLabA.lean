/- Layer 9, label: Key and ID. -/
import Derived.Test.YtkkpdeembndneaaDoorLab
import Derived.Test.YtkkpdeembndneaaDoorMrk
namespace Go.Proofs.YtkkpdeembndneaaDoor
set_option maxRecDepth 100000
open Go.RowKit
set_option linter.unusedVariables false
set_option linter.unusedSimpArgs false

theorem list_three_n {w : World} {A A' A2 : Option Addr} {n n' n2 c c' c2 : Nat} {l l' l2 : List UInt8} (t : TypeId) (hn : n = l.length) (hn' : n' = l'.length) (hn2 : n2 = l2.length) (hs : Sl w w.heap.size A n (cb l)) (hc : n ≤ c) (hz : A = none → c = 0)
    (hs' : Sl w w.heap.size A' n' (cb l')) (hc' : n' ≤ c') (hz' : A' = none → c' = 0) (hs2 : Sl w w.heap.size A2 n2 (cb l2)) (hc2 : n2 ≤ c2) (hz2 : A2 = none → c2 = 0) :
    Parts (w.alloc (.cells #[.slice A n c, .slice A' n' c', .slice A2 n2 c2] t)) (w.alloc (.cells #[.slice A n c, .slice A' n' c', .slice A2 n2 c2] t)).heap.size (some ⟨w.heap.size, 0, none⟩) 3 [l, l', l2] ∧ Below w.heap.size w (w.alloc (.cells #[.slice A n c, .slice A' n' c', .slice A2 n2 c2] t)) := by
  subst hn; subst hn'; subst hn2
  have hb : Below w.heap.size w (w.alloc (.cells #[.slice A l.length c, .slice A' l'.length c', .slice A2 l2.length c2] t)) := (Below.refl _ w).alloc (Nat.le_refl _) _
  have hbl := Bl.newA w #[.slice A l.length c, .slice A' l'.length c', .slice A2 l2.length c2] t
  refine ⟨⟨[.slice A l.length c, .slice A' l'.length c', .slice A2 l2.length c2], ⟨rfl, fun _ => ⟨_, rfl, by simp, fun j u hu => ?_⟩⟩, rfl, fun j hj => ?_⟩, hb⟩
  · rw [Addr.add_mid, Nat.zero_add, hbl.cell]; exact hu
  · have : j = 0 ∨ j = 1 ∨ j = 2 := by simp at hj; omega
    rcases this with rfl | rfl | rfl
    · exact ⟨_, rfl, A, c, rfl, hs.nx hb, hc, hz⟩
    · exact ⟨_, rfl, A', c', rfl, hs'.nx hb, hc', hz'⟩
    · exact ⟨_, rfl, A2, c2, rfl, hs2.nx hb, hc2, hz2⟩

set_option maxHeartbeats 1000000 in
theorem lkey_any (k p : List UInt8) (e : Int) (w : World) (A : Option Addr) (n c : Nat) (h : Sl w w.heap.size A n (cb k)) (hc : n ≤ c) (hA : A = none → c = 0) (hT : Tabs w) :
    Calls Tryd.prog 8 #[.slice A n c, .string ⟨p.toArray⟩, .int .i64 e] w (RetFill 55 w (lkeyR k p e) (lkeyE k p e)) := by
  have hn : n = k.length := by rw [← h.1, cb_len]
  by_cases hf : lfit k p e = true
  · have HF := Lib.hid hf
    unfold lfit at hf
    simp only [Bool.and_eq_true, decide_eq_true_eq] at hf
    obtain ⟨h32, hp, he⟩ := hf
    have hpl : p.length ≤ 16 := by unfold purp at hp; simp only [Bool.and_eq_true, decide_eq_true_eq] at hp; exact hp.2.1
    have he2 := he
    unfold epo at he2
    simp only [Bool.and_eq_true, decide_eq_true_eq] at he2
    obtain ⟨en, rfl⟩ : ∃ en : Nat, e = en := ⟨e.toNat, by omega⟩
    obtain rfl : n = 32 := by omega
    have HE := Lib.hid he2
    have hwr : IntKind.u64.wrap (en : Int) = (en : Int) := by simp only [IntKind.wrap_u64]; omega
    have HM : Hid (([p, [0], told8 en] : List (List UInt8)).flatten = lmsg p en) := by unfold Hid lmsg; simp
    have HR : Hid (lkeyR k p en = hmac k (lmsg p en) ∧ lkeyE k p en = 0) := by unfold Hid lkeyR lkeyE; rw [if_pos HF.out, if_pos HF.out]; exact ⟨rfl, rfl⟩
    have cp := ispurp_any p
    have ce := isepo_any en
    rw [hp] at cp
    rw [he] at ce
    have HP := Lib.hid cp
    have HC := Lib.hid ce
    have HN := Lib.hid hn
    have HPL := Lib.hid hpl
    have HT := Lib.hid hT
    clear hp he he2 h32 cp ce hn hpl hT HF
    go_enter Tryd.func8, Tryd.ntmps8
    go_wp2_with (first
      | (go_at_call 25; refine (HP.out _).mono ?_; rintro e w1 ⟨rfl, rfl⟩)
      | (go_at_call 26; refine (HC.out _).mono ?_; rintro e w1 ⟨rfl, rfl⟩)
      | (refine wpList_bytes_of rfl 9 22 5 _ rfl p rfl Tryd.underlying9 Tryd.underlying22 Tryd.underlying5 ?_; intro cap w1 oc hb1)
      | fail)
    have hz1 := Sl.new w1 #[.int .u8 0] 5
    have hb2 : Below w1.heap.size w1 (w1.alloc (.cells #[.int .u8 0] 5)) := (Below.refl _ w1).alloc (Nat.le_refl _) _
    obtain ⟨W2, hW2⟩ : ∃ W, W = w1.alloc (.cells #[.int .u8 0] 5) := ⟨_, rfl⟩
    have hsz : W2.heap.size = w1.heap.size + 1 := by rw [hW2, alloc_size]
    rw [← hW2, ← hsz] at hz1
    rw [← hW2] at hb2 ⊢
    have z1 : Sl W2 W2.heap.size (some ⟨w1.heap.size, 0, none⟩) 1 (cb [0]) := hz1
    have o2 := oc.next hb2
    have h2 := (h.nx hb1).nx hb2
    replace hb1 := next hb1 hb2
    obtain ⟨gz, hgz⟩ : ∃ gz, gz = w1.heap.size := ⟨_, rfl⟩
    rw [← hgz] at z1 ⊢
    clear hW2 hz1 hb2 oc hsz hgz h
    refine (tell_any en W2).mono ?_
    rintro e w3 ⟨A3, c3, rfl, hn3⟩
    have h3 := h2.nx hn3.below
    have z3 := z1.nx hn3.below
    have o3 := o2.next hn3.below
    replace hb1 := next hb1 hn3.below
    obtain ⟨p3, hb3⟩ := list_three_n (l := p) (l' := [0]) (l2 := told8 en) 22 rfl rfl (told8_len en).symm o3.sl o3.cap_ (by intro h; cases h) z3 (Nat.le_refl 1) (by intro h; cases h) hn3.sl (own_cap hn3.own) hn3.none_
    have h4 := h3.nx hb3
    replace hb1 := next hb1 hb3
    go_wp2_with fail
    have hb4 : Below w.heap.size w _ := hb1
    refine (tag_any k [p, [0], told8 en] _ _ _ _ _ 32 c 3 3 h4 hc hA (Nat.le_refl _) (by omega) p3 (Nat.le_refl _) (by omega) (HT.out.next hb1) (by rw [HM.out, lmsg_len]; have := HPL.out; omega)).mono ?_
    rintro e w4 ⟨rfl, hb5⟩
    rw [HM.out]
    replace hb4 := next hb4 hb5
    obtain ⟨R, hR⟩ : ∃ R, R = hmac k (lmsg p en) := ⟨_, rfl⟩
    have HRL : Hid (R.length = 32) := by unfold Hid; rw [hR, hmac_len]
    rw [← hR] at HR ⊢
    have HRR := Lib.hid hR
    obtain ⟨pn1, pn2, pn3⟩ := put_new w4 (zeros .u8 32) (cb R) 55 (by rw [cb_len, HRL.out, zeros_len])
    have bz := Bl.new w4 (zeros .u8 32) 55
    clear hb1 hb5 h2 h3 h4 z1 z3 o2 o3 hn3 p3 hb3 hR
    go_wp2_with (first
      | (refine wpList_alloc_zero rfl 55 rfl (zeros .u8 32) zero_sum ?_)
      | (refine wpList_store_mid rfl 55 _ _ rfl _ _ (cb R).toArray rfl rfl (bz.there_ (by simp [zeros, cb_len, HRL.out])) (by rw [size_sum, List.size_toArray, cb_len, HRL.out]) (all_oneCell_toArray (cb_one _)) ?_))
    go_ret2
    exact retFill HR.out.1.symm HR.out.2.symm (own_of_block pn1 hb4.size (by rw [cb_len, HRL.out]) (by decide)) (next hb4 pn2)
  · have HR : Hid (lkeyR k p e = [] ∧ lkeyE k p e = 1) := by unfold Hid lkeyR lkeyE; rw [if_neg hf, if_neg hf]; exact ⟨rfl, rfl⟩
    obtain ⟨r1, hr1⟩ : ∃ r, r = lkeyR k p e := ⟨_, rfl⟩
    obtain ⟨r2, hr2⟩ : ∃ r, r = lkeyE k p e := ⟨_, rfl⟩
    rw [← hr1, ← hr2] at HR ⊢
    rw [HR.out.1, HR.out.2]
    clear hr1 hr2 HR
    have cp := ispurp_any p
    have ce := isepo_any e
    have hres : RetFill 55 w [] 1 (.returned (.tuple #[.slice none 0 0, .int .i64 1])) w := ⟨none, 0, 0, rfl, ⟨rfl, .inl ⟨rfl, rfl⟩⟩, Below.refl _ _⟩
    by_cases h32 : n = 32
    · obtain rfl := h32
      by_cases hp : purp p = true
      · have he : epo e = false := by
          rw [← Bool.not_eq_true]
          intro he
          exact hf (by unfold lfit; rw [hp, he, decide_eq_true hn.symm]; rfl)
        rw [hp] at cp
        rw [he] at ce
        have HP := Lib.hid cp
        have HC := Lib.hid ce
        clear hn hf hp he cp ce
        go_enter Tryd.func8, Tryd.ntmps8
        go_wp2_with (first
          | (go_at_call 25; refine (HP.out _).mono ?_; rintro e w1 ⟨rfl, rfl⟩)
          | (go_at_call 26; refine (HC.out _).mono ?_; rintro e w1 ⟨rfl, rfl⟩))
        go_ret2
        exact hres
      · rw [Bool.not_eq_true] at hp
        rw [hp] at cp
        have HP := Lib.hid cp
        clear hn hf hp cp ce
        go_enter Tryd.func8, Tryd.ntmps8
        go_wp2_with (go_at_call 25; refine (HP.out _).mono ?_; rintro e w1 ⟨rfl, rfl⟩)
        go_ret2
        exact hres
    · have h32' : ¬ (n : Int) = 32 := by omega
      clear hn hf h32 cp ce
      go_enter Tryd.func8, Tryd.ntmps8
      go_wp2
      go_ret2
      exact hres

theorem zero_id : (Tryd.prog.info? 30).map (·.zero) = some (some (.agg (zeros .u8 32).toArray)) := by kernel_rfl
theorem size_id : (Tryd.prog.info? 30).map (·.size) = some 32 := by kernel_rfl
theorem built_id : Tryd.prog.built 30 [] = some (zeros .u8 32).toArray := by kernel_rfl

/-- What ID gives. -/
def RetId (w : World) (l : List UInt8) (err : Int) (e : Ending) (w' : World) : Prop := e = .returned (.tuple #[.agg (cb l).toArray, .int .i64 err]) ∧ Below w.heap.size w w'

set_option maxHeartbeats 1000000 in
theorem lid_any (k t : List UInt8) (kind : Int) (w : World) (A A' : Option Addr) (n c n' c' : Nat) (h : Sl w w.heap.size A n (cb k)) (hc : n ≤ c) (hA : A = none → c = 0) (h' : Sl w w.heap.size A' n' (cb t)) (hc' : n' ≤ c') (hA' : A' = none → c' = 0) (hm : n' ≤ 1000000) (hT : Tabs w) :
    Calls Tryd.prog 11 #[.slice A n c, .int .i64 kind, .slice A' n' c'] w (RetId w (lidR k kind t) (lidE k kind)) := by
  have hn : n = k.length := by rw [← h.1, cb_len]
  have hn' : n' = t.length := by rw [← h'.1, cb_len]
  have b0 := Bl.new w (zeros .u8 32) 30
  have hb0 : Below w.heap.size w (w.alloc (.cells (zeros .u8 32).toArray 30)) := (Below.refl _ w).alloc (Nat.le_refl _) _
  obtain ⟨W0, hW0⟩ : ∃ W, W = w.alloc (.cells (zeros .u8 32).toArray 30) := ⟨_, rfl⟩
  rw [← hW0] at b0 hb0
  have HW0 := Lib.hid hW0
  clear hW0
  by_cases hf : ifit k kind = true
  · have HR : Hid (lidR k kind t = hmac k (UInt8.ofNat kind.toNat :: t) ∧ lidE k kind = 0) := by unfold Hid lidR lidE; rw [if_pos hf, if_pos hf]; exact ⟨rfl, rfl⟩
    unfold ifit at hf
    simp only [Bool.and_eq_true, decide_eq_true_eq] at hf
    obtain ⟨h32, hk0, hk1⟩ := hf
    obtain ⟨kn, rfl⟩ : ∃ kn : Nat, kind = kn := ⟨kind.toNat, by omega⟩
    obtain rfl : n = 32 := by omega
    have hkk : ¬ (kn : Int) < 0 := by omega
    have hkk2 : ¬ (255 : Int) < (kn : Int) := by omega
    have hwr : IntKind.u8.wrap (kn : Int) = (kn : Int) := by simp only [IntKind.wrap_u8]; omega
    have hcb : cb [UInt8.ofNat kn] = [.int .u8 (kn : Int)] := by simp [cb, bc]; omega
    obtain ⟨R, hR⟩ : ∃ R, R = hmac k (UInt8.ofNat kn :: t) := ⟨_, rfl⟩
    have HRL : Hid (R.length = 32) := by unfold Hid; rw [hR, hmac_len]
    have e1 : ((kn : Int)).toNat = kn := by simp
    rw [e1, ← hR] at HR
    rw [HR.out.1, HR.out.2]
    have HM : Hid (hmac k ([[UInt8.ofNat kn], t] : List (List UInt8)).flatten = R) := by unfold Hid; rw [hR]; simp
    have hz1 := Sl.new W0 #[.int .u8 (kn : Int)] 5
    have hb1 : Below W0.heap.size W0 (W0.alloc (.cells #[.int .u8 (kn : Int)] 5)) := (Below.refl _ W0).alloc (Nat.le_refl _) _
    obtain ⟨W1, hW1⟩ : ∃ W, W = W0.alloc (.cells #[.int .u8 (kn : Int)] 5) := ⟨_, rfl⟩
    have hsz : W1.heap.size = W0.heap.size + 1 := by rw [hW1, alloc_size]
    rw [← hW1, ← hsz] at hz1
    rw [← hW1] at hb1
    have HW1 := Lib.hid hW1
    have z1 : Sl W1 W1.heap.size (some ⟨W0.heap.size, 0, none⟩) 1 (cb [UInt8.ofNat kn]) := by rw [hcb]; exact hz1
    have h1 := (h.nx hb0).nx hb1
    have t1 := (h'.nx hb0).nx hb1
    have b1 := b0.next hb1
    replace hb0 := next hb0 hb1
    obtain ⟨p2, hb2⟩ := list_two_n (l := [UInt8.ofNat kn]) (l' := t) 22 rfl hn' z1 (Nat.le_refl 1) (by intro h; cases h) t1 hc' hA'
    have h2 := h1.nx hb2
    have b2 := b1.next hb2
    replace hb0 := next hb0 hb2
    have HN := Lib.hid hn'
    have HT := Lib.hid hT
    clear hW1 hz1 hb1 hsz h h' b0 hn hn' h32 hk0 hk1 hcb e1 hR HR t1 z1 h1 b1 hT
    go_enter Tryd.func11, Tryd.ntmps11
    go_wp2_with (first
      | (refine wpList_alloc_zero rfl 30 rfl (zeros .u8 32) zero_id ?_; rw [← HW0.out])
      | (rw [← HW1.out])
      | fail)
    refine (tag_any k [[UInt8.ofNat kn], t] _ _ _ _ _ 32 c 2 2 h2 hc hA (Nat.le_refl _) (by omega) p2 (Nat.le_refl _) (by omega) (HT.out.next hb0) (by simp; have := HN.out; omega)).mono ?_
    rintro e w4 ⟨rfl, hb5⟩
    rw [HM.out]
    have b4 := b2.next hb5
    replace hb0 := next hb0 hb5
    clear hb5 h2 p2 b2 hb2
    go_wp2_with (refine wpList_store_mid rfl 30 _ _ rfl _ _ (cb R).toArray rfl rfl (b4.there_ (by simp [zeros, cb_len, HRL.out])) (by rw [size_id, List.size_toArray, cb_len, HRL.out]) (all_oneCell_toArray (cb_one _)) ?_)
    have hf := b4.over (vs := cb R) (by rw [cb_len, HRL.out, zeros_len])
    exact ret_row_tmp Tryd.results11 rfl hf Tryd.underlying30 rfl (by rw [size_id, cb_len, HRL.out]) rfl ⟨rfl, below_setCells hb0 (Nat.le_refl _) _ _⟩
  · have HR : Hid (lidR k kind t = List.replicate 32 0 ∧ lidE k kind = 1) := by unfold Hid lidR lidE; rw [if_neg hf, if_neg hf]; exact ⟨rfl, rfl⟩
    obtain ⟨R0, hR0⟩ : ∃ R : List UInt8, R = List.replicate 32 0 := ⟨_, rfl⟩
    rw [HR.out.1, HR.out.2, ← hR0]
    have hcase : (¬ (n : Int) = 32) ∨ ((n : Int) = 32 ∧ kind < 0) ∨ ((n : Int) = 32 ∧ ¬ kind < 0 ∧ (255 : Int) < kind) := by
      unfold ifit at hf
      simp only [Bool.and_eq_true, decide_eq_true_eq] at hf
      omega
    have hz := zeros_cb 32
    obtain ⟨Z, hZ⟩ : ∃ Z, Z = zeros .u8 32 := ⟨_, rfl⟩
    have HZ : Hid (zeros .u8 32 = Z) := hZ.symm
    have HZ2 : Hid (Z = cb R0) := by unfold Hid; rw [hZ, hz, hR0]
    have HZL : Hid (Z.length = 32) := by unfold Hid; rw [hZ, zeros_len]
    have HZO : Hid (∀ v ∈ Z, v.oneCell' = true) := by unfold Hid; rw [hZ]; exact zeros_one _ _
    rw [← hZ] at b0 HW0
    clear hf hn hn' HR hz hZ hR0
    go_enter Tryd.func11, Tryd.ntmps11
    rcases hcase with hq | ⟨hq, hq2⟩ | ⟨hq, hq2, hq3⟩
    all_goals
      go_wp2_with (first
        | (refine wpList_alloc_zero rfl 30 rfl (zeros .u8 32) zero_id ?_; rw [HZ.out, ← HW0.out])
        | (refine wpList_build_to rfl 30 _ rfl (zeros .u8 32) built_id ?_; rw [HZ.out])
        | (refine wpList_store_mid rfl 30 _ _ rfl _ _ Z.toArray rfl rfl (b0.there_ (by simp [HZL.out])) (by rw [size_id, List.size_toArray, HZL.out]) (all_oneCell_toArray HZO.out) ?_))
      have hf := b0.over (vs := Z) rfl
      exact ret_row_tmp Tryd.results11 rfl hf Tryd.underlying30 rfl (by rw [size_id, HZL.out]) rfl ⟨by rw [← HZ2.out]; rfl, below_setCells hb0 (Nat.le_refl _) _ _⟩

end Go.Proofs.YtkkpdeembndneaaDoor
