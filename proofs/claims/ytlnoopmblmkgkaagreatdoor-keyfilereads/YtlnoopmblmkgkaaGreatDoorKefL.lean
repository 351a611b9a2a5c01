/- Layer 11, keyfile, the document's: Put, Size, Get. -/
import Derived.Test.YtlnoopmblmkgkaaGreatDoorKefK
import Derived.Test.YtlnoopmblmkgkaaGreatDoorKefC
namespace Go.Proofs.YtlnoopmblmkgkaaGreatDoor
set_option maxRecDepth 100000
open Go Go.RowKit
set_option linter.unusedVariables false
set_option linter.unusedSimpArgs false

set_option maxHeartbeats 1000000 in
theorem rput_any11 (S X : List UInt8) (A : Option Addr) (n c : Nat) (r nu : Int) (B : Option Addr) (m d : Nat) (w : World) (hf : Fil w A n c S B m d X) (hn : n ≤ 140737488351232) (hm : m ≤ 140737488351232) :
    Calls Tryz.prog 23 #[.agg (fC A n c r nu B m d).toArray] w (RetBytes 5 w (putL S r nu X).length (putL S r nu X)) := by
  obtain ⟨i0, hi, hz0, hz1, hz2⟩ := info_parts u8_info
  obtain ⟨W, HW, b0, hb0, hsz⟩ := put_f w (fC A n c r nu B m d) 39
  have hcl := named_any A n c r nu B m d m W (by omega)
  have e1 := hf.salt.len
  have e2 := hf.box.len
  have hP : putL S r nu X = if kfit n r nu m = true then headL S r.toNat nu.toNat m ++ X else [] := by unfold putL; rw [← e1, ← e2]
  cases hk : kfit n r nu m with
  | false =>
    rw [hk, if_neg (by decide)] at hP
    rw [hP]
    rw [hk] at hcl
    have HC := Lib.hid hcl
    have wh := b0.whole
    have q3 := (f_cells b0).2.2.2
    clear hcl hk hP hsz e1 e2
    go_enter Tryz.func23, Tryz.ntmps23
    go_wp2_with (first
      | (refine wpList_box_agg rfl 39 _ rfl (fC A n c r nu B m d) rfl ?_; rw [HW.out])
      | (refine wpList_load_mid rfl 39 _ rfl _ _ rfl (fC A n c r nu B m d) _ wh Tryz.underlying39 rfl size_rf ?_)
      | (go_at_call 21; refine HC.out.mono ?_; rintro e w1 ⟨rfl, hb1⟩)
      | fail)
    go_ret
    exact retBytes rfl rfl (World.ownsRow_nil _ _ _ _) (next hb0 hb1)
  | true =>
    rw [hk, if_pos rfl] at hP
    rw [hk] at hcl
    have HC := Lib.hid hcl
    obtain ⟨⟨k1, k2, k3⟩, k4, k5, k6, k7, k8⟩ := (kfit_iff _ _ _ _).1 hk
    obtain ⟨rn, rfl⟩ : ∃ x : Nat, r = x := ⟨r.toNat, by omega⟩
    obtain ⟨nn, rfl⟩ : ∃ x : Nat, nu = x := ⟨nu.toNat, by omega⟩
    subst k4
    rw [Int.toNat_natCast, Int.toNat_natCast] at hP
    rw [hP]
    obtain ⟨Hd, hHd⟩ : ∃ h, h = headL S rn nn m := ⟨_, rfl⟩
    have hHl : Hd.length = 33 := by rw [hHd]; exact headL_len e1.symm _ _ _
    rw [← hHd]
    have HL : Hid ((Hd ++ X).length = 33 + m) := by unfold Hid; rw [List.length_append, hHl, e2]
    have HHD : Hid (headL S rn nn m = Hd) := hHd.symm
    have wh := b0.whole
    have q3 := (f_cells b0).2.2.2
    obtain ⟨SS, hSd⟩ : ∃ SS : World → Prop, SS = fun w' => Bl w' w.heap.size (fC A 16 c rn nn B m d) 39 := ⟨_, rfl⟩
    have HSI : Hid (∀ w', Bl w' w.heap.size (fC A 16 c rn nn B m d) 39 → SS w') := by unfold Hid; intro w' hb; rw [hSd]; exact hb
    have HSW : Hid (∀ w', SS w' → ∀ j v, (fC A 16 c rn nn B m d)[j]? = some v → w'.cell? ((⟨w.heap.size, 0, none⟩ : Addr).add j) = some v) := by unfold Hid; intro w' h j v hv; rw [hSd] at h; rw [Addr.add_mid]; exact h.whole j v hv
    have HS3 : Hid (∀ w', SS w' → w'.cell? ⟨w.heap.size, 3, none⟩ = some (.slice B m d)) := by unfold Hid; intro w' h; rw [hSd] at h; exact (f_cells h).2.2.2
    clear hcl hk hP hsz e1 e2 hHd hHl hSd
    go_enter Tryz.func23, Tryz.ntmps23
    go_wp2_with (first
      | (refine wpList_box_agg rfl 39 _ rfl (fC A 16 c rn nn B m d) rfl ?_; rw [HW.out])
      | (refine wpList_load_mid rfl 39 _ rfl _ _ rfl (fC A 16 c rn nn B m d) _ wh Tryz.underlying39 rfl size_rf ?_)
      | (go_at_call 21; refine HC.out.mono ?_; rintro e w1 ⟨rfl, hb1⟩)
      | fail)
    clear wh HC q3
    replace b0 := b0.next hb1
    replace hb0 := next hb0 hb1
    obtain ⟨W2, hW2⟩ : ∃ W', W' = w1.drew := ⟨_, rfl⟩
    have hbd : Below w1.heap.size w1 W2 := by rw [hW2]; exact (Below.refl _ w1).drew
    replace b0 := b0.next hbd
    replace hb0 := next hb0 hbd
    have hS := HSI.out _ b0
    refine wp_region_held_drew (S := SS) (by kernel_rfl) (by rw [← hW2]; exact hS) (fun _ => ?_)
    rw [← hW2]
    clear hW2 hbd hb1
    refine wpAnyH_take (i := 0) (v := .agg (fC A 16 c rn nn B m d).toArray) rfl (by kernel_rfl) (by kernel_rfl) (by kernel_rfl) (fun _ _ _ h => h) (Or.inl ⟨by rfl, fun w' hSw => exec_load_at w' 39 _ rfl ⟨w.heap.size, 0, none⟩ rfl (fC A 16 c rn nn B m d) _ (HSW.out w' hSw) Tryz.underlying39 rfl size_rf⟩) hS ?_
    simp only [List.getElem_toArray, List.getElem_cons_succ, List.getElem_cons_zero, Act.put, List.setIfInBounds_toArray, List.set_cons_zero, List.set_cons_succ]
    refine wpAnyH_take (i := 1) (v := (.pointer (some ⟨w.heap.size, 3, none⟩))) rfl (by kernel_rfl) (by kernel_rfl) (by kernel_rfl) (fun _ _ _ h => h) (Or.inl ⟨by rfl, fun _ hSw => by go_simp⟩) hS ?_
    simp only [List.getElem_toArray, List.getElem_cons_succ, List.getElem_cons_zero, Act.put, List.setIfInBounds_toArray, List.set_cons_zero, List.set_cons_succ]
    refine wpAnyH_take (i := 2) (v := .slice B m d) rfl (by kernel_rfl) (by kernel_rfl) (by kernel_rfl) (fun _ _ _ h => h) (Or.inl ⟨by rfl, fun w' hSw => by have hq := HS3.out w' hSw; go_simp⟩) hS ?_
    simp only [List.getElem_toArray, List.getElem_cons_succ, List.getElem_cons_zero, Act.put, List.setIfInBounds_toArray, List.set_cons_zero, List.set_cons_succ]
    refine wpAnyH_take (i := 3) (v := (.int .i64 (m : Int))) rfl (by kernel_rfl) (by kernel_rfl) (by kernel_rfl) (fun _ _ _ h => h) (Or.inl ⟨by rfl, fun _ hSw => by go_simp⟩) hS ?_
    simp only [List.getElem_toArray, List.getElem_cons_succ, List.getElem_cons_zero, Act.put, List.setIfInBounds_toArray, List.set_cons_zero, List.set_cons_succ]
    refine wpAnyH_take (i := 5) (v := (.pointer (some ⟨w.heap.size, 3, none⟩))) rfl (by kernel_rfl) (by kernel_rfl) (by kernel_rfl) (fun _ _ _ h => h) (Or.inl ⟨by rfl, fun _ hSw => by go_simp⟩) hS ?_
    simp only [List.getElem_toArray, List.getElem_cons_succ, List.getElem_cons_zero, Act.put, List.setIfInBounds_toArray, List.set_cons_zero, List.set_cons_succ]
    refine wpAnyH_take (i := 6) (v := .slice B m d) rfl (by kernel_rfl) (by kernel_rfl) (by kernel_rfl) (fun _ _ _ h => h) (Or.inl ⟨by rfl, fun w' hSw => by have hq := HS3.out w' hSw; go_simp⟩) hS ?_
    simp only [List.getElem_toArray, List.getElem_cons_succ, List.getElem_cons_zero, Act.put, List.setIfInBounds_toArray, List.set_cons_zero, List.set_cons_succ]
    refine wpAnyH_ready (rs := [4]) (by kernel_rfl) (by simp) (AllReadyH.cons rfl (fun K hK => ?_) AllReadyH.nil)
    simp only [List.getElem_toArray, List.getElem_cons_succ, List.getElem_cons_zero, Act.put, List.setIfInBounds_toArray, List.set_cons_zero, List.set_cons_succ]
    go_simp
    refine (head_any11 S A c rn nn B m d m W2 (hf.salt.nx hb0) (by omega) (by omega) (by omega)).mono ?_
    rintro e w3 ⟨X3, d3, rfl, x3⟩
    rw [HHD.out] at x3
    have hlt := b0.lt
    have own3 := x3.own
    have hz3 := x3.below.size
    replace b0 := b0.next x3.below
    replace hb0 := next hb0 x3.below
    replace hS := HSI.out _ b0
    refine hK.out _ _ hS (fun _ => ?_)
    clear hK K x3
    refine wpAnyH_ready (rs := [7]) (by kernel_rfl) (by simp) (AllReadyH.cons rfl (fun K hK => ?_) AllReadyH.nil)
    simp only [List.getElem_toArray, List.getElem_cons_succ, List.getElem_cons_zero, Act.put, List.setIfInBounds_toArray, List.set_cons_zero, List.set_cons_succ]
    rw [if_pos (by rfl)]
    refine wp_appendS _ _ 22 rfl W2.heap.size 5 i0 (.int .u8 0) 1 Tryz.underlying22 hi hz0 hz1 hz2 rfl (.slice X3 33 d3) 33 (cb Hd) rfl own3 w3.heap.size B m d (cb X) rfl (hf.box.nx hb0).sl hf.box.none_ (cb_one _) (by unfold maxLen; omega) (by omega) hz3 ?_
    intro v4 w4 own4 hg4 hat4
    have hb4 := hb0.grown hg4 hb0.size (fun j hj => by have := own_blk own3 hj; omega)
    obtain ⟨X4, d4, rfl⟩ := own_form own4
    rw [← cb_append] at own4
    have HO := Lib.hid (own_down own4 (Nat.le_of_lt hlt))
    replace hS : SS w4 := HSI.out _ (b0.grown hg4 (fun e => by have := own_blk own3 e; omega))
    refine hK.out _ _ hS (fun _ => ?_)
    clear hK K own3 own4 hg4 hat4
    refine wpAnyH_take (i := 8) (v := (.slice X4 (33 + m) d4)) rfl (by kernel_rfl) (by kernel_rfl) (by kernel_rfl) (fun _ _ _ h => h) (Or.inl ⟨by rfl, fun _ hSw => by go_simp⟩) hS ?_
    simp only [List.getElem_toArray, List.getElem_cons_succ, List.getElem_cons_zero, Act.put, List.setIfInBounds_toArray, List.set_cons_zero, List.set_cons_succ]
    refine wpAnyH_done (by kernel_rfl) ?_ _
    go_wp2
    go_ret
    exact retBytes HL.out.symm rfl HO.out hb4

/-- The three numbers of a header, as the document reads them. -/
structure Parts3 (b : List UInt8) (w : World) (A : Option Addr) (c x y u : Nat) : Prop where
  l1 : loadV ((b.drop 17).take 4) false = x ∧ loadE ((b.drop 17).take 4) = 0
  l2 : longV ((b.drop 21).take 8) = y ∧ longE ((b.drop 21).take 8) = 0
  l3 : loadV ((b.drop 29).take 4) false = u ∧ loadE ((b.drop 29).take 4) = 0
  s1 : Sl w w.heap.size (if c = 17 then A else A.map (·.add 17)) 4 (cb ((b.drop 17).take 4))
  s2 : Sl w w.heap.size (if c = 21 then A else A.map (·.add 21)) 8 (cb ((b.drop 21).take 8))
  s3 : Sl w w.heap.size (if c = 29 then A else A.map (·.add 29)) 4 (cb ((b.drop 29).take 4))
theorem parts3 {b : List UInt8} {w : World} {A : Option Addr} {n c : Nat} (h : Sl w w.heap.size A n (cb b)) (hc : n ≤ c) (h33 : 33 ≤ n) : Parts3 b w A c (gR b) (gNu b) (gN b) := by
  have hn : n = b.length := by rw [← h.1, cb_len]
  have s1 := sl_mid (l := 17) (h := 21) h (by omega) (by omega) hc
  have s2 := sl_mid (l := 21) (h := 29) h (by omega) (by omega) hc
  have s3 := sl_mid (l := 29) (h := 33) h (by omega) (by omega) hc
  rw [show 21 - 17 = 4 from rfl, cb_mid] at s1
  rw [show 29 - 21 = 8 from rfl, cb_mid] at s2
  rw [show 33 - 29 = 4 from rfl, cb_mid] at s3
  exact ⟨load_part b 17 (by omega), long_part b 21 (by omega), load_part b 29 (by omega), s1, s2, s3⟩

set_option maxHeartbeats 2000000 in
theorem rsize_any (b : List UInt8) (w : World) (A : Option Addr) (n c : Nat) (h : Sl w w.heap.size A n (cb b)) (hc : n ≤ c) (hA : A = none → c = 0) (hm : n ≤ 140737488355328) :
    Calls Tryz.prog 25 #[.slice A n c] w fun e w' => e = .returned (.tuple #[.int .i64 (szN b : Nat), .int .i64 (szE b)]) ∧ Below w.heap.size w w' := by
  have hn : n = b.length := by rw [← h.1, cb_len]
  rcases sz_ways b with ⟨h1, e1, e2⟩ | hw
  · rw [e1, e2]
    have hq : (n : Int) < 33 := by omega
    clear hn h e1 e2 h1
    go_enter Tryz.func25, Tryz.ntmps25
    go_wp2
    go_ret2
    exact ⟨rfl, Below.refl _ _⟩
  · have h33 : 33 ≤ n := by rcases hw with h | h | h <;> omega
    have hp3 := parts3 h hc h33
    obtain ⟨ad, rfl, hadl, hb0⟩ := h.byte (j := 0) (by omega)
    have hb1 : w.cell? ad = some (.int .u8 (b[0].toNat : Int)) := by rw [← add_none ad]; exact hb0
    have g1 := gR_lt b
    have g2 := gNu_lt b
    have g3 := gN_lt b
    have hgd : b.getD 0 0 = b[0]'(by omega) := by rw [List.getD_eq_getElem?_getD, List.getElem?_eq_getElem (by omega)]; rfl
    have hk : gHead b = (decide (b[0]'(by omega) = 117) && kfit 16 (gR b) (gNu b) (gN b)) := by unfold gHead; rw [hgd]
    obtain ⟨x, hx⟩ : ∃ x, x = gR b := ⟨_, rfl⟩
    obtain ⟨y, hy⟩ : ∃ y, y = gNu b := ⟨_, rfl⟩
    obtain ⟨u, hu⟩ : ∃ u, u = gN b := ⟨_, rfl⟩
    obtain ⟨b0, hb0e⟩ : ∃ b0, b0 = b[0]'(by omega) := ⟨_, rfl⟩
    rw [← hx, ← hy, ← hu] at hk hp3
    rw [← hb0e] at hk hb0 hb1
    rw [← hx] at g1
    rw [← hy] at g2
    rw [← hu] at g3 hw
    have h117 : (b0 = 117) ↔ b0.toNat = 117 := by rw [← UInt8.toNat_inj]; rfl
    have hbl := b0.toNat_lt
    have HP3 := Lib.hid hp3
    obtain ⟨kf, hkf⟩ : ∃ k, k = kfit 16 x y u := ⟨_, rfl⟩
    rw [← hkf] at hk
    have hbig : ¬ y ≤ 1099511627776 → kf = false := by
      intro h
      rw [hkf, ← Bool.not_eq_true, kfit_iff]
      omega
    have hnm : ∀ P v, Calls Tryz.prog 21 #[.agg #[.slice P 16 (c - 1), .int .i64 (x : Int), .int .i64 (y : Int), .slice none 0 0], .int .i64 (u : Int)] v fun e w' => e = .returned (.bool kf) ∧ Below v.heap.size v w' := fun P v => by rw [hkf]; exact named_any P 16 (c - 1) x y none 0 0 u v (by decide)
    have HNM := Lib.hid hnm
    have HADL := Lib.hid hadl
    have hcc : 33 ≤ c := by omega
    have hways : ∃ (E : Int) (N : Nat), szE b = E ∧ szN b = N ∧ ((b0.toNat ≠ 117 ∧ E = 5 ∧ N = 0) ∨ (b0.toNat = 117 ∧ ¬ y ≤ 1099511627776 ∧ E = 5 ∧ N = 0) ∨ (b0.toNat = 117 ∧ y ≤ 1099511627776 ∧ kf = false ∧ E = 5 ∧ N = 0) ∨ (b0.toNat = 117 ∧ y ≤ 1099511627776 ∧ kf = true ∧ n < 33 + u ∧ E = 3 ∧ N = 0) ∨ (b0.toNat = 117 ∧ y ≤ 1099511627776 ∧ kf = true ∧ ¬ n < 33 + u ∧ E = 0 ∧ N = 33 + u)) := by
      refine ⟨_, _, rfl, rfl, ?_⟩
      by_cases hb : b0.toNat = 117
      · have hkk : gHead b = kf := by rw [hk, decide_eq_true (h117.2 hb)]; rfl
        by_cases hyl : y ≤ 1099511627776
        · cases kf with
          | false =>
            have e := (show szE b = 5 ∧ szN b = 0 by rcases hw with ⟨_, _, h⟩ | ⟨_, h, _⟩ | ⟨_, h, _⟩; exact h; rw [hkk] at h; cases h; rw [hkk] at h; cases h)
            exact .inr (.inr (.inl ⟨hb, hyl, rfl, e⟩))
          | true =>
            by_cases hs : n < 33 + u
            · have e := (show szE b = 3 ∧ szN b = 0 by rcases hw with ⟨_, h, _⟩ | ⟨_, _, _, h⟩ | ⟨_, _, h, _⟩; rw [hkk] at h; cases h; exact h; omega)
              exact .inr (.inr (.inr (.inl ⟨hb, hyl, rfl, hs, e⟩)))
            · have e := (show szE b = 0 ∧ szN b = 33 + u by rcases hw with ⟨_, h, _⟩ | ⟨_, _, h, _⟩ | ⟨_, _, _, h1, h2⟩; rw [hkk] at h; cases h; omega; exact ⟨h1, h2⟩)
              exact .inr (.inr (.inr (.inr ⟨hb, hyl, rfl, hs, e⟩)))
        · have e := (show szE b = 5 ∧ szN b = 0 by have hkf2 := hbig hyl; rw [hkf2] at hkk; rcases hw with ⟨_, _, h⟩ | ⟨_, h, _⟩ | ⟨_, h, _⟩; exact h; rw [hkk] at h; cases h; rw [hkk] at h; cases h)
          exact .inr (.inl ⟨hb, hyl, e⟩)
      · have hkk : gHead b = false := by rw [hk, decide_eq_false (fun e => hb (h117.1 e))]; rfl
        have e := (show szE b = 5 ∧ szN b = 0 by rcases hw with ⟨_, _, h⟩ | ⟨_, h, _⟩ | ⟨_, h, _⟩; exact h; rw [hkk] at h; cases h; rw [hkk] at h; cases h)
        exact .inl ⟨hb, e⟩
    obtain ⟨E, N, eE, eN, hways⟩ := hways
    rw [eE, eN]
    clear hn hk hw hp3 hx hy hu hb0e h117 hgd hkf hbig hnm h eE eN hadl
    have mk0 : True := trivial
    rcases hways with ⟨h1, rfl, rfl⟩ | ⟨h1, h2, rfl, rfl⟩ | ⟨h1, h2, rfl, rfl, rfl⟩ | ⟨h1, h2, rfl, h3, rfl, rfl⟩ | ⟨h1, h2, rfl, h3, rfl, rfl⟩
    · have hq : ((b0.toNat : Int) != 117) = true := by simp; omega
      go_enter Tryz.func25, Tryz.ntmps25
      go_wp2_with (first
        | (have := mk2; refine wpList_slice_lh rfl 22 _ _ _ rfl 5 Tryz.underlying22 u8_size (some ad) n c 29 33 .i64 .i64 _ _ rfl rfl rfl rfl rfl (by omega) (by omega) hA ?_; intro A3 HA3)
        | (have := mk2; go_at_call 54; refine (rload_any ((b.drop 29).take 4) false w1 w1.heap.size A3 4 _ (by rw [HA3.out]; exact HP3.out.s3.nx hd1) (by decide) (Nat.le_refl _)).mono ?_; rintro r w3 ⟨rfl, hd3⟩; rw [HP3.out.l3.1, HP3.out.l3.2]; have hbw := next hd1 hd3; have hb2 := (hbw.cell HADL.out).trans hb1; have hb3 := (hbw.cell (show (ad.add 0).block < w.heap.size by rw [add_block]; exact HADL.out)).trans hb0; clear mk2; have mk3 : True := trivial)
        | (have := mk1; refine wpList_slice_lh rfl 22 _ _ _ rfl 5 Tryz.underlying22 u8_size (some ad) n c 21 29 .i64 .i64 _ _ rfl rfl rfl rfl rfl (by omega) (by omega) hA ?_; intro A2 HA2)
        | (have := mk1; go_at_call 55; refine (rlong_any ((b.drop 21).take 8) w1 w1.heap.size A2 8 _ (by rw [HA2.out]; exact HP3.out.s2.nx hd1) (by decide)).mono ?_; rintro r w2 ⟨rfl, rfl⟩; rw [HP3.out.l2.1, HP3.out.l2.2]; clear mk1; have mk2 : True := trivial)
        | (have := mk0; refine wpList_slice_lh rfl 22 _ _ _ rfl 5 Tryz.underlying22 u8_size (some ad) n c 17 21 .i64 .i64 _ _ rfl rfl rfl rfl rfl (by omega) (by omega) hA ?_; intro A1 HA1)
        | (have := mk0; go_at_call 54; refine (rload_any ((b.drop 17).take 4) false w w.heap.size A1 4 _ (by rw [HA1.out]; exact HP3.out.s1) (by decide) (Nat.le_refl _)).mono ?_; rintro r w1 ⟨rfl, hd1⟩; rw [HP3.out.l1.1, HP3.out.l1.2]; clear mk0; have mk1 : True := trivial)
        | fail)
      go_ret2
      exact ⟨rfl, hbw⟩
    · have hq : ((b0.toNat : Int) != 117) = false := by simp; omega
      have hy : (1099511627776 : Int) < (y : Int) := by omega
      go_enter Tryz.func25, Tryz.ntmps25
      go_wp2_with (first
        | (have := mk2; refine wpList_slice_lh rfl 22 _ _ _ rfl 5 Tryz.underlying22 u8_size (some ad) n c 29 33 .i64 .i64 _ _ rfl rfl rfl rfl rfl (by omega) (by omega) hA ?_; intro A3 HA3)
        | (have := mk2; go_at_call 54; refine (rload_any ((b.drop 29).take 4) false w1 w1.heap.size A3 4 _ (by rw [HA3.out]; exact HP3.out.s3.nx hd1) (by decide) (Nat.le_refl _)).mono ?_; rintro r w3 ⟨rfl, hd3⟩; rw [HP3.out.l3.1, HP3.out.l3.2]; have hbw := next hd1 hd3; have hb2 := (hbw.cell HADL.out).trans hb1; have hb3 := (hbw.cell (show (ad.add 0).block < w.heap.size by rw [add_block]; exact HADL.out)).trans hb0; clear mk2; have mk3 : True := trivial)
        | (have := mk1; refine wpList_slice_lh rfl 22 _ _ _ rfl 5 Tryz.underlying22 u8_size (some ad) n c 21 29 .i64 .i64 _ _ rfl rfl rfl rfl rfl (by omega) (by omega) hA ?_; intro A2 HA2)
        | (have := mk1; go_at_call 55; refine (rlong_any ((b.drop 21).take 8) w1 w1.heap.size A2 8 _ (by rw [HA2.out]; exact HP3.out.s2.nx hd1) (by decide)).mono ?_; rintro r w2 ⟨rfl, rfl⟩; rw [HP3.out.l2.1, HP3.out.l2.2]; clear mk1; have mk2 : True := trivial)
        | (have := mk0; refine wpList_slice_lh rfl 22 _ _ _ rfl 5 Tryz.underlying22 u8_size (some ad) n c 17 21 .i64 .i64 _ _ rfl rfl rfl rfl rfl (by omega) (by omega) hA ?_; intro A1 HA1)
        | (have := mk0; go_at_call 54; refine (rload_any ((b.drop 17).take 4) false w w.heap.size A1 4 _ (by rw [HA1.out]; exact HP3.out.s1) (by decide) (Nat.le_refl _)).mono ?_; rintro r w1 ⟨rfl, hd1⟩; rw [HP3.out.l1.1, HP3.out.l1.2]; clear mk0; have mk1 : True := trivial)
        | fail)
      go_ret2
      exact ⟨rfl, hbw⟩
    · have hq : ((b0.toNat : Int) != 117) = false := by simp; omega
      have hy : ¬ (1099511627776 : Int) < (y : Int) := by omega
      go_enter Tryz.func25, Tryz.ntmps25
      go_wp2_with (first
        | (have := mk2; refine wpList_slice_lh rfl 22 _ _ _ rfl 5 Tryz.underlying22 u8_size (some ad) n c 29 33 .i64 .i64 _ _ rfl rfl rfl rfl rfl (by omega) (by omega) hA ?_; intro A3 HA3)
        | (have := mk2; go_at_call 54; refine (rload_any ((b.drop 29).take 4) false w1 w1.heap.size A3 4 _ (by rw [HA3.out]; exact HP3.out.s3.nx hd1) (by decide) (Nat.le_refl _)).mono ?_; rintro r w3 ⟨rfl, hd3⟩; rw [HP3.out.l3.1, HP3.out.l3.2]; have hbw := next hd1 hd3; have hb2 := (hbw.cell HADL.out).trans hb1; have hb3 := (hbw.cell (show (ad.add 0).block < w.heap.size by rw [add_block]; exact HADL.out)).trans hb0; clear mk2; have mk3 : True := trivial)
        | (have := mk1; refine wpList_slice_lh rfl 22 _ _ _ rfl 5 Tryz.underlying22 u8_size (some ad) n c 21 29 .i64 .i64 _ _ rfl rfl rfl rfl rfl (by omega) (by omega) hA ?_; intro A2 HA2)
        | (have := mk1; go_at_call 55; refine (rlong_any ((b.drop 21).take 8) w1 w1.heap.size A2 8 _ (by rw [HA2.out]; exact HP3.out.s2.nx hd1) (by decide)).mono ?_; rintro r w2 ⟨rfl, rfl⟩; rw [HP3.out.l2.1, HP3.out.l2.2]; clear mk1; have mk2 : True := trivial)
        | (have := mk0; refine wpList_slice_lh rfl 22 _ _ _ rfl 5 Tryz.underlying22 u8_size (some ad) n c 17 21 .i64 .i64 _ _ rfl rfl rfl rfl rfl (by omega) (by omega) hA ?_; intro A1 HA1)
        | (have := mk0; go_at_call 54; refine (rload_any ((b.drop 17).take 4) false w w.heap.size A1 4 _ (by rw [HA1.out]; exact HP3.out.s1) (by decide) (Nat.le_refl _)).mono ?_; rintro r w1 ⟨rfl, hd1⟩; rw [HP3.out.l1.1, HP3.out.l1.2]; clear mk0; have mk1 : True := trivial)
        | fail)
      have hh := HNM.out (some ⟨ad.block, ad.off + 1, none⟩) w3
      go_at_call 21
      refine Calls.mono hh ?_
      rintro e w4 ⟨rfl, hd4⟩
      have hbw4 := next hbw hd4
      clear hh
      go_wp2_with fail
      go_ret2
      exact ⟨rfl, hbw4⟩
    · have hq : ((b0.toNat : Int) != 117) = false := by simp; omega
      have hy : ¬ (1099511627776 : Int) < (y : Int) := by omega
      have hs : (n : Int) < 33 + (u : Int) := by omega
      go_enter Tryz.func25, Tryz.ntmps25
      go_wp2_with (first
        | (have := mk2; refine wpList_slice_lh rfl 22 _ _ _ rfl 5 Tryz.underlying22 u8_size (some ad) n c 29 33 .i64 .i64 _ _ rfl rfl rfl rfl rfl (by omega) (by omega) hA ?_; intro A3 HA3)
        | (have := mk2; go_at_call 54; refine (rload_any ((b.drop 29).take 4) false w1 w1.heap.size A3 4 _ (by rw [HA3.out]; exact HP3.out.s3.nx hd1) (by decide) (Nat.le_refl _)).mono ?_; rintro r w3 ⟨rfl, hd3⟩; rw [HP3.out.l3.1, HP3.out.l3.2]; have hbw := next hd1 hd3; have hb2 := (hbw.cell HADL.out).trans hb1; have hb3 := (hbw.cell (show (ad.add 0).block < w.heap.size by rw [add_block]; exact HADL.out)).trans hb0; clear mk2; have mk3 : True := trivial)
        | (have := mk1; refine wpList_slice_lh rfl 22 _ _ _ rfl 5 Tryz.underlying22 u8_size (some ad) n c 21 29 .i64 .i64 _ _ rfl rfl rfl rfl rfl (by omega) (by omega) hA ?_; intro A2 HA2)
        | (have := mk1; go_at_call 55; refine (rlong_any ((b.drop 21).take 8) w1 w1.heap.size A2 8 _ (by rw [HA2.out]; exact HP3.out.s2.nx hd1) (by decide)).mono ?_; rintro r w2 ⟨rfl, rfl⟩; rw [HP3.out.l2.1, HP3.out.l2.2]; clear mk1; have mk2 : True := trivial)
        | (have := mk0; refine wpList_slice_lh rfl 22 _ _ _ rfl 5 Tryz.underlying22 u8_size (some ad) n c 17 21 .i64 .i64 _ _ rfl rfl rfl rfl rfl (by omega) (by omega) hA ?_; intro A1 HA1)
        | (have := mk0; go_at_call 54; refine (rload_any ((b.drop 17).take 4) false w w.heap.size A1 4 _ (by rw [HA1.out]; exact HP3.out.s1) (by decide) (Nat.le_refl _)).mono ?_; rintro r w1 ⟨rfl, hd1⟩; rw [HP3.out.l1.1, HP3.out.l1.2]; clear mk0; have mk1 : True := trivial)
        | fail)
      have hh := HNM.out (some ⟨ad.block, ad.off + 1, none⟩) w3
      go_at_call 21
      refine Calls.mono hh ?_
      rintro e w4 ⟨rfl, hd4⟩
      have hbw4 := next hbw hd4
      clear hh
      go_wp2_with fail
      go_ret2
      exact ⟨rfl, hbw4⟩
    · have hq : ((b0.toNat : Int) != 117) = false := by simp; omega
      have hy : ¬ (1099511627776 : Int) < (y : Int) := by omega
      have hs : ¬ (n : Int) < 33 + (u : Int) := by omega
      go_enter Tryz.func25, Tryz.ntmps25
      go_wp2_with (first
        | (have := mk2; refine wpList_slice_lh rfl 22 _ _ _ rfl 5 Tryz.underlying22 u8_size (some ad) n c 29 33 .i64 .i64 _ _ rfl rfl rfl rfl rfl (by omega) (by omega) hA ?_; intro A3 HA3)
        | (have := mk2; go_at_call 54; refine (rload_any ((b.drop 29).take 4) false w1 w1.heap.size A3 4 _ (by rw [HA3.out]; exact HP3.out.s3.nx hd1) (by decide) (Nat.le_refl _)).mono ?_; rintro r w3 ⟨rfl, hd3⟩; rw [HP3.out.l3.1, HP3.out.l3.2]; have hbw := next hd1 hd3; have hb2 := (hbw.cell HADL.out).trans hb1; have hb3 := (hbw.cell (show (ad.add 0).block < w.heap.size by rw [add_block]; exact HADL.out)).trans hb0; clear mk2; have mk3 : True := trivial)
        | (have := mk1; refine wpList_slice_lh rfl 22 _ _ _ rfl 5 Tryz.underlying22 u8_size (some ad) n c 21 29 .i64 .i64 _ _ rfl rfl rfl rfl rfl (by omega) (by omega) hA ?_; intro A2 HA2)
        | (have := mk1; go_at_call 55; refine (rlong_any ((b.drop 21).take 8) w1 w1.heap.size A2 8 _ (by rw [HA2.out]; exact HP3.out.s2.nx hd1) (by decide)).mono ?_; rintro r w2 ⟨rfl, rfl⟩; rw [HP3.out.l2.1, HP3.out.l2.2]; clear mk1; have mk2 : True := trivial)
        | (have := mk0; refine wpList_slice_lh rfl 22 _ _ _ rfl 5 Tryz.underlying22 u8_size (some ad) n c 17 21 .i64 .i64 _ _ rfl rfl rfl rfl rfl (by omega) (by omega) hA ?_; intro A1 HA1)
        | (have := mk0; go_at_call 54; refine (rload_any ((b.drop 17).take 4) false w w.heap.size A1 4 _ (by rw [HA1.out]; exact HP3.out.s1) (by decide) (Nat.le_refl _)).mono ?_; rintro r w1 ⟨rfl, hd1⟩; rw [HP3.out.l1.1, HP3.out.l1.2]; clear mk0; have mk1 : True := trivial)
        | fail)
      have hh := HNM.out (some ⟨ad.block, ad.off + 1, none⟩) w3
      go_at_call 21
      refine Calls.mono hh ?_
      rintro e w4 ⟨rfl, hd4⟩
      have hbw4 := next hbw hd4
      clear hh
      go_wp2_with fail
      go_ret2
      exact ⟨by simp, hbw4⟩

set_option maxHeartbeats 2000000 in
theorem rget_any (b : List UInt8) (w : World) (A : Option Addr) (n c : Nat) (h : Sl w w.heap.size A n (cb b)) (hc : n ≤ c) (hA : A = none → c = 0) (hm : n ≤ 140737488351232) :
    Calls Tryz.prog 27 #[.slice A n c] w (RetFile w (gtF b) (gtE b)) := by
  have hn : n = b.length := by rw [← h.1, cb_len]
  obtain ⟨W, HW, b0, hb0, hsz⟩ := put_f w nilF 39
  have hsize := rsize_any b W A n c (h.nx hb0) hc hA (by omega)
  by_cases hE : szE b = 0
  · obtain ⟨h33, hg, hs, _, eN⟩ : 33 ≤ b.length ∧ gHead b = true ∧ ¬ b.length < 33 + gN b ∧ szE b = 0 ∧ szN b = 33 + gN b := by
      rcases sz_ways b with ⟨_, h, _⟩ | ⟨_, _, h, _⟩ | ⟨_, _, _, h, _⟩ | h
      · rw [hE] at h; cases h
      · rw [hE] at h; cases h
      · rw [hE] at h; cases h
      · exact h
    obtain ⟨u, hu⟩ : ∃ u, u = gN b := ⟨_, rfl⟩
    rw [eN, hE, ← hu] at hsize
    rw [← hu] at hs
    have HS := Lib.hid hsize
    by_cases hl : 33 + u < n
    · have e4 : gtE b = 4 := by unfold gtE; rw [if_pos hE, if_pos (by rw [← hu]; omega)]
      rw [gtF_no (by rw [e4]; decide), e4]
      have hq : 33 + (u : Int) < (n : Int) := by omega
      clear hn hsize hE h33 hg hs eN hu hl h hsz e4
      go_enter Tryz.func27, Tryz.ntmps27
      go_wp2_with (first
        | (refine wpList_alloc_zero rfl 39 rfl nilF zero_rf ?_; rw [HW.out])
        | (go_at_call 25; refine HS.out.mono ?_; rintro e w1 ⟨rfl, hd1⟩; have b1 := b0.next hd1; have hb1 := next hb0 hd1)
        | (refine wpList_build_to rfl 39 _ rfl nilF built_rf0 ?_)
        | (refine wpList_store_mid rfl 39 _ _ rfl _ _ nilF.toArray rfl rfl (b1.there_ (by simp [nilF, fC])) size_rf (all_oneCell_toArray nilF_one) ?_)
        | fail)
      exact ret_row_tmp Tryz.results27 rfl (b1.over (vs := nilF) rfl) Tryz.underlying39 rfl size_rf rfl (retFile_nil rfl (below_setCells hb1 (Nat.le_refl _) _ _))
    · have e0 : gtE b = 0 := by unfold gtE; rw [if_pos hE, if_neg (by rw [← hu]; omega)]
      obtain ⟨hp1, hp2, hp3, hp4⟩ := read_put e0
      have hnu := ((kfit_iff _ _ _ _).1 hp2).2.2.2.2.2
      rw [hp3, hp4, ← hu] at hp2
      have hF : gtF b = ⟨gSalt b, gR b, gNu b, gBox b⟩ := by unfold gtF; rw [if_pos e0]
      rw [hF, e0]
      have hq : ¬ 33 + (u : Int) < (n : Int) := by omega
      have hn33 : 33 ≤ n := by omega
      have hp3' := parts3 h hc hn33
      have s1 := sl_mid (l := 1) (h := 17) h (by omega) (by omega) hc
      rw [show 17 - 1 = 16 from rfl, cb_mid] at s1
      have s2 := sl_cut (k := 33) h (by omega) hc
      rw [show (cb b).drop 33 = cb (gBox b) by unfold gBox; simp [cb]] at s2
      obtain ⟨P1, hP1⟩ : ∃ P, P = if c = 1 then A else A.map (·.add 1) := ⟨_, rfl⟩
      obtain ⟨P2, hP2⟩ : ∃ P, P = if c = 33 then A else A.map (·.add 33) := ⟨_, rfl⟩
      rw [← hP1] at s1
      rw [← hP2] at s2
      have z1 : P1 = none → c - 1 = 0 := by intro e; subst hP1; rw [if_neg (by omega)] at e; cases A with | none => have := hA rfl; omega | some a => cases e
      have z2 : P2 = none → c - 33 = 0 := by
        intro e; subst hP2
        split at e
        · have := hA e; omega
        · cases A with | none => have := hA rfl; omega | some a => cases e
      obtain ⟨x, hx⟩ : ∃ x, x = gR b := ⟨_, rfl⟩
      obtain ⟨y, hy⟩ : ∃ y, y = gNu b := ⟨_, rfl⟩
      have g1 := gR_lt b
      rw [← hx] at g1
      rw [← hy] at hnu
      rw [← hx, ← hy, ← hu] at hp3'
      rw [← hx, ← hy]
      have hwx : IntKind.i64.wrap (x : Int) = (x : Int) := by simp only [IntKind.wrap_i64]; omega
      have hwy : IntKind.i64.wrap (y : Int) = (y : Int) := by simp only [IntKind.wrap_i64]; omega
      have HP3 := Lib.hid hp3'
      have H1 := Lib.hid hP1
      have H2 := Lib.hid hP2
      have HX : Hid (n - 33 = (gBox b).length) := by unfold Hid gBox; rw [List.length_drop]; omega
      have HSL : Hid (16 = (gSalt b).length) := hp3.symm
      have HWX := Lib.hid hwx
      have HWY := Lib.hid hwy
      have hcc : 33 ≤ c := by omega
      clear hn hsize hE h33 hg hs eN hu hl hsz e0 hp1 hp2 hp3 hp4 hF hx hy hP1 hP2 hnu hwx hwy hp3'
      have mk0 : True := trivial
      go_enter Tryz.func27, Tryz.ntmps27
      go_wp2_with (first
        | (refine wpList_alloc_zero rfl 39 rfl nilF zero_rf ?_; rw [HW.out])
        | (go_at_call 25; refine HS.out.mono ?_; rintro e w1 ⟨rfl, hd1⟩; have b1 := b0.next hd1; have hb1 := next hb0 hd1)
        | (have := mk1; refine wpList_slice_lh rfl 22 _ _ _ rfl 5 Tryz.underlying22 u8_size A n c 21 29 .i64 .i64 _ _ rfl rfl rfl rfl rfl (by omega) (by omega) hA ?_; intro A2 HA2)
        | (have := mk1; go_at_call 55; refine (rlong_any ((b.drop 21).take 8) w2 w2.heap.size A2 8 _ (by rw [HA2.out]; exact (HP3.out.s2.nx hb1).nx hd2) (by decide)).mono ?_; rintro r w' ⟨rfl, rfl⟩; rw [HP3.out.l2.1, HP3.out.l2.2])
        | (have := mk0; refine wpList_slice_lh rfl 22 _ _ _ rfl 5 Tryz.underlying22 u8_size A n c 17 21 .i64 .i64 _ _ rfl rfl rfl rfl rfl (by omega) (by omega) hA ?_; intro A1 HA1)
        | (have := mk0; go_at_call 54; refine (rload_any ((b.drop 17).take 4) false w1 w1.heap.size A1 4 _ (by rw [HA1.out]; exact HP3.out.s1.nx hb1) (by decide) (Nat.le_refl _)).mono ?_; rintro r w2 ⟨rfl, hd2⟩; rw [HP3.out.l1.1, HP3.out.l1.2]; clear mk0; have mk1 : True := trivial)
        | fail)
      have hb3 := next hb1 hd2
      have b3 := b1.next hd2
      obtain ⟨W2, hW2⟩ : ∃ W, W = w2.drew := ⟨_, rfl⟩
      have hd3 : Below w2.heap.size w2 W2 := by rw [hW2]; exact (Below.refl _ w2).drew
      replace hb3 := next hb3 hd3
      replace b3 := b3.next hd3
      refine wp_region_any (by kernel_rfl) ?_
      change wpAny _ _ _ _ _ _ _ (World.drew _)
      rw [← hW2]
      clear hW2 hd1 hd2 hd3 hb0 b0 hb1 b1
      have o1 : Off w.heap.size 16 P1 := s1.off (Nat.le_refl _)
      have o2 : Off w.heap.size (n - 33) P2 := s2.off (Nat.le_refl _)
      refine wpAny_take (i := 0) (v := (.slice A n c)) rfl (by kernel_rfl) (by kernel_rfl) (by kernel_rfl) (fun _ _ _ h => h) (Or.inl ⟨by rfl, fun _ => by go_simp⟩) ?_
      simp only [List.getElem_toArray, List.getElem_cons_succ, List.getElem_cons_zero, Act.put, List.setIfInBounds_toArray, List.set_cons_zero, List.set_cons_succ]
      refine wpAny_take (i := 1) (v := .slice P1 (17 - 1) (c - 1)) rfl (by kernel_rfl) (by kernel_rfl) (by kernel_rfl) (fun _ _ _ h => h) (Or.inl ⟨by rfl, fun w9 => exec_lh w9 22 5 _ _ _ rfl Tryz.underlying22 u8_size A n c 1 17 .i64 .i64 1 17 rfl rfl rfl rfl rfl (by decide) (by omega) hA P1 H1.out⟩) ?_
      simp only [List.getElem_toArray, List.getElem_cons_succ, List.getElem_cons_zero, Act.put, List.setIfInBounds_toArray, List.set_cons_zero, List.set_cons_succ]
      refine wpAny_take (i := 2) (v := (.int .u32 (x : Int))) rfl (by kernel_rfl) (by kernel_rfl) (by kernel_rfl) (fun _ _ _ h => h) (Or.inl ⟨by rfl, fun _ => by go_simp⟩) ?_
      simp only [List.getElem_toArray, List.getElem_cons_succ, List.getElem_cons_zero, Act.put, List.setIfInBounds_toArray, List.set_cons_zero, List.set_cons_succ]
      refine wpAny_take (i := 3) (v := (.int .i64 (x : Int))) rfl (by kernel_rfl) (by kernel_rfl) (by kernel_rfl) (fun _ _ _ h => h) (Or.inl ⟨by rfl, fun _ => by go_simp; exact HWX.out⟩) ?_
      simp only [List.getElem_toArray, List.getElem_cons_succ, List.getElem_cons_zero, Act.put, List.setIfInBounds_toArray, List.set_cons_zero, List.set_cons_succ]
      refine wpAny_take (i := 4) (v := (.int .u64 (y : Int))) rfl (by kernel_rfl) (by kernel_rfl) (by kernel_rfl) (fun _ _ _ h => h) (Or.inl ⟨by rfl, fun _ => by go_simp⟩) ?_
      simp only [List.getElem_toArray, List.getElem_cons_succ, List.getElem_cons_zero, Act.put, List.setIfInBounds_toArray, List.set_cons_zero, List.set_cons_succ]
      refine wpAny_take (i := 5) (v := (.int .i64 (y : Int))) rfl (by kernel_rfl) (by kernel_rfl) (by kernel_rfl) (fun _ _ _ h => h) (Or.inl ⟨by rfl, fun _ => by go_simp; exact HWY.out⟩) ?_
      simp only [List.getElem_toArray, List.getElem_cons_succ, List.getElem_cons_zero, Act.put, List.setIfInBounds_toArray, List.set_cons_zero, List.set_cons_succ]
      refine wpAny_take (i := 6) (v := (.slice A n c)) rfl (by kernel_rfl) (by kernel_rfl) (by kernel_rfl) (fun _ _ _ h => h) (Or.inl ⟨by rfl, fun _ => by go_simp⟩) ?_
      simp only [List.getElem_toArray, List.getElem_cons_succ, List.getElem_cons_zero, Act.put, List.setIfInBounds_toArray, List.set_cons_zero, List.set_cons_succ]
      refine wpAny_take (i := 7) (v := .slice P2 (n - 33) (c - 33)) rfl (by kernel_rfl) (by kernel_rfl) (by kernel_rfl) (fun _ _ _ h => h) (Or.inl ⟨by rfl, fun w9 => exec_slice_from w9 22 5 _ _ rfl Tryz.underlying22 u8_size A n c 33 .i64 33 rfl rfl rfl hn33 hc hA P2 H2.out⟩) ?_
      simp only [List.getElem_toArray, List.getElem_cons_succ, List.getElem_cons_zero, Act.put, List.setIfInBounds_toArray, List.set_cons_zero, List.set_cons_succ]
      obtain ⟨C, hC⟩ : ∃ C, C = fC P1 16 (c - 1) x y P2 (n - 33) (c - 33) := ⟨_, rfl⟩
      have HBU := Lib.hid (built_rf P1 16 (c - 1) x y P2 (n - 33) (c - 33))
      have HC1 : Hid (∀ v ∈ C, v.oneCell' = true) := by unfold Hid; rw [hC]; exact fC_one _ _ _ _ _ _ _ _
      have HCL : Hid (C.length = 4) := by unfold Hid; rw [hC]; rfl
      rw [← hC] at HBU
      have HC := Lib.hid hC
      clear hC
      refine wpAny_take (i := 8) (v := .agg C.toArray) rfl (by kernel_rfl) (by kernel_rfl) (by kernel_rfl) (fun _ _ _ h => h) (Or.inl ⟨by rfl, fun w' => exec_build 39 _ rfl C HBU.out w'⟩) ?_
      simp only [List.getElem_toArray, List.getElem_cons_succ, List.getElem_cons_zero, Act.put, List.setIfInBounds_toArray, List.set_cons_zero, List.set_cons_succ]
      refine wpAny_one (i := 9) (by kernel_rfl) rfl (by rfl) (fun K hK => ?_)
      simp only [List.getElem_toArray, List.getElem_cons_succ, List.getElem_cons_zero, Act.put, List.setIfInBounds_toArray, List.set_cons_zero, List.set_cons_succ]
      refine wp_store_mid 39 _ _ rfl _ _ C.toArray rfl rfl (b3.there_ (by simp [nilF, fC, HCL.out])) (by rw [size_rf, List.size_toArray, HCL.out]) (all_oneCell_toArray HC1.out) ?_
      have hfin := b3.over (vs := C) (by rw [HCL.out]; rfl)
      have hbf := below_setCells hb3 (Nat.le_refl _) 0 C
      have hF : Hid (Fil (W2.setCells w.heap.size 0 C) P1 16 (c - 1) (gSalt b) P2 (n - 33) (c - 33) (gBox b)) := by
        unfold Hid
        have y3 : By W2 P1 16 (c - 1) (gSalt b) := ⟨s1.nx hb3, HSL.out, by omega, z1⟩
        have y4 : By W2 P2 (n - 33) (c - 33) (gBox b) := ⟨s2.nx hb3, HX.out, by omega, z2⟩
        exact ⟨y3.nb (but_setCells (but_refl W2 _) 0 C) o1, y4.nb (but_setCells (but_refl W2 _) 0 C) o2⟩
      refine hK.out _ _ ?_
      clear hK K
      simp only [List.getElem_toArray, List.getElem_cons_succ, List.getElem_cons_zero, Act.put, List.setIfInBounds_toArray, List.set_cons_zero, List.set_cons_succ]
      refine wpAny_take (i := 10) (v := (.int .i64 0)) rfl (by kernel_rfl) (by kernel_rfl) (by kernel_rfl) (fun _ _ _ h => h) (Or.inl ⟨by rfl, fun _ => by go_simp⟩) ?_
      simp only [List.getElem_toArray, List.getElem_cons_succ, List.getElem_cons_zero, Act.put, List.setIfInBounds_toArray, List.set_cons_zero, List.set_cons_succ]
      refine wpAny_done (by kernel_rfl) ?_ _
      go_wp2
      exact ret_row_tmp Tryz.results27 rfl hfin Tryz.underlying39 rfl (by rw [size_rf, HCL.out]) rfl ⟨P1, 16, c - 1, P2, n - 33, c - 33, by rw [HC.out]; rfl, hF.out, hbf⟩
  · have e4 : gtE b = szE b := by unfold gtE; rw [if_neg hE]
    rw [gtF_no (by rw [e4]; exact hE), e4]
    obtain ⟨E, hEe⟩ : ∃ E, E = szE b := ⟨_, rfl⟩
    rw [← hEe] at hE hsize ⊢
    have hq : (E != 0) = true := by simpa using hE
    have HS := Lib.hid hsize
    clear hn hsize hE h hsz e4 hEe
    go_enter Tryz.func27, Tryz.ntmps27
    go_wp2_with (first
      | (refine wpList_alloc_zero rfl 39 rfl nilF zero_rf ?_; rw [HW.out])
      | (go_at_call 25; refine HS.out.mono ?_; rintro e w1 ⟨rfl, hd1⟩; have b1 := b0.next hd1; have hb1 := next hb0 hd1)
      | (refine wpList_build_to rfl 39 _ rfl nilF built_rf0 ?_)
      | (refine wpList_store_mid rfl 39 _ _ rfl _ _ nilF.toArray rfl rfl (b1.there_ (by simp [nilF, fC])) size_rf (all_oneCell_toArray nilF_one) ?_)
      | fail)
    exact ret_row_tmp Tryz.results27 rfl (b1.over (vs := nilF) rfl) Tryz.underlying39 rfl size_rf rfl (retFile_nil rfl (below_setCells hb1 (Nat.le_refl _) _ _))

end Go.Proofs.YtlnoopmblmkgkaaGreatDoor
