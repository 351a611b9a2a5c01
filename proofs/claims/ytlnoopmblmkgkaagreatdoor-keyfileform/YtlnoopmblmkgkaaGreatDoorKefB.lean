/- Layer 11, keyfile: numbersOf, Size, Get. -/
import Derived.Test.YtlnoopmblmkgkaaGreatDoorKefA
namespace Go.Proofs.YtlnoopmblmkgkaaGreatDoor
set_option maxRecDepth 100000
open Go Go.RowKit
set_option linter.unusedVariables false
set_option linter.unusedSimpArgs false

theorem cb_mid (b : List UInt8) (l k : Nat) : ((cb b).drop l).take k = cb ((b.drop l).take k) := by simp [cb]

theorem kfit_wrap (sl : Nat) (r n : Int) (y : Nat) (hy : y < 18446744073709551616) : kfit sl r (IntKind.i64.wrap (y : Int)) n = kfit sl r y n := by
  rw [Bool.eq_iff_iff, kfit_iff, kfit_iff]
  simp only [IntKind.wrap_i64]
  omega
theorem kfit_nu {sl : Nat} {r n : Int} {y : Nat} (h : kfit sl r y n = true) : IntKind.i64.wrap (y : Int) = (y : Int) := by
  have := (kfit_iff _ _ _ _).1 h
  simp only [IntKind.wrap_i64]
  omega
theorem load_part (b : List UInt8) (k : Nat) (h : k + 4 ≤ b.length) : loadV ((b.drop k).take 4) false = val ((b.drop k).take 4) ∧ loadE ((b.drop k).take 4) = 0 := by
  have hl : ((b.drop k).take 4).length = 4 := by simp; omega
  unfold loadV loadE
  rw [if_pos hl, if_pos hl]
  exact ⟨by simp, rfl⟩
theorem long_part (b : List UInt8) (k : Nat) (h : k + 8 ≤ b.length) : longV ((b.drop k).take 8) = val ((b.drop k).take 8) ∧ longE ((b.drop k).take 8) = 0 := by
  have hl : ((b.drop k).take 8).length = 8 := by simp; omega
  unfold longV longE
  rw [if_pos hl, if_pos hl]
  exact ⟨rfl, rfl⟩

set_option maxHeartbeats 1000000 in
theorem numbers_any (b : List UInt8) (w : World) (A : Option Addr) (n c : Nat) (h : Sl w w.heap.size A n (cb b)) (hc : n ≤ c) (hA : A = none → c = 0) (h33 : 33 ≤ n) :
    Calls Tryz.prog 53 #[.slice A n c] w fun e w' => e = .returned (.tuple #[.int .i64 (gR b : Nat), .int .i64 (IntKind.i64.wrap (gNu b : Int)), .int .i64 (gN b : Nat)]) ∧ Drew w w' := by
  have hn : n = b.length := by rw [← h.1, cb_len]
  have l1 := load_part b 17 (by omega)
  have l2 := long_part b 21 (by omega)
  have l3 := load_part b 29 (by omega)
  have s1 := sl_mid (l := 17) (h := 21) h (by omega) (by omega) hc
  have s2 := sl_mid (l := 21) (h := 29) h (by omega) (by omega) hc
  have s3 := sl_mid (l := 29) (h := 33) h (by omega) (by omega) hc
  rw [show 21 - 17 = 4 from rfl, cb_mid] at s1
  rw [show 29 - 21 = 8 from rfl, cb_mid] at s2
  rw [show 33 - 29 = 4 from rfl, cb_mid] at s3
  have g1 := gR_lt b
  have g2 := gNu_lt b
  have g3 := gN_lt b
  obtain ⟨x, hx⟩ : ∃ x, x = gR b := ⟨_, rfl⟩
  obtain ⟨y, hy⟩ : ∃ y, y = gNu b := ⟨_, rfl⟩
  obtain ⟨u, hu⟩ : ∃ u, u = gN b := ⟨_, rfl⟩
  obtain ⟨z, hz⟩ : ∃ z, z = IntKind.i64.wrap (y : Int) := ⟨_, rfl⟩
  have L1 : Hid (loadV ((b.drop 17).take 4) false = x ∧ loadE ((b.drop 17).take 4) = 0) := by unfold Hid; rw [hx]; exact l1
  have L2 : Hid (longV ((b.drop 21).take 8) = y ∧ longE ((b.drop 21).take 8) = 0) := by unfold Hid; rw [hy]; exact l2
  have L3 : Hid (loadV ((b.drop 29).take 4) false = u ∧ loadE ((b.drop 29).take 4) = 0) := by unfold Hid; rw [hu]; exact l3
  rw [← hx, ← hy, ← hu]
  rw [← hz]
  rw [← hx] at g1
  rw [← hy] at g2
  rw [← hu] at g3
  have HZ : Hid (wrap64 (y : Int) = z) := by unfold Hid; rw [hz, IntWalk.i64_left]
  have S1 := Lib.hid s1
  have S2 := Lib.hid s2
  have S3 := Lib.hid s3
  clear hn l1 l2 l3 hx hy hu hz s1 s2 s3 h
  go_enter Tryz.func53, Tryz.ntmps53
  go_wp2_with (first
    | (have := mk2; refine wpList_slice_lh rfl 22 _ _ _ rfl 5 Tryz.underlying22 u8_size A n c 29 33 .i64 .i64 _ _ rfl rfl rfl rfl rfl (by omega) (by omega) hA ?_; intro A3 HA3)
    | (have := mk2; go_at_call 86; refine (load_any ((b.drop 29).take 4) false w1 w.heap.size A3 4 _ (by rw [HA3.out]; exact S3.out.below (hd1.below _)) (by decide)).mono ?_; rintro r w3 ⟨rfl, hd3⟩; rw [L3.out.1, L3.out.2])
    | (have := mk1; refine wpList_slice_lh rfl 22 _ _ _ rfl 5 Tryz.underlying22 u8_size A n c 21 29 .i64 .i64 _ _ rfl rfl rfl rfl rfl (by omega) (by omega) hA ?_; intro A2 HA2)
    | (go_at_call 87; refine (long_any ((b.drop 21).take 8) w1 w.heap.size A2 8 _ (by rw [HA2.out]; exact S2.out.below (hd1.below _)) (by decide)).mono ?_; rintro r w2 ⟨rfl, rfl⟩; rw [L2.out.1, L2.out.2]; have mk2 : True := trivial; clear mk1)
    | (refine wpList_slice_lh rfl 22 _ _ _ rfl 5 Tryz.underlying22 u8_size A n c 17 21 .i64 .i64 _ _ rfl rfl rfl rfl rfl (by omega) (by omega) hA ?_; intro A1 HA1)
    | (go_at_call 86; refine (load_any ((b.drop 17).take 4) false w w.heap.size A1 4 _ (by rw [HA1.out]; exact S1.out) (by decide)).mono ?_; rintro r w1 ⟨rfl, hd1⟩; rw [L1.out.1, L1.out.2]; have mk1 : True := trivial)
    | fail)
  go_ret3
  exact ⟨by rw [HZ.out]; rfl, hd1.trans hd3⟩

/-- What Size tells, one way at a time. -/
theorem szE_short {b : List UInt8} (h : b.length < 33) : szE b = 3 ∧ szN b = 0 := by
  have e : szE b = 3 := by unfold szE; rw [if_pos h]
  refine ⟨e, ?_⟩
  unfold szN; rw [e]; rfl
theorem szE_form {b : List UInt8} (h : 33 ≤ b.length) (hg : gHead b = false) : szE b = 5 ∧ szN b = 0 := by
  have e : szE b = 5 := by unfold szE; rw [if_neg (by omega), hg]; rfl
  refine ⟨e, ?_⟩
  unfold szN; rw [e]; rfl
theorem szE_cut {b : List UInt8} (h : 33 ≤ b.length) (hg : gHead b = true) (hs : b.length < 33 + gN b) : szE b = 3 ∧ szN b = 0 := by
  have e : szE b = 3 := by unfold szE; rw [if_neg (by omega), if_pos hg, if_pos hs]
  refine ⟨e, ?_⟩
  unfold szN; rw [e]; rfl
theorem szE_ok {b : List UInt8} (h : 33 ≤ b.length) (hg : gHead b = true) (hs : ¬ b.length < 33 + gN b) : szE b = 0 ∧ szN b = 33 + gN b := by
  have e : szE b = 0 := by unfold szE; rw [if_neg (by omega), if_pos hg, if_neg hs]
  refine ⟨e, ?_⟩
  unfold szN; rw [e]; rfl
/-- Where Size stands. -/
theorem sz_ways (b : List UInt8) : (b.length < 33 ∧ szE b = 3 ∧ szN b = 0) ∨ (33 ≤ b.length ∧ gHead b = false ∧ szE b = 5 ∧ szN b = 0) ∨ (33 ≤ b.length ∧ gHead b = true ∧ b.length < 33 + gN b ∧ szE b = 3 ∧ szN b = 0) ∨ (33 ≤ b.length ∧ gHead b = true ∧ ¬ b.length < 33 + gN b ∧ szE b = 0 ∧ szN b = 33 + gN b) := by
  by_cases h : b.length < 33
  · exact .inl ⟨h, szE_short h⟩
  · cases hg : gHead b with
    | false => exact .inr (.inl ⟨by omega, rfl, szE_form (by omega) hg⟩)
    | true =>
      by_cases hs : b.length < 33 + gN b
      · exact .inr (.inr (.inl ⟨by omega, rfl, hs, szE_cut (by omega) hg hs⟩))
      · exact .inr (.inr (.inr ⟨by omega, rfl, hs, szE_ok (by omega) hg hs⟩))

set_option maxHeartbeats 1000000 in
theorem size_any (b : List UInt8) (w : World) (A : Option Addr) (n c : Nat) (h : Sl w w.heap.size A n (cb b)) (hc : n ≤ c) (hA : A = none → c = 0) (hm : n ≤ 140737488355328) :
    Calls Tryz.prog 24 #[.slice A n c] w fun e w' => e = .returned (.tuple #[.int .i64 (szN b : Nat), .int .i64 (szE b)]) ∧ Drew w w' := by
  have hn : n = b.length := by rw [← h.1, cb_len]
  rcases sz_ways b with ⟨h1, e1, e2⟩ | hw
  · rw [e1, e2]
    have hq : (n : Int) < 33 := by omega
    clear hn h e1 e2 h1
    go_enter Tryz.func24, Tryz.ntmps24
    go_wp2
    go_ret2
    exact ⟨rfl, Drew.refl w⟩
  · have h33 : 33 ≤ n := by rcases hw with h | h | h <;> omega
    have hnum := numbers_any b w A n c h hc hA h33
    obtain ⟨ad, rfl, _, hb0⟩ := h.byte (j := 0) (by omega)
    have hb1 : w.cell? ad = some (.int .u8 (b[0].toNat : Int)) := by rw [← add_none ad]; exact hb0
    have g1 := gR_lt b
    have g2 := gNu_lt b
    have g3 := gN_lt b
    have hgd : b.getD 0 0 = b[0]'(by omega) := by rw [List.getD_eq_getElem?_getD, List.getElem?_eq_getElem (by omega)]; rfl
    have hk : gHead b = (decide (b[0]'(by omega) = 117) && kfit 16 (gR b) (IntKind.i64.wrap (gNu b : Int)) (gN b)) := by unfold gHead; rw [hgd, kfit_wrap _ _ _ _ g2]
    obtain ⟨x, hx⟩ : ∃ x, x = gR b := ⟨_, rfl⟩
    obtain ⟨z, hz⟩ : ∃ z, z = IntKind.i64.wrap (gNu b : Int) := ⟨_, rfl⟩
    obtain ⟨u, hu⟩ : ∃ u, u = gN b := ⟨_, rfl⟩
    obtain ⟨b0, hb0e⟩ : ∃ b0, b0 = b[0]'(by omega) := ⟨_, rfl⟩
    rw [← hx, ← hz, ← hu] at hk hnum
    rw [← hb0e] at hk hb0 hb1
    have h117 : (b0 = 117) ↔ b0.toNat = 117 := by rw [← UInt8.toNat_inj]; rfl
    have hbl := b0.toNat_lt
    have HN := Lib.hid hnum
    have HX := Lib.hid hx
    have HU := Lib.hid hu
    rw [← hu] at hw g3
    obtain ⟨kf, hkf⟩ : ∃ k, k = kfit 16 x z u := ⟨_, rfl⟩
    rw [← hkf] at hk
    have hcl : ∀ v, Calls Tryz.prog 51 #[.int .i64 x, .int .i64 z, .int .i64 (u : Int)] v fun e w' => e = .returned (.bool kf) ∧ v = w' := fun v => by rw [hkf]; exact areright_any _ _ _ _ (by omega)
    have HC := Lib.hid hcl
    by_cases hb : b0.toNat = 117
    · have hbq : ((b0.toNat : Int) != 117) = false := by simp; omega
      have hkk : gHead b = kf := by rw [hk, decide_eq_true (h117.2 hb)]; rfl
      cases kf with
      | false =>
        have e := (show szE b = 5 ∧ szN b = 0 by rcases hw with ⟨_, _, h⟩ | ⟨_, h, _⟩ | ⟨_, h, _⟩; exact h; rw [hkk] at h; cases h; rw [hkk] at h; cases h)
        rw [e.1, e.2]
        clear hn hk hkk hw hnum hx hz hu hb0e h117 hgd hkf hcl e g1 g2 HX HU hb h
        go_enter Tryz.func24, Tryz.ntmps24
        go_wp2_with (first
          | (go_at_call 53; refine HN.out.mono ?_; rintro r w1 ⟨rfl, hd1⟩; have hb2 := (hd1.cell ad).trans hb1; have hb3 := (hd1.cell (ad.add 0)).trans hb0)
          | (go_at_call 51; refine (HC.out _).mono ?_; rintro r w2 ⟨rfl, rfl⟩))
        go_ret2
        exact ⟨rfl, hd1⟩
      | true =>
        by_cases hs : n < 33 + u
        · have e := (show szE b = 3 ∧ szN b = 0 by rcases hw with ⟨_, h, _⟩ | ⟨_, _, _, h⟩ | ⟨_, _, h, _⟩; rw [hkk] at h; cases h; exact h; omega)
          rw [e.1, e.2]
          have hsq : (n : Int) < 33 + (u : Int) := by omega
          clear hn hk hkk hw hnum hx hz hu hb0e h117 hgd hkf hcl e g1 g2 HX HU hb hs h
          go_enter Tryz.func24, Tryz.ntmps24
          go_wp2_with (first
            | (go_at_call 53; refine HN.out.mono ?_; rintro r w1 ⟨rfl, hd1⟩; have hb2 := (hd1.cell ad).trans hb1; have hb3 := (hd1.cell (ad.add 0)).trans hb0)
            | (go_at_call 51; refine (HC.out _).mono ?_; rintro r w2 ⟨rfl, rfl⟩))
          go_ret2
          exact ⟨rfl, hd1⟩
        · have e := (show szE b = 0 ∧ szN b = 33 + gN b by rcases hw with ⟨_, h, _⟩ | ⟨_, _, h, _⟩ | ⟨_, _, _, h1, h2⟩; rw [hkk] at h; cases h; omega; exact ⟨h1, by rw [h2, hu]⟩)
          rw [e.1, e.2, ← hu]
          have hsq : ¬ (n : Int) < 33 + (u : Int) := by omega
          clear hn hk hkk hw hnum hx hz hu hb0e h117 hgd hkf hcl e g1 g2 HX HU hb hs h
          go_enter Tryz.func24, Tryz.ntmps24
          go_wp2_with (first
            | (go_at_call 53; refine HN.out.mono ?_; rintro r w1 ⟨rfl, hd1⟩; have hb2 := (hd1.cell ad).trans hb1; have hb3 := (hd1.cell (ad.add 0)).trans hb0)
            | (go_at_call 51; refine (HC.out _).mono ?_; rintro r w2 ⟨rfl, rfl⟩))
          go_ret2
          exact ⟨by simp, hd1⟩
    · have hbq : ((b0.toNat : Int) != 117) = true := by simp; omega
      have hkk : gHead b = false := by rw [hk, decide_eq_false (fun e => hb (h117.1 e))]; rfl
      have e := (show szE b = 5 ∧ szN b = 0 by rcases hw with ⟨_, _, h⟩ | ⟨_, h, _⟩ | ⟨_, h, _⟩; exact h; rw [hkk] at h; cases h; rw [hkk] at h; cases h)
      rw [e.1, e.2]
      clear hn hk hkk hw hnum hx hz hu hb0e h117 hgd hkf hcl e g1 g2 HX HU hb HC h
      go_enter Tryz.func24, Tryz.ntmps24
      go_wp2_with (first
        | (go_at_call 53; refine HN.out.mono ?_; rintro r w1 ⟨rfl, hd1⟩; have hb2 := (hd1.cell ad).trans hb1; have hb3 := (hd1.cell (ad.add 0)).trans hb0))
      go_ret2
      exact ⟨rfl, hd1⟩

end Go.Proofs.YtlnoopmblmkgkaaGreatDoor
