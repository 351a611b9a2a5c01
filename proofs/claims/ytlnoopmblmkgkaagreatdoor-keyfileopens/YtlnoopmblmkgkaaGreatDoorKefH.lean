/- Layer 11, keyfile: what Make and Open hand to use; use. -/
import Derived.Test.YtlnoopmblmkgkaaGreatDoorKB
namespace Go.Proofs.YtlnoopmblmkgkaaGreatDoor
set_option maxRecDepth 100000
open Go Go.RowKit
set_option linter.unusedVariables false
set_option linter.unusedSimpArgs false

theorem NewSl.bys {w w' : World} {n : Nat} {l : List UInt8} {A : Option Addr} {c : Nat} (h : NewSl w n l A c w') : By w' A n c l := ⟨h.sl, h.len, h.cap, h.none_⟩
theorem NewSl.down {w w1 w' : World} {n : Nat} {l : List UInt8} {A : Option Addr} {c : Nat} (h : NewSl w1 n l A c w') (hb : Below w.heap.size w w1) : NewSl w n l A c w' :=
  ⟨h.sl, h.len, h.cap, h.none_, fun ad e => Nat.le_trans hb.size (h.new ad e), next hb h.below⟩

/-- What Make hands to use. -/
theorem makeclo_any (key nonce o t : List UInt8) (A0 A1 A2 A3 : Option Addr) (n0 n1 n2 n3 c0 c1 c2 c3 gt : Nat) (w : World) (h0 : By w A0 n0 c0 key) (h1 : By w A1 n1 c1 nonce) (h2 : By w A2 n2 c2 o) (h3 : By w A3 n3 c3 t) (hg : w.cell? ⟨gt, 0, none⟩ = some (.slice A3 n3 c3)) (m2 : n2 ≤ 100000) (m3 : n3 ≤ 100000) (hT : TabC w) :
    Calls Tryz.prog 35 #[.slice A0 n0 c0, .slice A1 n1 c1, .slice A2 n2 c2, .pointer (some ⟨gt, 0, none⟩)] w (RetSl w (sealR key nonce o t) (sealE key nonce)) := by
  have hc := seal_any key nonce o t A0 A1 A2 A3 n0 n1 n2 n3 c0 c1 c2 c3 w h0.sl h1.sl h2.sl h3.sl h0.cap h1.cap h3.cap h0.none_ h1.none_ h3.none_ m2 m3 hT
  obtain ⟨R, hR⟩ : ∃ R, R = sealR key nonce o t := ⟨_, rfl⟩
  obtain ⟨E, hE⟩ : ∃ R, R = sealE key nonce := ⟨_, rfl⟩
  rw [← hR, ← hE] at hc ⊢
  have HC := Lib.hid hc
  clear hc hR hE h0 h1 h2 h3 hT
  go_enter Tryz.func35, Tryz.ntmps35
  go_wp2_with (go_at_call 36; refine HC.out.mono ?_; rintro e w1 ⟨X, n, c, rfl, x⟩)
  go_ret2
  exact ⟨X, n, c, rfl, x⟩

/-- What Open hands to use. -/
theorem openclo_any (key nonce o b : List UInt8) (A0 A1 A2 A3 : Option Addr) (n0 n1 n2 n3 c0 c1 c2 c3 gf : Nat) (w : World) (h0 : By w A0 n0 c0 key) (h1 : By w A1 n1 c1 nonce) (h2 : By w A2 n2 c2 o) (h3 : By w A3 n3 c3 b) (hg : w.cell? ⟨gf, 3, none⟩ = some (.slice A3 n3 c3)) (m2 : n2 ≤ 100000) (m3 : n3 ≤ 100000) (hT : TabC w) :
    Calls Tryz.prog 47 #[.slice A0 n0 c0, .slice A1 n1 c1, .slice A2 n2 c2, .pointer (some ⟨gf, 0, none⟩)] w (RetSl w (openR key nonce o b) (openE key nonce o b)) := by
  have hc := open_any key nonce o b A0 A1 A2 A3 n0 n1 n2 n3 c0 c1 c2 c3 w h0.sl h1.sl h2.sl h3.sl h0.cap h1.cap h3.cap h0.none_ h1.none_ h3.none_ m2 m3 hT
  obtain ⟨R, hR⟩ : ∃ R, R = openR key nonce o b := ⟨_, rfl⟩
  obtain ⟨E, hE⟩ : ∃ R, R = openE key nonce o b := ⟨_, rfl⟩
  rw [← hR, ← hE] at hc ⊢
  have HC := Lib.hid hc
  clear hc hR hE h0 h1 h2 h3 hT
  go_enter Tryz.func47, Tryz.ntmps47
  go_wp2_with (go_at_call 48; refine HC.out.mono ?_; rintro e w1 ⟨X, n, c, rfl, x⟩)
  go_ret2
  exact ⟨X, n, c, rfl, x⟩

theorem nb_file {nu : Nat} (h : nu ≤ 1099511627776) : nbL 0 nu = nonceL 0 nu ∧ nbE 0 nu = 0 := by
  have hok : cnok 0 nu = true := (cnok_iff _ _).2 (by omega)
  unfold nbL nbE
  rw [if_pos hok, if_pos hok]
  exact ⟨by simp, rfl⟩

set_option maxHeartbeats 2000000 in
/-- use with what Make hands it. -/
theorem useS_any (pass S T : List UInt8) (Ap : Option Addr) (np cp : Nat) (A : Option Addr) (c r nu : Nat) (B : Option Addr) (m d gt : Nat) (At : Option Addr) (nt ct : Nat) (w : World)
    (hp : By w Ap np cp pass) (hs : By w A 16 c S) (ht : By w At nt ct T) (hg : w.cell? ⟨gt, 0, none⟩ = some (.slice At nt ct)) (hr : 1 ≤ r ∧ r ≤ 4096) (hnu : nu ≤ 1099511627776) (hm : m < 4294967296) (hnp : np ≤ 100000000) (hnt : nt ≤ 100000) (hT : Tabs3 w) :
    Calls Tryz.prog 34 #[.agg (fC A 16 c r nu B m d).toArray, .slice Ap np cp, .func (.func 35) #[] #[.pointer (some ⟨gt, 0, none⟩)]] w (RetSl w (boxL (fkey pass S r) (nonceL 0 nu) (headL S r nu m) T) 0) := by
  obtain ⟨W, HW, b0, hb0, hsz⟩ := put_f w (fC A 16 c r nu B m d) 35
  obtain ⟨q0, q1, q2, q3⟩ := f_cells b0
  have hfit := fkey_fit pass S (r := r) nu (by omega) (by omega)
  have hgl : gt < w.heap.size := block_lt_of_cell hg
  obtain ⟨K, hK⟩ : ∃ K, K = fkey pass S r := ⟨_, rfl⟩
  obtain ⟨N, hN⟩ : ∃ N, N = nonceL 0 nu := ⟨_, rfl⟩
  obtain ⟨H, hH⟩ : ∃ H, H = headL S r nu m := ⟨_, rfl⟩
  have HKE : Hid (keyE r 32 = 0 ∧ keyL pass S r 32 = K ∧ K.length = 32) := by unfold Hid; have := fkey_len pass S (r := r) (by omega) (by omega); rw [hK]; exact ⟨this.2, rfl, this.1⟩
  have HNE : Hid (nbE 0 nu = 0 ∧ nbL 0 nu = N) := by unfold Hid; rw [hN]; exact ⟨(nb_file hnu).2, (nb_file hnu).1⟩
  have HH : Hid (headL S r nu m = H) := hH.symm
  have HSE : Hid (sealE K N = 0 ∧ sealR K N H T = boxL K N H T) := by unfold Hid sealE sealR; rw [hK, hN, if_pos hfit, if_pos hfit]; exact ⟨rfl, rfl⟩
  obtain ⟨R, hR⟩ : ∃ R, R = boxL K N H T := ⟨_, rfl⟩
  rw [← hK, ← hN, ← hH, ← hR]
  rw [← hR] at HSE
  have HT := Lib.hid hT
  have HP := Lib.hid hp
  have HSA := Lib.hid hs
  have HTX := Lib.hid ht
  have HB0 := Lib.hid b0
  clear hK hN hH hR hfit hT hp hs ht hsz b0
  go_enter Tryz.func34, Tryz.ntmps34
  go_wp2_with (first
    | (refine wpList_box_agg rfl 35 _ rfl (fC A 16 c r nu B m d) rfl ?_; rw [HW.out])
    | (go_at_call 60; refine (key_any pass S r 32 W W.heap.size Ap A np cp 16 c (HP.out.nx hb0).sl HP.out.cap HP.out.none_ hnp (HSA.out.nx hb0).sl HSA.out.cap HSA.out.none_ (by decide) (Nat.le_refl _) (HT.out.dig.next hb0)).mono ?_; rintro e w1 ⟨X1, n1, c1, rfl, x1⟩; rw [HKE.out.1]; rw [HKE.out.2.1] at x1; obtain rfl : n1 = 32 := x1.len.trans HKE.out.2.2; have b1 := HB0.out.next x1.below; have hb1 := next hb0 x1.below; have y1 := x1.bys; have c21 : w1.cell? ⟨w.heap.size, 2, none⟩ = some (.int .i64 nu) := b1.cell 2)
    | (go_at_call 61; refine (nof_any 0 nu w1).mono ?_; rintro e w2 ⟨X2, n2, c2, rfl, x2⟩; rw [HNE.out.1]; rw [HNE.out.2] at x2; have b2 := b1.next x2.below; have hb2 := next hb1 x2.below; have y12 := y1.nx x2.below; have y2 := x2.bys; have wh2 := b2.whole)
    | (refine wpList_load_mid rfl 35 _ rfl _ _ rfl (fC A 16 c r nu B m d) _ wh2 Tryz.underlying35 rfl size_kf ?_)
    | (go_at_call 52; refine (header_any S A c r nu B m d w2 (HSA.out.nx hb2) (by omega) (by omega) hm).mono ?_; rintro e w3 ⟨X3, c3, rfl, x3⟩; rw [HH.out] at x3; have hb3 := next hb2 x3.below; have hg3 : w3.cell? ⟨gt, 0, none⟩ = some (.slice At nt ct) := (hb3.cell hgl).trans hg)
    | (go_at_call 35; refine (makeclo_any K N H T X1 X2 X3 At 32 n2 33 nt c1 c2 c3 ct gt w3 (y12.nx x3.below) (y2.nx x3.below) x3.bys (HTX.out.nx hb3) hg3 (by decide) hnt (HT.out.cip.next hb3)).mono ?_; rintro e w4 ⟨X4, n4, c4, rfl, x4⟩; rw [HSE.out.1]; rw [HSE.out.2] at x4)
    | fail)
  go_ret2
  exact ⟨X4, n4, c4, rfl, x4.down hb3⟩

set_option maxHeartbeats 2000000 in
/-- use with what Open hands it. -/
theorem useO_any (pass S X : List UInt8) (Ap : Option Addr) (np cp : Nat) (A : Option Addr) (c r nu : Nat) (B : Option Addr) (m d gf : Nat) (w : World)
    (hp : By w Ap np cp pass) (hs : By w A 16 c S) (ht : By w B m d X) (hg : w.cell? ⟨gf, 3, none⟩ = some (.slice B m d)) (hr : 1 ≤ r ∧ r ≤ 4096) (hnu : nu ≤ 1099511627776) (hnp : np ≤ 100000000) (hnt : m ≤ 100000) (hT : Tabs3 w) :
    Calls Tryz.prog 34 #[.agg (fC A 16 c r nu B m d).toArray, .slice Ap np cp, .func (.func 47) #[] #[.pointer (some ⟨gf, 0, none⟩)]] w (RetSl w (opT pass S r nu X) (opB pass S r nu X)) := by
  obtain ⟨W, HW, b0, hb0, hsz⟩ := put_f w (fC A 16 c r nu B m d) 35
  obtain ⟨q0, q1, q2, q3⟩ := f_cells b0
  have hgl : gf < w.heap.size := block_lt_of_cell hg
  obtain ⟨K, hK⟩ : ∃ K, K = fkey pass S r := ⟨_, rfl⟩
  obtain ⟨N, hN⟩ : ∃ N, N = nonceL 0 nu := ⟨_, rfl⟩
  obtain ⟨H, hH⟩ : ∃ H, H = headL S r nu m := ⟨_, rfl⟩
  have HKE : Hid (keyE r 32 = 0 ∧ keyL pass S r 32 = K ∧ K.length = 32) := by unfold Hid; have := fkey_len pass S (r := r) (by omega) (by omega); rw [hK]; exact ⟨this.2, rfl, this.1⟩
  have HNE : Hid (nbE 0 nu = 0 ∧ nbL 0 nu = N) := by unfold Hid; rw [hN]; exact ⟨(nb_file hnu).2, (nb_file hnu).1⟩
  have HH : Hid (headL S r nu m = H) := hH.symm
  have hOT : opT pass S r nu X = openR K N H X := by unfold opT; rw [hK, hN, hH, ← ht.len, Int.toNat_natCast, Int.toNat_natCast]
  have hOB : opB pass S r nu X = openE K N H X := by unfold opB; rw [hK, hN, hH, ← ht.len, Int.toNat_natCast, Int.toNat_natCast]
  rw [hOT, hOB]
  obtain ⟨R, hR⟩ : ∃ R, R = openR K N H X := ⟨_, rfl⟩
  obtain ⟨E, hE⟩ : ∃ R, R = openE K N H X := ⟨_, rfl⟩
  rw [← hR, ← hE]
  have HSE : Hid (openE K N H X = E ∧ openR K N H X = R) := ⟨hE.symm, hR.symm⟩
  have HT := Lib.hid hT
  have HP := Lib.hid hp
  have HSA := Lib.hid hs
  have HTX := Lib.hid ht
  have HB0 := Lib.hid b0
  clear hK hN hH hR hE hOT hOB hT hp hs ht hsz b0
  go_enter Tryz.func34, Tryz.ntmps34
  go_wp2_with (first
    | (refine wpList_box_agg rfl 35 _ rfl (fC A 16 c r nu B m d) rfl ?_; rw [HW.out])
    | (go_at_call 60; refine (key_any pass S r 32 W W.heap.size Ap A np cp 16 c (HP.out.nx hb0).sl HP.out.cap HP.out.none_ hnp (HSA.out.nx hb0).sl HSA.out.cap HSA.out.none_ (by decide) (Nat.le_refl _) (HT.out.dig.next hb0)).mono ?_; rintro e w1 ⟨X1, n1, c1, rfl, x1⟩; rw [HKE.out.1]; rw [HKE.out.2.1] at x1; obtain rfl : n1 = 32 := x1.len.trans HKE.out.2.2; have b1 := HB0.out.next x1.below; have hb1 := next hb0 x1.below; have y1 := x1.bys; have c21 : w1.cell? ⟨w.heap.size, 2, none⟩ = some (.int .i64 nu) := b1.cell 2)
    | (go_at_call 61; refine (nof_any 0 nu w1).mono ?_; rintro e w2 ⟨X2, n2, c2, rfl, x2⟩; rw [HNE.out.1]; rw [HNE.out.2] at x2; have b2 := b1.next x2.below; have hb2 := next hb1 x2.below; have y12 := y1.nx x2.below; have y2 := x2.bys; have wh2 := b2.whole)
    | (refine wpList_load_mid rfl 35 _ rfl _ _ rfl (fC A 16 c r nu B m d) _ wh2 Tryz.underlying35 rfl size_kf ?_)
    | (go_at_call 52; refine (header_any S A c r nu B m d w2 (HSA.out.nx hb2) (by omega) (by omega) (by omega)).mono ?_; rintro e w3 ⟨X3, c3, rfl, x3⟩; rw [HH.out] at x3; have hb3 := next hb2 x3.below; have hg3 : w3.cell? ⟨gf, 3, none⟩ = some (.slice B m d) := (hb3.cell hgl).trans hg)
    | (go_at_call 47; refine (openclo_any K N H X X1 X2 X3 B 32 n2 33 m c1 c2 c3 d gf w3 (y12.nx x3.below) (y2.nx x3.below) x3.bys (HTX.out.nx hb3) hg3 (by decide) hnt (HT.out.cip.next hb3)).mono ?_; rintro e w4 ⟨X4, n4, c4, rfl, x4⟩; rw [HSE.out.1]; rw [HSE.out.2] at x4)
    | fail)
  go_ret2
  exact ⟨X4, n4, c4, rfl, x4.down hb3⟩

end Go.Proofs.YtlnoopmblmkgkaaGreatDoor
