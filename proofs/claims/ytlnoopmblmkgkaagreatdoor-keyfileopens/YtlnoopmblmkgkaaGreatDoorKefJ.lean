/- Layer 11, keyfile: Open. -/
import Derived.Test.YtlnoopmblmkgkaaGreatDoorKefH
import Derived.Test.YtlnoopmblmkgkaaGreatDoorKefG
namespace Go.Proofs.YtlnoopmblmkgkaaGreatDoor
set_option maxRecDepth 100000
open Go Go.RowKit
set_option linter.unusedVariables false
set_option linter.unusedSimpArgs false

/-- What Open tells: an error E, or the ring M. -/
def OpenPost (w : World) (E : Int) (M : RM) (e : Ending) (w' : World) : Prop := Below w.heap.size w w' ∧
  ((E = 0 ∧ ∃ g, e = .returned (.tuple #[.pointer (some ⟨g, 0, none⟩), .int .i64 0]) ∧ Rg w' w'.heap.size g M ∧ w.heap.size ≤ g) ∨ (E ≠ 0 ∧ e = .returned (.tuple #[.pointer none, .int .i64 E])))

theorem opE_arg {pass S X : List UInt8} {r nu : Int} (h : kfit S.length r nu X.length = false) : opE pass S r nu X = 1 := by unfold opE; rw [if_neg (by rw [h]; decide)]
theorem opE_pass {pass S X : List UInt8} {r nu : Int} (h : kfit S.length r nu X.length = true) (hb : opB pass S r nu X ≠ 0) : opE pass S r nu X = 8 := by unfold opE; rw [if_pos h, if_neg hb]
theorem opT_len {pass S X : List UInt8} {r nu : Int} (hb : opB pass S r nu X = 0) : (opT pass S r nu X).length = X.length - 16 := by
  unfold opT
  unfold opB at hb
  rw [openR_zero hb, mixL_len, body_len]
theorem opE_some {pass S X : List UInt8} {r nu : Int} {K : Nat} {s : RM} (h : kfit S.length r nu X.length = true) (hb : opB pass S r nu X = 0) (hK : (opT pass S r nu X).length = 33 * K) (hs : ringOf (opT pass S r nu X) K = some s) : opE pass S r nu X = 0 ∧ opM pass S r nu X = s := by
  unfold opE opM
  rw [if_pos h, if_pos hb, hK, show 33 * K / 33 = K by omega, hs]
  exact ⟨rfl, rfl⟩
theorem opE_none {pass S X : List UInt8} {r nu : Int} {K : Nat} (h : kfit S.length r nu X.length = true) (hb : opB pass S r nu X = 0) (hK : (opT pass S r nu X).length = 33 * K) (hs : ringOf (opT pass S r nu X) K = none) : opE pass S r nu X = 5 := by
  unfold opE
  rw [if_pos h, if_pos hb, hK, show 33 * K / 33 = K by omega, hs]

set_option maxHeartbeats 4000000 in
theorem kopen_any (pass S X : List UInt8) (Ap : Option Addr) (np cp : Nat) (A : Option Addr) (n c : Nat) (r nu : Int) (B : Option Addr) (m d : Nat) (w : World) (hp : By w Ap np cp pass) (hf : Fil w A n c S B m d X) (hnp : np ≤ 100000000) (hn : n ≤ 140737488351232) (hm : m ≤ 140737488351232) (hT : Tabs3 w) :
    Calls Tryz.prog 17 #[.agg (fC A n c r nu B m d).toArray, .slice Ap np cp] w (OpenPost w (opE pass S r nu X) (opM pass S r nu X)) := by
  obtain ⟨W0, HW0, b0, hb0, hsz0⟩ := put_f w (fC A n c r nu B m d) 35
  have wh0 := b0.whole
  have hk0 : kfit S.length r nu X.length = kfit n r nu m := by rw [hf.salt.len, hf.box.len]
  have HP := Lib.hid hp
  have HF := Lib.hid hf
  have HT := Lib.hid hT
  cases hk : kfit n r nu m with
  | false =>
    have e1 : opE pass S r nu X = 1 := opE_arg (hk0.trans hk)
    rw [e1]
    have HK := Lib.hid hk
    clear hk0 hk e1 hp hf hT hsz0
    go_enter Tryz.func17, Tryz.ntmps17
    go_wp2_with (first
      | (refine wpList_box_agg rfl 35 _ rfl (fC A n c r nu B m d) rfl ?_; rw [HW0.out])
      | (refine wpList_load_mid rfl 35 _ rfl _ _ rfl (fC A n c r nu B m d) _ wh0 Tryz.underlying35 rfl size_kf ?_)
      | (go_at_call 20; refine (fright_any A n c r nu B m d W0 (by omega) (by omega)).mono ?_; rintro e w1 ⟨rfl, hb1⟩; rw [HK.out])
      | fail)
    go_ret2
    exact ⟨next hb0 hb1, .inr ⟨by decide, rfl⟩⟩
  | true =>
    obtain ⟨⟨k1, k2, k3⟩, k4, k5, k6, k7, k8⟩ := (kfit_iff _ _ _ _).1 hk
    obtain ⟨rn, rfl⟩ : ∃ x : Nat, r = x := ⟨r.toNat, by omega⟩
    obtain ⟨un, rfl⟩ : ∃ x : Nat, nu = x := ⟨nu.toNat, by omega⟩
    subst k4
    have hkS := hk0.trans hk
    have hXl : X.length = m := hf.box.len.symm
    obtain ⟨T, hTd⟩ : ∃ T, T = opT pass S rn un X := ⟨_, rfl⟩
    obtain ⟨Bd, hBd⟩ : ∃ T, T = opB pass S rn un X := ⟨_, rfl⟩
    have huse := fun v (hb : Below w.heap.size w v) (hg : v.cell? ⟨w.heap.size, 3, none⟩ = some (.slice B m d)) => useO_any pass S X Ap np cp A c rn un B m d w.heap.size v (hp.nx hb) (hf.salt.nx hb) (hf.box.nx hb) hg ⟨by omega, by omega⟩ (by omega) hnp (by omega) (hT.next hb)
    rw [← hTd, ← hBd] at huse
    have HU := Lib.hid huse
    have HK := Lib.hid hk
    by_cases hB0 : Bd = 0
    · subst hB0
      obtain ⟨K, hK⟩ : ∃ K : Nat, m = 33 * K + 16 := ⟨(m - 16) / 33, by omega⟩
      have hTl : T.length = 33 * K := by rw [hTd, opT_len hBd.symm, hXl]; omega
      have hK64 : K ≤ 64 := by omega
      have HTL := Lib.hid hTl
      have HR : Hid ((∃ s, ringOf T K = some s ∧ opE pass S rn un X = 0 ∧ opM pass S rn un X = s) ∨ (ringOf T K = none ∧ opE pass S rn un X = 5)) := by
        unfold Hid
        rw [hTd] at hTl
        cases hs : ringOf T K with
        | some s => exact .inl ⟨s, rfl, opE_some hkS hBd.symm hTl (by rw [← hTd]; exact hs)⟩
        | none => exact .inr ⟨rfl, opE_none hkS hBd.symm hTl (by rw [← hTd]; exact hs)⟩
      clear hk0 hk hp hf hT hsz0 hkS hXl hTd hBd huse hTl hK k1 k2 k3 k5 k6 k7 k8
      rcases HR.out with ⟨s, h1, h2, h3⟩ | ⟨h1, h2⟩
      · rw [h2, h3]
        clear HR h2 h3
        have HR := Lib.hid h1
        clear h1
        go_enter Tryz.func17, Tryz.ntmps17
        go_wp2_with (first
          | (refine wpList_box_agg rfl 35 _ rfl (fC A 16 c rn un B m d) rfl ?_; rw [HW0.out])
          | (have := mk1; refine wpList_load_mid rfl 35 _ rfl _ _ rfl (fC A 16 c rn un B m d) _ wh1 Tryz.underlying35 rfl size_kf ?_)
          | (refine wpList_load_mid rfl 35 _ rfl _ _ rfl (fC A 16 c rn un B m d) _ wh0 Tryz.underlying35 rfl size_kf ?_)
          | (go_at_call 20; refine (fright_any A 16 c rn un B m d W0 (by omega) (by omega)).mono ?_; rintro e w1 ⟨rfl, hbb1⟩; rw [HK.out]; have b1 := b0.next hbb1; have hb1 := next hb0 hbb1; have wh1 := b1.whole; have mk1 : True := trivial)
          | (go_at_call 34; refine (HU.out w1 hb1 (b1.cell 3)).mono ?_; rintro e w2 ⟨X2, n2, c2, rfl, x2⟩; have hb2 := next hb1 x2.below)
          | (go_at_call 49; refine (ringof_any T K w2 X2 n2 c2 x2.bys (by rw [x2.len, HTL.out]) (by omega)).mono ?_; rintro e w3 ⟨hb3, hm3⟩; rw [HR.out] at hm3; obtain ⟨g, rfl, r3, hgw⟩ := hm3; have hbw := next hb2 hb3; have hzz := hb2.size)
          | fail)
        go_ret2
        exact ⟨hbw, .inl ⟨rfl, g, rfl, r3, Nat.le_trans hzz hgw⟩⟩
      · rw [h2]
        clear HR h2
        have HR := Lib.hid h1
        clear h1
        go_enter Tryz.func17, Tryz.ntmps17
        go_wp2_with (first
          | (refine wpList_box_agg rfl 35 _ rfl (fC A 16 c rn un B m d) rfl ?_; rw [HW0.out])
          | (have := mk1; refine wpList_load_mid rfl 35 _ rfl _ _ rfl (fC A 16 c rn un B m d) _ wh1 Tryz.underlying35 rfl size_kf ?_)
          | (refine wpList_load_mid rfl 35 _ rfl _ _ rfl (fC A 16 c rn un B m d) _ wh0 Tryz.underlying35 rfl size_kf ?_)
          | (go_at_call 20; refine (fright_any A 16 c rn un B m d W0 (by omega) (by omega)).mono ?_; rintro e w1 ⟨rfl, hbb1⟩; rw [HK.out]; have b1 := b0.next hbb1; have hb1 := next hb0 hbb1; have wh1 := b1.whole; have mk1 : True := trivial)
          | (go_at_call 34; refine (HU.out w1 hb1 (b1.cell 3)).mono ?_; rintro e w2 ⟨X2, n2, c2, rfl, x2⟩; have hb2 := next hb1 x2.below)
          | (go_at_call 49; refine (ringof_any T K w2 X2 n2 c2 x2.bys (by rw [x2.len, HTL.out]) (by omega)).mono ?_; rintro e w3 ⟨hb3, hm3⟩; rw [HR.out] at hm3; obtain rfl : e = .returned (.tuple #[.pointer none, .int .i64 5]) := hm3; have hbw := next hb2 hb3)
          | fail)
        go_ret2
        exact ⟨hbw, .inr ⟨by decide, rfl⟩⟩
    · have e1 : opE pass S rn un X = 8 := opE_pass hkS (by rw [← hBd]; exact hB0)
      rw [e1]
      have hq : (Bd != 0) = true := by simpa using hB0
      clear hk0 hk hp hf hT hsz0 hkS hXl hTd hBd huse k1 k2 k3 k5 k6 k7 k8 e1 hB0
      go_enter Tryz.func17, Tryz.ntmps17
      go_wp2_with (first
        | (refine wpList_box_agg rfl 35 _ rfl (fC A 16 c rn un B m d) rfl ?_; rw [HW0.out])
        | (have := mk1; refine wpList_load_mid rfl 35 _ rfl _ _ rfl (fC A 16 c rn un B m d) _ wh1 Tryz.underlying35 rfl size_kf ?_)
        | (refine wpList_load_mid rfl 35 _ rfl _ _ rfl (fC A 16 c rn un B m d) _ wh0 Tryz.underlying35 rfl size_kf ?_)
        | (go_at_call 20; refine (fright_any A 16 c rn un B m d W0 (by omega) (by omega)).mono ?_; rintro e w1 ⟨rfl, hbb1⟩; rw [HK.out]; have b1 := b0.next hbb1; have hb1 := next hb0 hbb1; have wh1 := b1.whole; have mk1 : True := trivial)
        | (go_at_call 34; refine (HU.out w1 hb1 (b1.cell 3)).mono ?_; rintro e w2 ⟨X2, n2, c2, rfl, x2⟩; have hb2 := next hb1 x2.below)
        | fail)
      go_ret2
      exact ⟨hb2, .inr ⟨by decide, rfl⟩⟩

end Go.Proofs.YtlnoopmblmkgkaaGreatDoor
