/- The walk of the law EntropyOnce. -/
import Derived.Test.YtmemgiekkedeoaaEntU
namespace Go.Proofs.Ytmemgiekkedeoaa
set_option maxRecDepth 100000
open Go.RowKit
set_option linter.unusedVariables false
set_option linter.unusedSimpArgs false

/-- What EntropyOnce keeps: all that was given (F, owned as va), all that was drawn (D, owned as vd), and the source. -/
structure Onc (b : Nat) (w : World) (g : Nat) (va vd : Value) (nA nD : Nat) (F D : List UInt8) (A : Option Addr) (n c : Nat) (l : List UInt8) : Prop where
  src : Src w g A n c l nD
  oa : w.ownsRow b 5 1 va nA (cb F)
  od : w.ownsRow b 5 1 vd nD (cb D)
  ag : va.ownBlock ≠ some g
  dg : vd.ownBlock ≠ some g
  dis : va.ownBlock = none ∨ va.ownBlock ≠ vd.ownBlock
  aw : 0 < n → ∀ ad, A = some ad → va.ownBlock ≠ some ad.block ∧ vd.ownBlock ≠ some ad.block
  all : F = D ++ l
  sum : nA = nD + n

section
variable {b : Nat} {w w' : World} {g nA nD n c : Nat} {va vd : Value} {F D l : List UInt8} {A : Option Addr}
/- of a program with 29 -/
theorem Onc.next (h : Onc b w g va vd nA nD F D A n c l) (hb : Below w.heap.size w w') : Onc b w' g va vd nA nD F D A n c l :=
  ⟨h.src.next hb, own_below h.oa hb, own_below h.od hb, h.ag, h.dg, h.dis, h.aw, h.all, h.sum⟩
/-- Behind More. -/
theorem Onc.more {m : List UInt8} {mn c' : Nat} {A' : Option Addr} (h : Onc b w g va vd nA nD F D A n c l) (hs : Src w' g A' (n + mn) c' (l ++ m) nD) (hn : ∀ ad, A' = some ad → w.heap.size ≤ ad.block) (hg : w.grownBy w' (some g)) :
    w'.ownsRow b 5 1 va nA (cb F) ∧ w'.ownsRow b 5 1 vd nD (cb D) ∧ (∀ ad, A' = some ad → va.ownBlock ≠ some ad.block ∧ vd.ownBlock ≠ some ad.block) :=
  ⟨own_keep h.oa (fun k hk => hg.block k (own_lt h.oa hk) (fun e => h.ag (by rw [hk, ← e]))), own_keep h.od (fun k hk => hg.block k (own_lt h.od hk) (fun e => h.dg (by rw [hk, ← e]))),
    fun ad e => ⟨fun e2 => by have h1 := own_lt h.oa e2; have h2 := hn ad e; omega, fun e2 => by have h1 := own_lt h.od e2; have h2 := hn ad e; omega⟩⟩
/-- Behind an append onto what was given. -/
theorem onc_all {v' : Value} {m : List UInt8} {mn : Nat} (s : Src w g A n c l nD) (oa : w.ownsRow b 5 1 va nA (cb F)) (od : w.ownsRow b 5 1 vd nD (cb D)) (ag : va.ownBlock ≠ some g) (dg : vd.ownBlock ≠ some g) (dis : va.ownBlock = none ∨ va.ownBlock ≠ vd.ownBlock)
    (aw : 0 < n → ∀ ad, A = some ad → va.ownBlock ≠ some ad.block ∧ vd.ownBlock ≠ some ad.block) (own' : w'.ownsRow b 5 1 v' (nA + mn) (cb (F ++ m))) (gr : w.grownBy w' va.ownBlock) (at' : v'.ownBlock = va.ownBlock ∨ v'.ownBlock = some w.heap.size) (hall : F ++ m = D ++ l) (hsum : nA + mn = nD + n) :
    Onc b w' g v' vd (nA + mn) nD (F ++ m) D A n c l := by
  have hgl := s.lt
  refine ⟨s.row gr ag (fun h0 ad e => (aw h0 ad e).1), own', own_keep od (fun k hk => gr.block k (own_lt od hk) (fun e => ?_)), ?_, dg, ?_, fun h0 ad e => ⟨?_, (aw h0 ad e).2⟩, hall, hsum⟩
  · rcases dis with h | h
    · rw [h] at e; cases e
    · exact h (by rw [← e, hk])
  · rcases at' with h | h
    · rw [h]; exact ag
    · rw [h]; intro e; injection e with e; omega
  · rcases at' with h | h
    · rw [h]; exact dis
    · right; rw [h]; intro e; have := own_lt od e.symm; omega
  · rcases at' with h | h
    · rw [h]; exact (aw h0 ad e).1
    · rw [h]; intro e2; injection e2 with e2; have := s.sl.2 h0; obtain ⟨a, ea, hlt, _⟩ := this; rw [e] at ea; injection ea with ea; subst ea; omega
/-- Behind an append onto what was drawn. -/
theorem onc_drw {v' : Value} {L : List UInt8} {k : Nat} (s : Src w g A n c l (nD + k)) (oa : w.ownsRow b 5 1 va nA (cb F)) (od : w.ownsRow b 5 1 vd nD (cb D)) (ag : va.ownBlock ≠ some g) (dg : vd.ownBlock ≠ some g) (dis : va.ownBlock = none ∨ va.ownBlock ≠ vd.ownBlock)
    (aw : 0 < n → ∀ ad, A = some ad → va.ownBlock ≠ some ad.block ∧ vd.ownBlock ≠ some ad.block) (own' : w'.ownsRow b 5 1 v' (nD + k) (cb (D ++ L))) (gr : w.grownBy w' vd.ownBlock) (at' : v'.ownBlock = vd.ownBlock ∨ v'.ownBlock = some w.heap.size) (hall : F = (D ++ L) ++ l) (hsum : nA = nD + k + n) :
    Onc b w' g va v' nA (nD + k) F (D ++ L) A n c l := by
  have hgl := s.lt
  refine ⟨s.row gr dg (fun h0 ad e => (aw h0 ad e).2), own_keep oa (fun k hk => gr.block k (own_lt oa hk) (fun e => ?_)), own', ag, ?_, ?_, fun h0 ad e => ⟨(aw h0 ad e).1, ?_⟩, hall, hsum⟩
  · rcases dis with h | h
    · rw [h] at hk; cases hk
    · exact h (by rw [hk, ← e])
  · rcases at' with h | h
    · rw [h]; exact dg
    · rw [h]; intro e; injection e with e; omega
  · rcases at' with h | h
    · rw [h]; exact dis
    · right; rw [h]; intro e; have := own_lt oa e; omega
  · rcases at' with h | h
    · rw [h]; exact (aw h0 ad e).2
    · rw [h]; intro e2; injection e2 with e2; have := s.sl.2 h0; obtain ⟨a, ea, hlt, _⟩ := this; rw [e] at ea; injection ea with ea; subst ea; omega
end

set_option maxRecDepth 100000 in
set_option maxHeartbeats 4000000 in
theorem entropyOnce_walk (A0 : Option Addr) (n0 c0 : Nat) (l0 : List UInt8) (A1 : Option Addr) (n1 c1 : Nat) (l1 : List (Int × List UInt8)) (w : World) (s0 : InBytes w A0 n0 c0 l0) (s1 : InDos w A1 n1 c1 l1) :
    Calls Try.prog 4 #[.slice A0 n0 c0, .slice A1 n1 c1] w fun e w' => e = .returned (.bool true) ∧ Below w.heap.size w w' := by
  obtain ⟨i0, hi, hz0, hz1, hz2⟩ := info_parts u8_info
  have y0 := s0.sl
  have z0 := s0.none_
  have p0 := s0.cap
  have HN0 := Lib.hid s0.len
  have hd := s1.dos
  have HN1 := Lib.hid s1.len
  clear s0 s1
  have hfew := few_any l1 w A0 A1 n0 c0 n1 c1 hd HN1.out
  cases hf : fewB n0 l1 with
  | false =>
    rw [hf] at hfew
    go_enter Try.func4, Try.ntmps4
    go_wp2_with fail
    refine hfew.mono ?_
    rintro e w1 ⟨rfl, hb1⟩
    go_wp2_with fail
    refine (awake8_any w1).mono ?_
    rintro e w2 ⟨rfl, hb2⟩
    go_wp2
    go_ret
    exact ⟨rfl, next hb1 hb2⟩
  | true =>
    rw [hf] at hfew
    obtain ⟨h30, h4000, h400⟩ := few_yes hf
    have H400 := Lib.hid h400
    rw [← HN1.out] at h30
    clear hf h400
    go_enter Try.func4, Try.ntmps4
    go_wp2_with fail
    refine hfew.mono ?_
    rintro e w1 ⟨rfl, hb1⟩
    have own1 := World.ownsRow_lit (base := w1.heap.size) (e := 5) (size := 1) w1 #[] 0 (Nat.le_refl _) (by decide) rfl
    have y2 := (y0.nx hb1).nx ((Below.refl _ w1).alloc (Nat.le_refl _) (.cells #[] 5))
    clear hfew
    go_wp2_with (at_builtin; refine wpList_append_sl _ rfl _ _ 22 rfl w1.heap.size 5 i0 (.int .u8 0) 1 Try.underlying22 hi hz0 hz1 hz2 rfl _ 0 [] rfl own1 _ A0 n0 c0 (cb l0) rfl y2 z0 (cb_one _) (by unfold maxLen; omega) (by omega) (by simp) ?_; intro v2 w2 own2 gr2 at2; obtain ⟨X, cx, rfl⟩ := own_form own2)
    rw [Nat.zero_add, List.nil_append] at own2
    have hb2 : Below w1.heap.size w1 w2 := below_app ((Below.refl w1.heap.size w1).alloc (Nat.le_refl _) _) (Nat.le_refl _) own1 gr2
    clear own1 y2 gr2 at2
    refine (enew_any l0 w2 X n0 cx (Sl.own own2) (own_cap own2) (own_none own2) (by omega)).mono ?_
    rintro e w3 ⟨g, A3, c3, rfl, hg3, s3, hnew3, hb3⟩
    have hbw2 := next hb1 hb2
    have hbw3 := next hbw2 hb3
    have hgw : w.heap.size ≤ g := Nat.le_trans hbw2.size hg3
    have hgl3 := s3.lt
    have own3 := World.ownsRow_lit (base := w3.heap.size) (e := 5) (size := 1) w3 #[] 0 (Nat.le_refl _) (by decide) rfl
    have hba := (Below.refl _ w3).alloc (Nat.le_refl _) (.cells #[] 5)
    have y3 := (y0.nx hbw3).nx hba
    clear own2 hb1 hb2 hb3 hbw2 hnew3 hg3
    go_wp2_with (at_builtin; refine wpList_append_sl _ rfl _ _ 22 rfl w3.heap.size 5 i0 (.int .u8 0) 1 Try.underlying22 hi hz0 hz1 hz2 rfl _ 0 [] rfl own3 _ A0 n0 c0 (cb l0) rfl y3 z0 (cb_one _) (by unfold maxLen; omega) (by omega) (by simp) ?_; intro v4 w4 own4 gr4 at4; obtain ⟨Xa, ca, rfl⟩ := own_form own4)
    rw [Nat.zero_add, List.nil_append] at own4
    have hb4 : Below w3.heap.size w3 w4 := below_app hba (Nat.le_refl _) own3 gr4
    have hb5 : Below w4.heap.size w4 (w4.alloc (.cells #[] 5)) := (Below.refl _ w4).alloc (Nat.le_refl _) _
    have hbw5 := next (next hbw3 hb4) hb5
    have h34 := hb4.size
    have O5 : Onc w.heap.size (w4.alloc (.cells #[] 5)) g (.slice Xa n0 ca) (.slice (some ⟨w4.heap.size, 0, none⟩) 0 0) n0 0 l0 [] A3 n0 c3 l0 :=
      ⟨(s3.next hb4).next hb5, own_down (own_below own4 hb5) hbw3.size, own_down (World.ownsRow_lit (base := w4.heap.size) (e := 5) (size := 1) w4 #[] 0 (Nat.le_refl _) (by decide) rfl) (next hbw3 hb4).size,
        fun e => by have := own_blk own4 e; omega, fun e => by simp [Value.ownBlock] at e; omega, .inr (fun e => absurd (own_lt own4 (g := w4.heap.size) e) (by omega)),
        fun h0 ad e => ⟨fun e2 => by have h1 := own_blk own4 e2; have h2 := sl_lt s3.sl h0 e; omega, fun e2 => by have h2 := sl_lt s3.sl h0 e; simp [Value.ownBlock] at e2; omega⟩, by simp, by omega⟩
    obtain ⟨W5, hW5⟩ : ∃ W, W = w4.alloc (.cells #[] 5) := ⟨_, rfl⟩
    rw [← hW5] at O5 hbw5 ⊢
    clear hW5 hb5 hb4 own4 gr4 at4 own3 hba y3 s3 hbw3 h34
    go_loopw [6, 7, 28] (fun va vd i wr => ∃ (k nA nD n c : Nat) (F D l : List UInt8) (A : Option Addr), k ≤ n1 ∧ i = .int .i64 k ∧ Onc w.heap.size wr g va vd nA nD F D A n c l ∧ nA ≤ 4000 + 400 * k ∧ Below w.heap.size w wr) (fun _ _ i _ => n1 - (intOf i).toNat)
    case atStart => exact ⟨0, n0, 0, n0, c3, l0, [], l0, A3, by omega, rfl, O5, by omega, hbw5⟩
    case round =>
      clear O5 hbw5
      obtain ⟨k, nA, nD, n, c, F, D, l, A, hk, rfl, OO, hsum, hb⟩ := hrel
      obtain ⟨Aa, ca2, rfl⟩ := own_form OO.oa
      obtain ⟨Ad, cd, rfl⟩ := own_form OO.od
      by_cases hlt : k < n1
      · have hkI : (k : Int) < (n1 : Int) := by omega
        have hkd : k < l1.length := by have := HN1.out; omega
        obtain ⟨ad, rfl, hat⟩ := hd k hkd
        obtain ⟨hwf, hpl, M, mc, hq0, hq1, hms, hmc, hmz, hmm⟩ := hat.below hb
        have h4 := H400.out k hkd
        obtain ⟨x, hx⟩ : ∃ x, x = l1[k] := ⟨_, rfl⟩
        rw [← hx] at hwf hq0 hq1 hms hmc hmm h4
        have hcc := doC_at hq0 hq1
        clear hx hq0 hq1 hat hmm
        obtain ⟨W6, HW6, ht6, b6, hb6, hs6, e60, e61⟩ := put_do wr x.1 M x.2.length mc 31
        have O6 := OO.next hb6
        have hbw6 : Below w.heap.size w W6 := hb.trans (hb6.mono hb.size)
        have hms6 := (hms.below (hb6.mono hb.size))
        have hsA : nA = nD + n := OO.sum
        have hgl := OO.src.lt
        have HVD : Hid (∀ j, (Value.slice Ad nD cd).ownBlock = some j → j < wr.heap.size) := fun j hj => own_lt OO.od hj
        have HSA := Lib.hid hsA
        clear OO hms hb6 hsA
        by_cases hN : x.1 < -9
        · have own6 := World.ownsRow_lit (base := wr.heap.size + 1) (e := 5) (size := 1) W6 #[] 0 (by omega) (by decide) rfl
          rw [hs6] at own6
          have hb7 : Below W6.heap.size W6 (W6.alloc (.cells #[] 5)) := (Below.refl _ W6).alloc (Nat.le_refl _) _
          have y7 := (hms6.up hbw6.size).nx hb7
          go_wp2_with (first
            | (refine wpList_load_at rfl 31 _ rfl (ad.add (k * 2)) rfl (doC x.1 M x.2.length mc) _ hcc Try.underlying31 rfl size_do ?_)
            | (refine wpList_alloc_zero rfl 31 rfl (doC 0 none 0 0) zero_do ?_)
            | (refine wpList_store_mid rfl 31 _ _ rfl _ _ (doC x.1 M x.2.length mc).toArray rfl rfl ht6 size_do (all_oneCell_toArray (doC_one _ _ _ _)) ?_; rw [HW6.out])
            | (at_builtin; refine wpList_append_sl _ rfl _ _ 22 rfl (wr.heap.size + 1) 5 i0 (.int .u8 0) 1 Try.underlying22 hi hz0 hz1 hz2 rfl _ 0 [] rfl own6 _ M x.2.length mc (cb x.2) rfl y7 hmz (cb_one _) (by unfold maxLen; omega) (by omega) (by simp; omega) ?_; intro v8 w8 own8 gr8 at8; obtain ⟨X8, c8, rfl⟩ := own_form own8))
          rw [Nat.zero_add, List.nil_append] at own8
          have hb8 : Below W6.heap.size W6 w8 := by rw [hs6]; exact below_app (by rw [← hs6]; exact hb7) (by omega) own6 gr8
          have O8 := O6.next hb8
          have hbw8 := next hbw6 hb8
          have hms8 := hms6.below (hb8.mono hbw6.size)
          have b8 := b6.next hb8
          have hs8 := hb8.size
          clear own6 hb7 y7 gr8 at8 O6 hb8 b6
          refine (emore_any g l x.2 nD w8 A X8 n c x.2.length c8 O8.src (Sl.own own8) (own_cap own8) (own_none own8) (by have := HSA.out; omega)).mono ?_
          rintro e w9 ⟨rfl, A9, c9, s9, hnew9, g89⟩
          obtain ⟨oa9, od9, aw9⟩ := O8.more s9 hnew9 g89
          have hbw9 := below_but hbw8 g89 hbw8.size hgw
          have b9 := b8.grown g89 (fun e => by injection e with e; omega)
          have e91 : w9.cell? ⟨wr.heap.size, 1, none⟩ = some (.slice M x.2.length mc) := by rw [b9.cell]; rfl
          have hms9 : Sl w9 w.heap.size M x.2.length (cb x.2) := hms8.below (below_but (Below.refl _ w8) g89 hbw8.size hgw)
          have ag9 := O8.ag
          have dg9 := O8.dg
          have di9 := O8.dis
          have HAL : Hid (F ++ x.2 = D ++ (l ++ x.2)) := by unfold Hid; rw [O8.all, List.append_assoc]
          clear O8 hnew9 g89 own8 hms8 b8 b9 hbw8 e60 e61 hms6
          go_wp2_with (at_builtin; refine wpList_append_sl _ rfl _ _ 22 rfl w.heap.size 5 i0 (.int .u8 0) 1 Try.underlying22 hi hz0 hz1 hz2 rfl _ nA _ rfl oa9 _ M x.2.length mc (cb x.2) rfl hms9 hmz (cb_one _) (by unfold maxLen; omega) (by omega) hbw9.size ?_; intro v10 w10 own10 gr10 at10; obtain ⟨A10, c10, rfl⟩ := own_form own10)
          rw [← cb_append] at own10
          have O10 := onc_all s9 oa9 od9 ag9 dg9 di9 (fun _ => aw9) own10 gr10 at10 HAL.out (by have := HSA.out; omega)
          have hb10 := below_app hbw9 (Nat.le_refl _) oa9 gr10
          clear own10 gr10 at10 s9 oa9 od9 aw9
          go_roundw
          case rel => exact ⟨k + 1, nA + x.2.length, nD, n + x.2.length, c9, F ++ x.2, D, l ++ x.2, A9, by omega, by go_num, O10, by omega, hb10⟩
          case measure => simp [intOf]; omega
        · go_wp2_with (first
            | (refine wpList_load_at rfl 31 _ rfl (ad.add (k * 2)) rfl (doC x.1 M x.2.length mc) _ hcc Try.underlying31 rfl size_do ?_)
            | (refine wpList_alloc_zero rfl 31 rfl (doC 0 none 0 0) zero_do ?_)
            | (refine wpList_store_mid rfl 31 _ _ rfl _ _ (doC x.1 M x.2.length mc).toArray rfl rfl ht6 size_do (all_oneCell_toArray (doC_one _ _ _ _)) ?_; rw [HW6.out]))
          refine (left_any g l nD W6 A n c O6.src).mono ?_
          rintro e w7 ⟨rfl, rfl⟩
          go_wp2_with fail
          refine (edraw_any g l nD x.1 W6 A n c O6.src (by have := HSA.out; omega)).mono ?_
          rintro e w8 ⟨X, k8, cx8, rfl, own8, ⟨A8, n8, c8, s8, cut8⟩, g68⟩
          obtain ⟨L, hL⟩ : ∃ L, L = drawL l x.1 := ⟨_, rfl⟩
          obtain ⟨L2, hL2⟩ : ∃ L, L = drawR l x.1 := ⟨_, rfl⟩
          obtain ⟨E, hE⟩ : ∃ E, E = drawE l x.1 := ⟨_, rfl⟩
          have hok : E = 0 → (k8 : Int) = x.1 := fun h0 => by have h1 := draw_fit (l := l) (N := x.1) (by rw [← hE]; exact h0); have h2 := own8.1; rw [cb_len] at h2; omega
          have hno : E ≠ 0 → k8 = 0 ∧ n8 = n := fun h0 => by
            obtain ⟨h1, h2⟩ := draw_none (l := l) (N := x.1) (by rw [← hE]; exact h0)
            have h3 := own8.1
            rw [h1] at h3
            have h4 := s8.len
            rw [h2, ← O6.src.len] at h4
            exact ⟨by simp [cb] at h3; omega, h4⟩
          have HJ : Hid (L ++ L2 = l) := by unfold Hid; rw [hL, hL2]; exact draw_join l x.1
          rw [← hL] at own8
          rw [← hL2] at s8
          rw [← hE]
          clear hL hL2 hE
          have hsum8 : Hid (nA = nD + k8 + n8) := by
            unfold Hid
            have h1 := own8.1
            rw [cb_len] at h1
            have h2 := congrArg List.length HJ.out
            rw [List.length_append, ← s8.len, ← O6.src.len] at h2
            have h3 := HSA.out
            omega
          have HAL : Hid (F = (D ++ L) ++ L2) := by unfold Hid; rw [O6.all, ← HJ.out, List.append_assoc]
          have oa8 := own_keep O6.oa (w' := w8) (fun j hj => g68.block j (own_lt O6.oa hj) (fun e => O6.ag (by rw [hj, ← e])))
          have od8 := own_keep O6.od (w' := w8) (fun j hj => g68.block j (own_lt O6.od hj) (fun e => O6.dg (by rw [hj, ← e])))
          have aw8 : 0 < n8 → ∀ a, A8 = some a → (Value.slice Aa nA ca2).ownBlock ≠ some a.block ∧ (Value.slice Ad nD cd).ownBlock ≠ some a.block := fun h0 a e => by
            obtain ⟨h1, a2, e2, e3⟩ := cut8 h0 a e
            rw [← e3]
            exact O6.aw h1 a2 e2
          have hbw8 := below_but hbw6 g68 hbw6.size hgw
          have b8 := b6.grown g68 (fun e => by injection e with e; omega)
          have ag8 := O6.ag
          have dg8 := O6.dg
          have di8 := O6.dis
          have hk8 : k8 ≤ nA := by have := hsum8.out; omega
          have hnD : nD ≤ nA := by have := hsum8.out; omega
          have y8 := Sl.own own8
          have yc8 := own_none own8
          have hgs := g68.size
          clear O6 g68 b6 cut8 e60 e61 hms6 hbw6
          by_cases hE0 : E = 0
          · have hq : ((k8 : Int) != x.1) = false := by simp [hok hE0]
            subst hE0
            clear hok hno
            go_wp2_with (first
              | (at_builtin; refine wpList_append_sl _ rfl _ _ 22 rfl w.heap.size 5 i0 (.int .u8 0) 1 Try.underlying22 hi hz0 hz1 hz2 rfl _ nD _ rfl od8 _ X k8 cx8 (cb L) rfl y8 yc8 (cb_one _) (by unfold maxLen; omega) (by omega) hbw8.size ?_; intro v9 w9 own9 gr9 at9; obtain ⟨A9, c9, rfl⟩ := own_form own9; rw [← cb_append] at own9; have b9 := b8.grown gr9 (fun e => by have h1 := HVD.out _ e; omega); have O9 := onc_drw s8 oa8 od8 ag8 dg8 di8 aw8 own9 gr9 at9 HAL.out hsum8.out; have e90 : w9.cell? ⟨wr.heap.size, 0, none⟩ = some (.int .i64 x.1) := (by rw [b9.cell]; rfl); have hb9 := below_app hbw8 (Nat.le_refl _) od8 gr9; clear own9 gr9 at9 od8 oa8 s8)
              | (go_at_call 11; refine (left_any g L2 _ w9 A8 n8 c8 O9.src).mono ?_; rintro e w10 ⟨rfl, rfl⟩))
            go_roundw
            case rel => exact ⟨k + 1, nA, nD + k8, n8, c8, F, D ++ L, L2, A8, by omega, by go_num, O9, by omega, hb9⟩
            case measure => simp [intOf]; omega
          · have hq1 : (E != 0) = true := by simpa using hE0
            have hq2 : (E == 0) = false := by simpa using hE0
            obtain ⟨hk0, hn8⟩ := hno hE0
            subst hk0; subst hn8
            clear hok hno hE0
            go_wp2_with (first
              | (at_builtin; refine wpList_append_sl _ rfl _ _ 22 rfl w.heap.size 5 i0 (.int .u8 0) 1 Try.underlying22 hi hz0 hz1 hz2 rfl _ nD _ rfl od8 _ X 0 cx8 (cb L) rfl y8 yc8 (cb_one _) (by unfold maxLen; omega) (by omega) hbw8.size ?_; intro v9 w9 own9 gr9 at9; obtain ⟨A9, c9, rfl⟩ := own_form own9; rw [← cb_append] at own9; have b9 := b8.grown gr9 (fun e => by have h1 := HVD.out _ e; omega); have O9 := onc_drw s8 oa8 od8 ag8 dg8 di8 aw8 own9 gr9 at9 HAL.out hsum8.out; have e90 : w9.cell? ⟨wr.heap.size, 0, none⟩ = some (.int .i64 x.1) := (by rw [b9.cell]; rfl); have hb9 := below_app hbw8 (Nat.le_refl _) od8 gr9; clear own9 gr9 at9 od8 oa8 s8)
              | (go_at_call 11; refine (left_any g L2 _ w9 A8 n8 c8 O9.src).mono ?_; rintro e w10 ⟨rfl, rfl⟩))
            go_roundw
            case rel => exact ⟨k + 1, nA, nD + 0, n8, c8, F, D ++ L, L2, A8, by omega, by go_num, O9, by omega, hb9⟩
            case measure => simp [intOf]; omega
      · have hkI : ¬ (k : Int) < (n1 : Int) := by omega
        have hnA : nA = nD + n := OO.sum
        have hle : (nD : Int) ≤ (nA : Int) := by omega
        have HNA := Lib.hid hnA
        clear hnA
        go_wp2_with fail
        obtain ⟨W9, hW9⟩ : ∃ W, W = wr.drew := ⟨_, rfl⟩
        have hbd : Below wr.heap.size wr W9 := by rw [hW9]; exact (Below.refl _ wr).drew
        have O9 := OO.next hbd
        have hb9 := next hb hbd
        have yd := Sl.own O9.od
        have ya := Sl.own O9.oa
        have hcA := own_cap O9.oa
        have zA := own_none O9.oa
        have hDl : D.length = nD := by have := O9.od.1; rw [cb_len] at this; omega
        have hT : F.take nD = D := by rw [O9.all, ← hDl]; simp
        have ya2 := sl_take (h := nD) ya (by omega)
        rw [show (cb F).take nD = cb (F.take nD) by simp [cb], hT] at ya2
        obtain ⟨S, hSd⟩ : ∃ S : World → Prop, S = fun w' => Below W9.heap.size W9 w' := ⟨_, rfl⟩
        have hS : S W9 := by rw [hSd]; exact Below.refl _ _
        have HSI : Hid (∀ w', Below W9.heap.size W9 w' → S w') := by unfold Hid; intro w' h; rw [hSd]; exact h
        have HS1 : Hid (∀ w', S w' → (convert 22 9 (.slice Ad nD cd)).run Try.prog w' = .ok (.string ⟨D.toArray⟩) w') := by unfold Hid; intro w' h; rw [hSd] at h; exact u8_str (yd.nx h) cd
        have HS2 : Hid (∀ w', S w' → (convert 22 9 (.slice Aa nD ca2)).run Try.prog w' = .ok (.string ⟨D.toArray⟩) w') := by unfold Hid; intro w' h; rw [hSd] at h; exact u8_str (ya2.nx h) ca2
        clear hSd OO hb ya ya2 yd hT hDl
        refine wp_region_held_drew (S := S) (by kernel_rfl) (by rw [← hW9]; exact hS) (fun _ => ?_)
        rw [← hW9]
        clear hW9 hbd
        refine wpAnyH_take (i := 0) (v := (.slice Ad nD cd)) rfl (by kernel_rfl) (by kernel_rfl) (by kernel_rfl) (fun _ _ _ h => h) (Or.inl ⟨by rfl, fun _ hSw => by go_simp⟩) hS ?_
        simp only [List.getElem_toArray, List.getElem_cons_succ, List.getElem_cons_zero, Act.put, List.setIfInBounds_toArray, List.set_cons_zero, List.set_cons_succ]
        refine wpAnyH_take (i := 1) (v := (.int .i64 (nD : Int))) rfl (by kernel_rfl) (by kernel_rfl) (by kernel_rfl) (fun _ _ _ h => h) (Or.inl ⟨by rfl, fun _ hSw => by go_simp⟩) hS ?_
        simp only [List.getElem_toArray, List.getElem_cons_succ, List.getElem_cons_zero, Act.put, List.setIfInBounds_toArray, List.set_cons_zero, List.set_cons_succ]
        refine wpAnyH_take (i := 2) (v := (.slice Aa nA ca2)) rfl (by kernel_rfl) (by kernel_rfl) (by kernel_rfl) (fun _ _ _ h => h) (Or.inl ⟨by rfl, fun _ hSw => by go_simp⟩) hS ?_
        simp only [List.getElem_toArray, List.getElem_cons_succ, List.getElem_cons_zero, Act.put, List.setIfInBounds_toArray, List.set_cons_zero, List.set_cons_succ]
        refine wpAnyH_take (i := 3) (v := (.int .i64 (nA : Int))) rfl (by kernel_rfl) (by kernel_rfl) (by kernel_rfl) (fun _ _ _ h => h) (Or.inl ⟨by rfl, fun _ hSw => by go_simp⟩) hS ?_
        simp only [List.getElem_toArray, List.getElem_cons_succ, List.getElem_cons_zero, Act.put, List.setIfInBounds_toArray, List.set_cons_zero, List.set_cons_succ]
        refine wpAnyH_take (i := 4) (v := (.bool true)) rfl (by kernel_rfl) (by kernel_rfl) (by kernel_rfl) (fun _ _ _ h => h) (Or.inl ⟨by rfl, fun _ hSw => by go_simp⟩) hS ?_
        simp only [List.getElem_toArray, List.getElem_cons_succ, List.getElem_cons_zero, Act.put, List.setIfInBounds_toArray, List.set_cons_zero, List.set_cons_succ]
        refine wpAnyH_take (i := 5) (v := (.bool true)) rfl (by kernel_rfl) (by kernel_rfl) (by kernel_rfl) (fun _ _ _ h => h) (Or.inl ⟨by rfl, fun _ hSw => by go_simp⟩) hS ?_
        simp only [List.getElem_toArray, List.getElem_cons_succ, List.getElem_cons_zero, Act.put, List.setIfInBounds_toArray, List.set_cons_zero, List.set_cons_succ]
        refine wpAnyH_take (i := 6) (v := (.slice Ad nD cd)) rfl (by kernel_rfl) (by kernel_rfl) (by kernel_rfl) (fun _ _ _ h => h) (Or.inl ⟨by rfl, fun _ hSw => by go_simp⟩) hS ?_
        simp only [List.getElem_toArray, List.getElem_cons_succ, List.getElem_cons_zero, Act.put, List.setIfInBounds_toArray, List.set_cons_zero, List.set_cons_succ]
        refine wpAnyH_take (i := 7) (v := .string ⟨D.toArray⟩) rfl (by kernel_rfl) (by kernel_rfl) (by kernel_rfl) (fun _ _ _ h => h) (Or.inl ⟨by rfl, fun w' hw' => exec_convert w' _ _ _ rfl _ _ rfl (HS1.out w' hw')⟩) hS ?_
        simp only [List.getElem_toArray, List.getElem_cons_succ, List.getElem_cons_zero, Act.put, List.setIfInBounds_toArray, List.set_cons_zero, List.set_cons_succ]
        refine wpAnyH_take (i := 8) (v := (.slice Aa nA ca2)) rfl (by kernel_rfl) (by kernel_rfl) (by kernel_rfl) (fun _ _ _ h => h) (Or.inl ⟨by rfl, fun _ hSw => by go_simp⟩) hS ?_
        simp only [List.getElem_toArray, List.getElem_cons_succ, List.getElem_cons_zero, Act.put, List.setIfInBounds_toArray, List.set_cons_zero, List.set_cons_succ]
        refine wpAnyH_take (i := 9) (v := (.slice Ad nD cd)) rfl (by kernel_rfl) (by kernel_rfl) (by kernel_rfl) (fun _ _ _ h => h) (Or.inl ⟨by rfl, fun _ hSw => by go_simp⟩) hS ?_
        simp only [List.getElem_toArray, List.getElem_cons_succ, List.getElem_cons_zero, Act.put, List.setIfInBounds_toArray, List.set_cons_zero, List.set_cons_succ]
        refine wpAnyH_take (i := 10) (v := (.int .i64 (nD : Int))) rfl (by kernel_rfl) (by kernel_rfl) (by kernel_rfl) (fun _ _ _ h => h) (Or.inl ⟨by rfl, fun _ hSw => by go_simp⟩) hS ?_
        simp only [List.getElem_toArray, List.getElem_cons_succ, List.getElem_cons_zero, Act.put, List.setIfInBounds_toArray, List.set_cons_zero, List.set_cons_succ]
        refine wpAnyH_take (i := 11) (v := .slice Aa nD ca2) rfl (by kernel_rfl) (by kernel_rfl) (by kernel_rfl) (fun _ _ _ h => h) (Or.inl ⟨by rfl, fun w' _ => exec_slice_to w' 22 5 _ _ rfl Try.underlying22 u8_size Aa nA ca2 nD .i64 _ rfl rfl rfl (by omega) zA⟩) hS ?_
        simp only [List.getElem_toArray, List.getElem_cons_succ, List.getElem_cons_zero, Act.put, List.setIfInBounds_toArray, List.set_cons_zero, List.set_cons_succ]
        refine wpAnyH_take (i := 12) (v := .string ⟨D.toArray⟩) rfl (by kernel_rfl) (by kernel_rfl) (by kernel_rfl) (fun _ _ _ h => h) (Or.inl ⟨by rfl, fun w' hw' => exec_convert w' _ _ _ rfl _ _ rfl (HS2.out w' hw')⟩) hS ?_
        simp only [List.getElem_toArray, List.getElem_cons_succ, List.getElem_cons_zero, Act.put, List.setIfInBounds_toArray, List.set_cons_zero, List.set_cons_succ]
        refine wpAnyH_take (i := 13) (v := (.bool true)) rfl (by kernel_rfl) (by kernel_rfl) (by kernel_rfl) (fun _ _ _ h => h) (Or.inl ⟨by rfl, fun _ hSw => by go_simp⟩) hS ?_
        simp only [List.getElem_toArray, List.getElem_cons_succ, List.getElem_cons_zero, Act.put, List.setIfInBounds_toArray, List.set_cons_zero, List.set_cons_succ]
        refine wpAnyH_take (i := 14) (v := (.bool true)) rfl (by kernel_rfl) (by kernel_rfl) (by kernel_rfl) (fun _ _ _ h => h) (Or.inl ⟨by rfl, fun _ hSw => by go_simp⟩) hS ?_
        simp only [List.getElem_toArray, List.getElem_cons_succ, List.getElem_cons_zero, Act.put, List.setIfInBounds_toArray, List.set_cons_zero, List.set_cons_succ]
        refine wpAnyH_take (i := 15) (v := (.bool true)) rfl (by kernel_rfl) (by kernel_rfl) (by kernel_rfl) (fun _ _ _ h => h) (Or.inl ⟨by rfl, fun _ hSw => by go_simp⟩) hS ?_
        simp only [List.getElem_toArray, List.getElem_cons_succ, List.getElem_cons_zero, Act.put, List.setIfInBounds_toArray, List.set_cons_zero, List.set_cons_succ]
        refine wpAnyH_take (i := 16) (v := (.pointer (some ⟨g, 0, none⟩))) rfl (by kernel_rfl) (by kernel_rfl) (by kernel_rfl) (fun _ _ _ h => h) (Or.inl ⟨by rfl, fun _ hSw => by go_simp⟩) hS ?_
        simp only [List.getElem_toArray, List.getElem_cons_succ, List.getElem_cons_zero, Act.put, List.setIfInBounds_toArray, List.set_cons_zero, List.set_cons_succ]
        refine wpAnyH_take (i := 18) (v := (.slice Aa nA ca2)) rfl (by kernel_rfl) (by kernel_rfl) (by kernel_rfl) (fun _ _ _ h => h) (Or.inl ⟨by rfl, fun _ hSw => by go_simp⟩) hS ?_
        simp only [List.getElem_toArray, List.getElem_cons_succ, List.getElem_cons_zero, Act.put, List.setIfInBounds_toArray, List.set_cons_zero, List.set_cons_succ]
        refine wpAnyH_take (i := 19) (v := (.int .i64 (nA : Int))) rfl (by kernel_rfl) (by kernel_rfl) (by kernel_rfl) (fun _ _ _ h => h) (Or.inl ⟨by rfl, fun _ hSw => by go_simp⟩) hS ?_
        simp only [List.getElem_toArray, List.getElem_cons_succ, List.getElem_cons_zero, Act.put, List.setIfInBounds_toArray, List.set_cons_zero, List.set_cons_succ]
        refine wpAnyH_take (i := 20) (v := (.slice Ad nD cd)) rfl (by kernel_rfl) (by kernel_rfl) (by kernel_rfl) (fun _ _ _ h => h) (Or.inl ⟨by rfl, fun _ hSw => by go_simp⟩) hS ?_
        simp only [List.getElem_toArray, List.getElem_cons_succ, List.getElem_cons_zero, Act.put, List.setIfInBounds_toArray, List.set_cons_zero, List.set_cons_succ]
        refine wpAnyH_take (i := 21) (v := (.int .i64 (nD : Int))) rfl (by kernel_rfl) (by kernel_rfl) (by kernel_rfl) (fun _ _ _ h => h) (Or.inl ⟨by rfl, fun _ hSw => by go_simp⟩) hS ?_
        simp only [List.getElem_toArray, List.getElem_cons_succ, List.getElem_cons_zero, Act.put, List.setIfInBounds_toArray, List.set_cons_zero, List.set_cons_succ]
        refine wpAnyH_take (i := 22) (v := (.int .i64 (n : Int))) rfl (by kernel_rfl) (by kernel_rfl) (by kernel_rfl) (fun _ _ _ h => h) (Or.inl ⟨by rfl, fun _ hSw => by go_simp; rw [IntKind.wrap_i64]; have := HNA.out; omega⟩) hS ?_
        simp only [List.getElem_toArray, List.getElem_cons_succ, List.getElem_cons_zero, Act.put, List.setIfInBounds_toArray, List.set_cons_zero, List.set_cons_succ]
        refine wpAnyH_ready (rs := [17]) (by kernel_rfl) (by simp) (AllReadyH.cons rfl (fun K hK => ?_) AllReadyH.nil)
        simp only [List.getElem_toArray, List.getElem_cons_succ, List.getElem_cons_zero, Act.put, List.setIfInBounds_toArray, List.set_cons_zero, List.set_cons_succ]
        go_simp
        refine (left_any g l nD W9 A n c O9.src).mono ?_
        rintro e w10 ⟨rfl, rfl⟩
        refine hK.out _ _ hS (fun _ => ?_)
        clear hK K
        refine wpAnyH_take (i := 23) (v := (.bool true)) rfl (by kernel_rfl) (by kernel_rfl) (by kernel_rfl) (fun _ _ _ h => h) (Or.inl ⟨by rfl, fun _ hSw => by go_simp⟩) hS ?_
        simp only [List.getElem_toArray, List.getElem_cons_succ, List.getElem_cons_zero, Act.put, List.setIfInBounds_toArray, List.set_cons_zero, List.set_cons_succ]
        refine wpAnyH_take (i := 24) (v := (.bool true)) rfl (by kernel_rfl) (by kernel_rfl) (by kernel_rfl) (fun _ _ _ h => h) (Or.inl ⟨by rfl, fun _ hSw => by go_simp⟩) hS ?_
        simp only [List.getElem_toArray, List.getElem_cons_succ, List.getElem_cons_zero, Act.put, List.setIfInBounds_toArray, List.set_cons_zero, List.set_cons_succ]
        refine wpAnyH_take (i := 25) (v := (.bool true)) rfl (by kernel_rfl) (by kernel_rfl) (by kernel_rfl) (fun _ _ _ h => h) (Or.inl ⟨by rfl, fun _ hSw => by go_simp⟩) hS ?_
        simp only [List.getElem_toArray, List.getElem_cons_succ, List.getElem_cons_zero, Act.put, List.setIfInBounds_toArray, List.set_cons_zero, List.set_cons_succ]
        refine wpAnyH_take (i := 26) (v := (.pointer (some ⟨g, 0, none⟩))) rfl (by kernel_rfl) (by kernel_rfl) (by kernel_rfl) (fun _ _ _ h => h) (Or.inl ⟨by rfl, fun _ hSw => by go_simp⟩) hS ?_
        simp only [List.getElem_toArray, List.getElem_cons_succ, List.getElem_cons_zero, Act.put, List.setIfInBounds_toArray, List.set_cons_zero, List.set_cons_succ]
        refine wpAnyH_take (i := 28) (v := (.slice Ad nD cd)) rfl (by kernel_rfl) (by kernel_rfl) (by kernel_rfl) (fun _ _ _ h => h) (Or.inl ⟨by rfl, fun _ hSw => by go_simp⟩) hS ?_
        simp only [List.getElem_toArray, List.getElem_cons_succ, List.getElem_cons_zero, Act.put, List.setIfInBounds_toArray, List.set_cons_zero, List.set_cons_succ]
        refine wpAnyH_take (i := 29) (v := (.int .i64 (nD : Int))) rfl (by kernel_rfl) (by kernel_rfl) (by kernel_rfl) (fun _ _ _ h => h) (Or.inl ⟨by rfl, fun _ hSw => by go_simp⟩) hS ?_
        simp only [List.getElem_toArray, List.getElem_cons_succ, List.getElem_cons_zero, Act.put, List.setIfInBounds_toArray, List.set_cons_zero, List.set_cons_succ]
        refine wpAnyH_ready (rs := [27]) (by kernel_rfl) (by simp) (AllReadyH.cons rfl (fun K hK => ?_) AllReadyH.nil)
        simp only [List.getElem_toArray, List.getElem_cons_succ, List.getElem_cons_zero, Act.put, List.setIfInBounds_toArray, List.set_cons_zero, List.set_cons_succ]
        go_simp
        refine (drawn_any g l nD W9 A n c O9.src).mono ?_
        rintro e w10 ⟨rfl, rfl⟩
        refine hK.out _ _ hS (fun _ => ?_)
        clear hK K
        refine wpAnyH_take (i := 30) (v := (.bool true)) rfl (by kernel_rfl) (by kernel_rfl) (by kernel_rfl) (fun _ _ _ h => h) (Or.inl ⟨by rfl, fun _ hSw => by go_simp⟩) hS ?_
        simp only [List.getElem_toArray, List.getElem_cons_succ, List.getElem_cons_zero, Act.put, List.setIfInBounds_toArray, List.set_cons_zero, List.set_cons_succ]
        refine wpAnyH_take (i := 31) (v := (.bool true)) rfl (by kernel_rfl) (by kernel_rfl) (by kernel_rfl) (fun _ _ _ h => h) (Or.inl ⟨by rfl, fun _ hSw => by go_simp⟩) hS ?_
        simp only [List.getElem_toArray, List.getElem_cons_succ, List.getElem_cons_zero, Act.put, List.setIfInBounds_toArray, List.set_cons_zero, List.set_cons_succ]
        refine wpAnyH_take (i := 32) (v := (.bool true)) rfl (by kernel_rfl) (by kernel_rfl) (by kernel_rfl) (fun _ _ _ h => h) (Or.inl ⟨by rfl, fun _ hSw => by go_simp⟩) hS ?_
        simp only [List.getElem_toArray, List.getElem_cons_succ, List.getElem_cons_zero, Act.put, List.setIfInBounds_toArray, List.set_cons_zero, List.set_cons_succ]
        refine wpAnyH_ready (rs := [33]) (by kernel_rfl) (by simp) (AllReadyH.cons rfl (fun K hK => ?_) AllReadyH.nil)
        simp only [List.getElem_toArray, List.getElem_cons_succ, List.getElem_cons_zero, Act.put, List.setIfInBounds_toArray, List.set_cons_zero, List.set_cons_succ]
        go_simp
        refine (awake8_any W9).mono ?_
        rintro e w10 ⟨rfl, hb10⟩
        replace hS := HSI.out _ hb10
        refine hK.out _ _ hS (fun _ => ?_)
        clear hK K
        refine wpAnyH_take (i := 34) (v := (.bool true)) rfl (by kernel_rfl) (by kernel_rfl) (by kernel_rfl) (fun _ _ _ h => h) (Or.inl ⟨by rfl, fun _ hSw => by go_simp⟩) hS ?_
        simp only [List.getElem_toArray, List.getElem_cons_succ, List.getElem_cons_zero, Act.put, List.setIfInBounds_toArray, List.set_cons_zero, List.set_cons_succ]
        refine wpAnyH_take (i := 35) (v := (.bool true)) rfl (by kernel_rfl) (by kernel_rfl) (by kernel_rfl) (fun _ _ _ h => h) (Or.inl ⟨by rfl, fun _ hSw => by go_simp⟩) hS ?_
        simp only [List.getElem_toArray, List.getElem_cons_succ, List.getElem_cons_zero, Act.put, List.setIfInBounds_toArray, List.set_cons_zero, List.set_cons_succ]
        refine wpAnyH_done (by kernel_rfl) ?_ _
        go_wp2
        go_ret
        exact ⟨rfl, next hb9 hb10⟩

end Go.Proofs.Ytmemgiekkedeoaa
