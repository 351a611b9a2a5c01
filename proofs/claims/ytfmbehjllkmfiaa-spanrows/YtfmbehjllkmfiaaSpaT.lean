/- Package span: Pick. -/
import Derived.Test.YtfmbehjllkmfiaaSpaS
namespace Go.Proofs.Ytfmbehjllkmfiaa
set_option maxRecDepth 100000
open Go Go.RowKit
set_option linter.unusedVariables false
set_option linter.unusedSimpArgs false

theorem meet_none {x : Nat × Nat} {b n : Nat} (h : meetA x (b, n) = none) : meetN x b (b + n) = none := by
  unfold meetA at h
  split at h
  · rename_i h1
    unfold meetN
    rw [if_pos h1]
  · cases h
theorem meet_some {x z : Nat × Nat} {b n : Nat} (hx : SpOk x) (h : meetA x (b, n) = some z) : meetN x b (b + n) = some (z.1 - x.1, z.2) ∧ x.1 ≤ z.1 ∧ meetV x (b, n) = cxv z := by
  have hv : meetV x (b, n) = cxv z := by unfold meetV; rw [h]
  unfold meetA at h
  split at h
  · cases h
  · rename_i h1
    injection h with h
    subst h
    unfold meetN
    rw [if_neg h1]
    exact ⟨rfl, Nat.le_max_left _ _, hv⟩
theorem meet_ok {x z y : Nat × Nat} (hx : SpOk x) (hy : SpOk y) (h : meetA x y = some z) : SpOk z := by
  obtain ⟨x1, x2⟩ := hx
  obtain ⟨y1, y2⟩ := hy
  unfold meetA at h
  split at h
  · cases h
  · injection h with h
    subst h
    exact ⟨by show max x.1 y.1 ≤ _; omega, by show min (x.1 + x.2) (y.1 + y.2) - max x.1 y.1 ≤ _; omega⟩

set_option maxRecDepth 100000 in
set_option maxHeartbeats 4000000 in
theorem spick_any (L : List (Nat × Nat)) (s : Nat × Nat) (w : World) (A : Option Addr) (n c : Nat) (h : Cxs w A n c L) (hn : n ≤ 1000000) (hok : ∀ x ∈ L, SpOk x) (hs : SpOk s) :
    Calls Try.prog 10 #[.slice A n c, cxv s] w (PickPost w (pickL L s.1 s.2) (pickE L s.1 s.2)) := by
  have hmf : ∀ (fn : Fn) (first cap : Array Value) (w : World), (Instr.makeFunc fn first cap).run Try.prog w = .ok (.func fn first cap) w := fun _ _ _ _ => rfl
  have hnl : n = L.length := h.len
  obtain ⟨b, q⟩ := s
  obtain ⟨Z, hZ⟩ : ∃ Z, Z = pickL L b q := ⟨_, rfl⟩
  obtain ⟨E, hE⟩ : ∃ E, E = pickE L b q := ⟨_, rfl⟩
  show Calls Try.prog 10 #[.slice A n c, cxv (b, q)] w (PickPost w (pickL L b q) (pickE L b q))
  rw [← hZ, ← hE]
  have b1 : Bl (w.alloc (.cells #[.slice A n c] 24)) w.heap.size [.slice A n c] 24 := Bl.new w [.slice A n c] 24
  have hb1 : Below w.heap.size w (w.alloc (.cells #[.slice A n c] 24)) := (Below.refl _ w).alloc (Nat.le_refl _) _
  have hs1 : (w.alloc (.cells #[.slice A n c] 24)).heap.size = w.heap.size + 1 := alloc_size _ _
  have L1 := h.nx hb1
  obtain ⟨W1, hW1⟩ : ∃ W, W = w.alloc (.cells #[.slice A n c] 24) := ⟨_, rfl⟩
  rw [← hW1] at b1 hb1 hs1 L1
  have HW1 := Lib.hid hW1.symm
  have c1 : W1.cell? ⟨w.heap.size, 0, none⟩ = some (.slice A n c) := b1.cell 0
  have PW := Lib.hid (swho_any L W1 A n c L1 hn hok)
  have PR := Lib.hid (sright_any (b, q) W1 hs)
  have HOK := Lib.hid hok
  have HS := Lib.hid hs
  have HNL := Lib.hid hnl
  have H0 := Lib.hid h
  clear hW1 h hok hnl
  cases hw : wholeS L with
  | none =>
    have hV : Hid (whoV L = .complex .f64 0 0) := by unfold Hid whoV; rw [hw]
    have hE1 : Hid (whoE L = 1) := by unfold Hid whoE; rw [hw]
    have HE : Hid (E = 1) := by unfold Hid; rw [hE]; unfold pickE; rw [hw]
    have HZ : Hid (Z = []) := by unfold Hid; rw [hZ]; unfold pickL; rw [if_neg (by unfold pickE; rw [hw]; exact (by decide : ¬ (1 : Int) = 0))]
    rw [hV.out, hE1.out] at PW
    clear hw hZ hE hs
    go_enter Try.func10, Try.ntmps10
    go_wp2_with fail
    rw [HW1.out]
    refine PW.out.mono ?_
    rintro e w2 ⟨rfl, rfl⟩
    go_wp2
    go_ret2
    exact ⟨none, 0, by rw [HE.out, HZ.out]; rfl, by rw [HZ.out]; exact Sl.nil_, hb1⟩
  | some y =>
    have hoy := wholeS_ok HOK.out hw
    have hV : Hid (whoV L = cxv y) := by unfold Hid whoV; rw [hw]
    have hE1 : Hid (whoE L = 0) := by unfold Hid whoE; rw [hw]
    have hEy : E = if b < y.1 ∨ y.1 + y.2 < b + q then 6 else 0 := by rw [hE]; unfold pickE; rw [hw]
    have hZy : Z = if E = 0 then pickP b (b + q) 0 L else [] := by rw [hZ, hE]; rfl
    have PI := Lib.hid (sinside_any (b, q) y W1 hs hoy)
    rw [hV.out, hE1.out] at PW
    by_cases hin : b < y.1 ∨ y.1 + y.2 < b + q
    · have HE : Hid (E = 6) := by unfold Hid; rw [hEy, if_pos hin]
      have HZ : Hid (Z = []) := by unfold Hid; rw [hZy, if_neg (by rw [HE.out]; decide)]
      have hI : (decide (y.1 ≤ (b, q).1) && decide ((b, q).1 + (b, q).2 ≤ y.1 + y.2)) = false := by
        show (decide (y.1 ≤ b) && decide (b + q ≤ y.1 + y.2)) = false
        rcases hin with h | h
        · have : ¬ y.1 ≤ b := by omega
          simp [this]
        · have : ¬ b + q ≤ y.1 + y.2 := by omega
          simp [this]
      rw [hI] at PI
      clear hw hZ hE hs hEy hZy hin hI
      go_enter Try.func10, Try.ntmps10
      go_wp2_with fail
      rw [HW1.out]
      refine PW.out.mono ?_
      rintro e w2 ⟨rfl, rfl⟩
      go_wp2_with fail
      refine PR.out.mono ?_
      rintro e w2 ⟨rfl, rfl⟩
      go_wp2_with fail
      refine PI.out.mono ?_
      rintro e w2 ⟨rfl, rfl⟩
      go_wp2
      go_ret2
      exact ⟨none, 0, by rw [HE.out, HZ.out]; rfl, by rw [HZ.out]; exact Sl.nil_, hb1⟩
    · have HE : Hid (E = 0) := by unfold Hid; rw [hEy, if_neg hin]
      have HZ : Hid (Z = pickP b (b + q) 0 L) := by unfold Hid; rw [hZy, if_pos HE.out]
      have hI : (decide (y.1 ≤ (b, q).1) && decide ((b, q).1 + (b, q).2 ≤ y.1 + y.2)) = true := by
        show (decide (y.1 ≤ b) && decide (b + q ≤ y.1 + y.2)) = true
        have h1 : y.1 ≤ b := by omega
        have h2 : b + q ≤ y.1 + y.2 := by omega
        simp [h1, h2]
      rw [hI] at PI
      have bp2 : Bl ((W1.alloc (.cells #[] 42)).alloc (.cells #[.slice (some ⟨w.heap.size + 1, 0, none⟩) 0 0] 38)) (w.heap.size + 1 + 1) [.slice (some ⟨w.heap.size + 1, 0, none⟩) 0 0] 38 := by
        have h1 := Bl.new (W1.alloc (.cells #[] 42)) [.slice (some ⟨w.heap.size + 1, 0, none⟩) 0 0] 38
        rw [alloc_size, hs1] at h1
        exact h1
      have hb2 : Below W1.heap.size W1 ((W1.alloc (.cells #[] 42)).alloc (.cells #[.slice (some ⟨w.heap.size + 1, 0, none⟩) 0 0] 38)) := ((Below.refl _ W1).alloc (Nat.le_refl _) _).alloc (by rw [alloc_size]; omega) _
      have own2 : ((W1.alloc (.cells #[] 42)).alloc (.cells #[.slice (some ⟨w.heap.size + 1, 0, none⟩) 0 0] 38)).ownsRow (w.heap.size + 1) 42 2 (.slice (some ⟨w.heap.size + 1, 0, none⟩) 0 0) 0 [] := by
        have h1 := World.ownsRow_lit (base := w.heap.size + 1) (e := 42) (size := 2) W1 #[] 0 (by omega) (by decide) rfl
        rw [hs1] at h1
        exact h1.alloc _
      have hI0 : PkI ((W1.alloc (.cells #[] 42)).alloc (.cells #[.slice (some ⟨w.heap.size + 1, 0, none⟩) 0 0] 38)) w.heap.size (w.heap.size + 1 + 1) A n c (.slice (some ⟨w.heap.size + 1, 0, none⟩) 0 0) 0 [] :=
        ⟨b1.next hb2, bp2, own2, fun j hj => by injection hj with hj; subst hj; show w.heap.size + 1 ≠ _; omega, by omega⟩
      have L2 := L1.nx hb2
      have hbw2 := next hb1 hb2
      have HI0 := Lib.hid hI0
      have HBW2 := Lib.hid hbw2
      clear hw hZ hE hs hEy hZy hin hI
      go_enter Try.func10, Try.ntmps10
      go_wp2_with fail
      rw [HW1.out]
      refine PW.out.mono ?_
      rintro e w2 ⟨rfl, rfl⟩
      go_wp2_with fail
      refine PR.out.mono ?_
      rintro e w2 ⟨rfl, rfl⟩
      go_wp2_with fail
      refine PI.out.mono ?_
      rintro e w2 ⟨rfl, rfl⟩
      clear bp2 own2 hI0 hbw2 hb2
      go_wp2
      go_loopw [34] (fun i wr => ∃ (k : Nat) (v : Value) (z : List (Nat × Nat × Nat)), k ≤ n ∧ i = .int .i64 (k : Int) ∧ PkI wr w.heap.size (w.heap.size + 1 + 1) A n c v z.length (ptC z) ∧ Z = z ++ pickP b (b + q) k (L.drop k) ∧ z.length ≤ k ∧ Below w.heap.size w wr ∧ Cxs wr A n c L) (fun i _ => n - (intOf i).toNat)
      case atStart => exact ⟨0, _, [], Nat.zero_le _, rfl, HI0.out, by rw [List.drop_zero, HZ.out]; rfl, Nat.le_refl _, HBW2.out, L2⟩
      case round =>
        obtain ⟨k, v, z, hk, rfl, hI, hZz, hzl, hb, hL⟩ := hrel
        by_cases hlt : k < n
        · have hkl : k < L.length := by have := HNL.out; omega
          obtain ⟨ad, rfl, hab, hac⟩ := hL.sl.2 (by omega)
          obtain ⟨x, hx⟩ : ∃ x, x = L[k] := ⟨_, rfl⟩
          have hcx : wr.cell? (ad.add k) = some (cxv x) := by rw [hx]; exact hac k _ (cxs_at hkl)
          have hox : SpOk x := by rw [hx]; exact HOK.out _ (List.getElem_mem _)
          have hdrop : L.drop k = x :: L.drop (k + 1) := by rw [List.drop_eq_getElem_cons hkl, hx]
          rw [hdrop, pickP] at hZz
          have k0 : (0 : Int) ≤ (k : Int) := by omega
          have k1 : (k : Int) < (n : Int) := by omega
          have PM := Lib.hid (smeet_any x (b, q) wr hox HS.out)
          cases hm : meetA x (b, q) with
          | none =>
            have hv : (meetA x (b, q)).isSome = false := by rw [hm]; rfl
            rw [hv] at PM
            rw [meet_none hm] at hZz
            have HZZ := Lib.hid hZz
            have HI := Lib.hid hI
            have HL := Lib.hid hL
            have HB := Lib.hid hb
            clear hZz hI hL hb hm hv hdrop hx hac hox L1 L2
            go_wp2_with fail
            refine PM.out.mono ?_
            rintro e w2 ⟨rfl, rfl⟩
            go_wp2
            go_roundw
            case rel => exact ⟨k + 1, v, z, by omega, by go_num, HI.out, HZZ.out, by omega, HB.out, HL.out⟩
            case measure => simp [intOf]; omega
          | some y2 =>
            obtain ⟨hmn, hle, hmv⟩ := meet_some hox hm
            have hv : (meetA x (b, q)).isSome = true := by rw [hm]; rfl
            rw [hv, hmv] at PM
            rw [hmn] at hZz
            have PA := Lib.hid (spkadd_any L k x y2 wr w.heap.size (w.heap.size + 1 + 1) (some ad) n c v z.length (ptC z) hI hL hkl hx hn (by omega) hox (meet_ok hox HS.out hm) hle)
            have HZZ : Hid (Z = (z ++ [(k, y2.1 - x.1, y2.2)]) ++ pickP b (b + q) (k + 1) (L.drop (k + 1))) := by unfold Hid; rw [hZz]; simp
            have hbs := hb.size
            have hgb := hI.bp.lt
            have HL := Lib.hid hL
            have HB := Lib.hid hb
            clear hZz hI hL hb hm hv hdrop hx hac hox L1 L2 hmn hle hmv
            go_wp2_with fail
            refine PM.out.mono ?_
            rintro e w2 ⟨rfl, rfl⟩
            go_wp2_with fail
            refine PA.out.mono ?_
            rintro e w2 ⟨rfl, ⟨v', hI'⟩, hb'⟩
            have hI2 : PkI w2 w.heap.size (w.heap.size + 1 + 1) (some ad) n c v' (z ++ [(k, y2.1 - x.1, y2.2)]).length (ptC (z ++ [(k, y2.1 - x.1, y2.2)])) := by
              rw [ptC_append, List.length_append]
              exact hI'
            have HI2 := Lib.hid hI2
            have HB2 : Hid (Below w.heap.size w w2) := HB.out.trans (hb'.mono (by omega))
            have HL2 : Hid (Cxs w2 (some ad) n c L) := H0.out.nx HB2.out
            clear hI' hI2 hb'
            go_wp2
            go_roundw
            case rel => exact ⟨k + 1, v', _, by omega, by go_num, HI2.out, HZZ.out, by simp; omega, HB2.out, HL2.out⟩
            case measure => simp [intOf]; omega
        · have hkn : k = n := by omega
          have HZZ : Hid (Z = z) := by
            unfold Hid
            rw [hZz, hkn, List.drop_of_length_le (by rw [← HNL.out]; exact Nat.le_refl _), pickP, List.append_nil]
          have q1 : ¬ (k : Int) < (n : Int) := by omega
          have cp : wr.cell? ⟨w.heap.size + 1 + 1, 0, none⟩ = some v := hI.bp.cell 0
          obtain ⟨A2, c2, rfl⟩ := ownK_form hI.own
          have hso := slK_own hI.own
          have HB := Lib.hid hb
          clear hZz hI hb hkn hL
          go_wp2
          go_ret2
          exact ⟨A2, c2, by rw [HE.out, HZZ.out]; rfl, by rw [HZZ.out]; exact hso.1, HB.out⟩

end Go.Proofs.Ytfmbehjllkmfiaa
