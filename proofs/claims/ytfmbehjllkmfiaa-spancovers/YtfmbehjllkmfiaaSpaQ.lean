/- Package span: Whole. -/
import Derived.Test.YtfmbehjllkmfiaaSpaP
namespace Go.Proofs.Ytfmbehjllkmfiaa
set_option maxRecDepth 100000
open Go Go.RowKit
set_option linter.unusedVariables false
set_option linter.unusedSimpArgs false

/-- What Whole tells. -/
def whoV (L : List (Nat × Nat)) : Value := match wholeS L with
  | none => .complex .f64 0 0
  | some x => cxv x
def whoE (L : List (Nat × Nat)) : Int := match wholeS L with
  | none => 1
  | some _ => 0
def whoRV (a : Nat) (r : Option Nat) : Value := match r with
  | none => .complex .f64 0 0
  | some e => cxv (a, e - a)
def whoRE (r : Option Nat) : Int := match r with
  | none => 1
  | some _ => 0
theorem whoV_of {L : List (Nat × Nat)} {a : Nat} {r : Option Nat} (h : wholeS L = r.map fun e => (a, e - a)) : whoV L = whoRV a r ∧ whoE L = whoRE r := by
  unfold whoV whoE
  rw [h]
  cases r <;> exact ⟨rfl, rfl⟩
theorem wholeS_ok {L : List (Nat × Nat)} {x : Nat × Nat} (hok : ∀ x ∈ L, SpOk x) (h : wholeS L = some x) : SpOk x := by
  cases L with
  | nil => cases h
  | cons y r =>
    have h1 : (wholeAt y.1 (y :: r)).map (fun e => (y.1, e - y.1)) = some x := h
    cases h2 : wholeAt y.1 (y :: r) with
    | none => rw [h2] at h1; cases h1
    | some e =>
      rw [h2] at h1
      injection h1 with h1
      subst h1
      have h3 := (hok y (by simp)).1
      have h4 := wholeAt_le _ _ _ h3 h2
      exact ⟨h3, by show e - y.1 ≤ _; omega⟩

set_option maxRecDepth 100000 in
set_option maxHeartbeats 2000000 in
theorem swho_any (L : List (Nat × Nat)) (w : World) (A : Option Addr) (n c : Nat) (h : Cxs w A n c L) (hn : n ≤ 1000000) (hok : ∀ x ∈ L, SpOk x) :
    Calls Try.prog 14 #[.slice A n c] w fun e w' => e = .returned (.tuple #[whoV L, .int .i64 (whoE L)]) ∧ w = w' := by
  have hnl : n = L.length := h.len
  obtain ⟨V, hV⟩ : ∃ V, V = whoV L := ⟨_, rfl⟩
  obtain ⟨E, hE⟩ : ∃ E, E = whoE L := ⟨_, rfl⟩
  rw [← hV, ← hE]
  rcases Nat.eq_zero_or_pos n with h0 | h0
  · subst h0
    have hL : L = [] := List.eq_nil_of_length_eq_zero hnl.symm
    have HV : Hid (V = .complex .f64 0 0) := by unfold Hid; rw [hV, hL]; rfl
    have HE : Hid (E = 1) := by unfold Hid; rw [hE, hL]; rfl
    clear hV hE hnl h
    go_enter Try.func14, Try.ntmps14
    go_wp2
    go_ret2
    exact ⟨by rw [HV.out, HE.out]; rfl, rfl⟩
  · obtain ⟨ad, rfl, hab, hac⟩ := h.sl.2 h0
    obtain ⟨x0, hx0⟩ : ∃ x, x = L[0] := ⟨_, rfl⟩
    have c0 : w.cell? ad = some (cxv x0) := by rw [hx0, ← Addr.add_zero' ad]; exact hac 0 _ (cxs_at (by omega))
    have o0 : SpOk x0 := by rw [hx0]; exact hok _ (List.getElem_mem _)
    have hLe : L = x0 :: L.drop 1 := by rw [hx0]; exact (List.drop_eq_getElem_cons (i := 0) (by omega))
    obtain ⟨r, hr⟩ : ∃ r, r = wholeAt x0.1 L := ⟨_, rfl⟩
    have hW : wholeS L = r.map fun e => (x0.1, e - x0.1) := by rw [hr, hLe]; rfl
    have HV : Hid (V = whoRV x0.1 r) := by unfold Hid; rw [hV]; exact (whoV_of hW).1
    have HE : Hid (E = whoRE r) := by unfold Hid; rw [hE]; exact (whoV_of hW).2
    have HR := Lib.hid hr
    have HC := Lib.hid hac
    have HOK := Lib.hid hok
    have HNL := Lib.hid hnl
    have P0 := Lib.hid (sparts_eq x0 w o0)
    have x01 := o0.1
    have k1 : (0 : Int) < (n : Int) := by omega
    have q0 : ¬ (n : Int) = 0 := by omega
    clear hV hE hr hac hok hnl h hW hLe hx0 o0
    go_enter Try.func14, Try.ntmps14
    go_wp2_with fail
    refine P0.out.mono ?_
    rintro e w1 ⟨rfl, rfl⟩
    go_wp2
    go_loopw [7, 27] (fun b i wr => ∃ k at_ : Nat, k ≤ n ∧ i = .int .i64 (k : Int) ∧ b = .int .i64 (at_ : Int) ∧ at_ ≤ 1099511627776 ∧ x0.1 ≤ at_ ∧ r = wholeAt at_ (L.drop k) ∧ w = wr) (fun _ i _ => n - (intOf i).toNat)
    case atStart => exact ⟨0, x0.1, Nat.zero_le _, rfl, rfl, x01, Nat.le_refl _, by rw [List.drop_zero]; exact HR.out, rfl⟩
    case round =>
      obtain ⟨k, at_, hk, rfl, rfl, ha, hxa, hrr, rfl⟩ := hrel
      by_cases hlt : k < n
      · have hkl : k < L.length := by have := HNL.out; omega
        obtain ⟨x, hx⟩ : ∃ x, x = L[k] := ⟨_, rfl⟩
        have hcx : w.cell? (ad.add k) = some (cxv x) := by rw [hx]; exact HC.out k _ (cxs_at hkl)
        have hox : SpOk x := by rw [hx]; exact HOK.out _ (List.getElem_mem _)
        have hdrop : L.drop k = x :: L.drop (k + 1) := by rw [List.drop_eq_getElem_cons hkl, hx]
        rw [hdrop] at hrr
        have k0 : (0 : Int) ≤ (k : Int) := by omega
        have k1 : (k : Int) < (n : Int) := by omega
        have PX := Lib.hid (sparts_eq x w hox)
        obtain ⟨ox1, ox2⟩ := hox
        clear hx hdrop hkl c0
        by_cases p1 : x.1 = at_
        · obtain ⟨z, hz⟩ : ∃ z, at_ + x.2 = z := ⟨_, rfl⟩
          have e1 : (at_ : Int) + (x.2 : Int) = (z : Int) := by omega
          by_cases p2 : z ≤ 1099511627776
          · have HN : Hid (r = wholeAt z (L.drop (k + 1))) := by unfold Hid; rw [hrr, wholeAt, if_pos ⟨p1, by omega⟩, hz]
            have I2 : Hid (spIn (z : Int) = true) := spIn_iff.2 ⟨by omega, by omega⟩
            have hza : x0.1 ≤ z := by omega
            have HP := Lib.hid hrr
            rw [p1] at PX
            clear hrr hz p1 P0
            go_wp2_with fail
            refine PX.out.mono ?_
            rintro e w2 ⟨rfl, rfl⟩
            go_wp2_with fail
            refine (sin_any z w).mono ?_
            rw [I2.out]
            rintro e w2 ⟨rfl, rfl⟩
            go_wp2
            go_roundw
            case rel => exact ⟨k + 1, z, by omega, by go_num, rfl, p2, hza, HN.out, trivial⟩
            case measure => simp [intOf]; omega
          · have HN : Hid (r = none) := by unfold Hid; rw [hrr, wholeAt, if_neg (by rintro ⟨_, h⟩; omega)]
            have I2 : Hid (spIn (z : Int) = false) := by
              unfold Hid
              cases h : spIn (z : Int) with
              | false => rfl
              | true => have := (spIn_iff.1 h).2; omega
            rw [p1] at PX
            clear hrr hz p1 P0
            go_wp2_with fail
            refine PX.out.mono ?_
            rintro e w2 ⟨rfl, rfl⟩
            go_wp2_with fail
            refine (sin_any z w).mono ?_
            rw [I2.out]
            rintro e w2 ⟨rfl, rfl⟩
            go_wp2
            go_ret2
            exact ⟨by rw [HV.out, HE.out, HN.out]; rfl, rfl⟩
        · have HN : Hid (r = none) := by unfold Hid; rw [hrr, wholeAt, if_neg (by rintro ⟨h, _⟩; exact p1 h)]
          have p1' : ¬ (x.1 : Int) = (at_ : Int) := by omega
          clear hrr p1 P0
          go_wp2_with fail
          refine PX.out.mono ?_
          rintro e w2 ⟨rfl, rfl⟩
          go_wp2
          go_ret2
          exact ⟨by rw [HV.out, HE.out, HN.out]; rfl, rfl⟩
      · have hkn : k = n := by omega
        have HN : Hid (r = some at_) := by
          unfold Hid
          rw [hrr, hkn, List.drop_of_length_le (by rw [← HNL.out]; exact Nat.le_refl _), wholeAt]
        have q1 : ¬ (k : Int) < (n : Int) := by omega
        obtain ⟨d, hd⟩ : ∃ d, at_ - x0.1 = d := ⟨_, rfl⟩
        have e1 : (at_ : Int) - (x0.1 : Int) = (d : Int) := by omega
        have hd2 : d ≤ 1099511627776 := by omega
        have OF := Lib.hid (sof_ok x0.1 d w x01 hd2)
        have HD := Lib.hid hd
        clear hrr hkn hd c0 P0
        go_wp2_with fail
        refine OF.out.mono ?_
        rintro e w2 ⟨rfl, rfl⟩
        go_wp2
        all_goals try go_ret2
        all_goals exact ⟨by rw [HV.out, HE.out, HN.out]; unfold whoRV whoRE; simp only [HD.out]; rfl, rfl⟩

end Go.Proofs.Ytfmbehjllkmfiaa
