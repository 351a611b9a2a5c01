/- The walk of the law Gf2Common. -/
import Derived.Test.YtfgpaffdaeiloaaGfU
namespace Go.Proofs.Ytfgpaffdaeiloaa
set_option maxRecDepth 100000
open Go Go.RowKit
set_option linter.unusedVariables false
set_option linter.unusedSimpArgs false

set_option maxHeartbeats 2000000 in
theorem gf2Common_walk (a0 a1 a2 : Int) (w : World) (w0 : (Lit.int .u64 a0).wf = true) (w1 : (Lit.int .u64 a1).wf = true) (w2 : (Lit.int .u64 a2).wf = true) :
    Calls Try.prog 6 #[.int .u64 a0, .int .u64 a1, .int .u64 a2] w fun e w' => e = .returned (.bool true) ∧ Below w.heap.size w w' := by
  obtain ⟨b0, b1⟩ := bounds_u64 w0
  obtain ⟨b2, b3⟩ := bounds_u64 w1
  obtain ⟨b4, b5⟩ := bounds_u64 w2
  clear w0 w1 w2
  obtain ⟨a, rfl⟩ := Int.eq_ofNat_of_zero_le b0
  obtain ⟨b, rfl⟩ := Int.eq_ofNat_of_zero_le b2
  obtain ⟨f, rfl⟩ := Int.eq_ofNat_of_zero_le b4
  have ha : a < 18446744073709551616 := by omega
  have hb : b < 18446744073709551616 := by omega
  have hf : f < 18446744073709551616 := by omega
  clear b0 b1 b2 b3 b4 b5
  have AW := Lib.hid awake12_any
  by_cases hz : a = 0 ∧ b = 0
  · obtain ⟨rfl, rfl⟩ := hz
    have G1 : Hid (∀ w : World, Calls Try.prog 22 #[.int .u64 0, .int .u64 0] w fun e w' => e = .returned (.int .u64 0) ∧ w = w') := by
      unfold Hid
      intro w
      refine (gcd_any 0 0 w (by decide) (by decide)).mono ?_
      rintro e w' ⟨g, rfl, hg, hi, rfl⟩
      have := hi.uniq (isGcd_zero 0)
      subst this
      exact ⟨rfl, rfl⟩
    go_enter Try.func6, Try.ntmps6
    go_wp2_with (first
      | (go_at_call 22; refine (G1.out _).mono ?_; rintro e w' ⟨rfl, rfl⟩)
      | (go_at_call 16; refine (AW.out _).mono ?_; rintro e w' ⟨rfl, rfl⟩)
      | fail)
    go_ret
    exact ⟨rfl, Below.refl _ _⟩
  · have hzq : ((a : Int) == 0 && (b : Int) == 0) = false := by
      rcases (show a ≠ 0 ∨ b ≠ 0 by omega) with h | h
      · have : ((a : Int) == 0) = false := by simp; omega
        rw [this]; rfl
      · have : ((b : Int) == 0) = false := by simp; omega
        rw [this, Bool.and_false]
    have hza : (((a : Int) == 0) = true ∧ ((b : Int) == 0) = false) ∨ ((a : Int) == 0) = false := by
      rcases Nat.eq_zero_or_pos a with h | h
      · left
        subst h
        exact ⟨rfl, by simp; omega⟩
      · right; simp; omega
    have HZ := Lib.hid hz
    clear hz hzq
    have main : Hid (∀ (g : Nat), IsGcd a b g → 0 < g ∧ (g < 18446744073709551616 → dvB g a = true ∧ dvB g b = true) ∧ (∀ g', IsGcd b a g' → g' = g) ∧ (0 < f → dvB f a = true → dvB f b = true → dvB f g = true)) := by
      unfold Hid
      intro g hg
      have hgg := (hg g).2 (Dv.refl g)
      have hpos : 0 < g := by
        rcases Nat.eq_zero_or_pos g with h | h
        · subst h
          obtain ⟨⟨q1, e1⟩, ⟨q2, e2⟩⟩ := hgg
          rw [pm_zero] at e1 e2
          exact absurd ⟨e1, e2⟩ HZ.out
        · exact h
      refine ⟨hpos, fun hgl => ⟨(dvB_iff hpos hgl).2 hgg.1, (dvB_iff hpos hgl).2 hgg.2⟩, fun g' hg' => hg'.symm.uniq hg, fun hf0 h1 h2 => ?_⟩
      have h3 := (hg f).1 ⟨(dvB_iff hf0 hf).1 h1, (dvB_iff hf0 hf).1 h2⟩
      exact (dvB_iff hf0 hf).2 h3
    rcases hza with ⟨q1, q2⟩ | q1
    all_goals
      go_enter Try.func6, Try.ntmps6
      go_wp2_with fail
      refine (gcd_any a b _ ha hb).mono ?_
      rintro e w1 ⟨g, rfl, hgl, hg, rfl⟩
      obtain ⟨hpos, hdv, huq, hfg⟩ := main.out g hg
      obtain ⟨hda, hdb⟩ := hdv hgl
      have HDA := Lib.hid hda
      have HDB := Lib.hid hdb
      have HUQ := Lib.hid huq
      have HFG := Lib.hid hfg
      have g0 : ((g : Int) == 0) = false := by simp; omega
      have D1 := Lib.hid (fun w => rdiv_any g a w hgl ha hpos)
      have D2 := Lib.hid (fun w => rdiv_any g b w hgl hb hpos)
      rw [HDA.out] at D1
      rw [HDB.out] at D2
      clear hg hdv huq hfg hda hdb
      go_wp2_with fail
      refine (D1.out _).mono ?_
      rintro e w1 ⟨rfl, hb1⟩
      go_wp2_with fail
      refine (D2.out _).mono ?_
      rintro e w2 ⟨rfl, hb2⟩
      replace hb2 := next hb1 hb2
      clear hb1
      go_wp2_with fail
      refine (gcd_any b a _ hb ha).mono ?_
      rintro e w3 ⟨g', rfl, _, hg', rfl⟩
      have hgg := HUQ.out g' hg'
      subst hgg
      have gg : ((g' : Int) != (g' : Int)) = false := by simp
      clear hg'
      rcases Nat.eq_zero_or_pos f with hf0 | hf0
      · subst hf0
        go_wp2_with (first
          | (go_at_call 16; refine (AW.out _).mono ?_; rintro e w' ⟨rfl, rfl⟩)
          | fail)
        go_ret
        exact ⟨rfl, hb2⟩
      · have f0 : ((f : Int) != 0) = true := by simp; omega
        have E1 := Lib.hid (fun w => rdiv_any f a w hf ha hf0)
        have E2 := Lib.hid (fun w => rdiv_any f b w hf hb hf0)
        have E3 := Lib.hid (fun w => rdiv_any f g' w hf hgl hf0)
        obtain ⟨p, hp⟩ : ∃ p, p = dvB f a := ⟨_, rfl⟩
        obtain ⟨q, hq⟩ : ∃ q, q = dvB f b := ⟨_, rfl⟩
        obtain ⟨r, hr⟩ : ∃ r, r = dvB f g' := ⟨_, rfl⟩
        have hpqr := HFG.out hf0
        rw [← hp, ← hq, ← hr] at hpqr
        have HPQ := Lib.hid hpqr
        clear hpqr
        rw [← hp] at E1
        rw [← hq] at E2
        rw [← hr] at E3
        clear hp hq hr
        go_wp2_with fail
        refine (E1.out _).mono ?_
        rintro e w4 ⟨rfl, hb4⟩
        replace hb4 := next hb2 hb4
        clear hb2
        cases p with
        | false =>
          go_wp2_with (first
            | (go_at_call 16; refine (AW.out _).mono ?_; rintro e w' ⟨rfl, rfl⟩)
            | fail)
          go_ret
          exact ⟨rfl, hb4⟩
        | true =>
          go_wp2_with fail
          refine (E2.out _).mono ?_
          rintro e w5 ⟨rfl, hb5⟩
          replace hb5 := next hb4 hb5
          clear hb4
          cases q with
          | false =>
            go_wp2_with (first
              | (go_at_call 16; refine (AW.out _).mono ?_; rintro e w' ⟨rfl, rfl⟩)
              | fail)
            go_ret
            exact ⟨rfl, hb5⟩
          | true =>
            have hrt : r = true := by simpa using HPQ.out
            subst hrt
            go_wp2_with fail
            refine (E3.out _).mono ?_
            rintro e w6 ⟨rfl, hb6⟩
            go_wp2_with (first
              | (go_at_call 16; refine (AW.out _).mono ?_; rintro e w' ⟨rfl, rfl⟩)
              | fail)
            go_ret
            exact ⟨rfl, next hb5 hb6⟩

end Go.Proofs.Ytfgpaffdaeiloaa
