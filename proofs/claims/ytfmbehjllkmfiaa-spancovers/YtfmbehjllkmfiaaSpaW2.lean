/- The walk of the law SpanCovers. -/
import Derived.Test.YtfmbehjllkmfiaaSpaW1
namespace Go.Proofs.Ytfmbehjllkmfiaa
set_option maxRecDepth 100000
open Go Go.RowKit
set_option linter.unusedVariables false
set_option linter.unusedSimpArgs false

theorem zero_part : (Try.prog.info? 42).map (·.zero) = some (some (.agg [Value.int .i64 0, Value.complex .f64 0 0].toArray)) := by kernel_rfl

set_option maxRecDepth 100000 in
set_option maxHeartbeats 4000000 in
theorem spanCovers_walk (a0 : Int) (A1 : Option Addr) (n1 c1 : Nat) (l1 : List Int) (a2 a3 : Int) (w : World) (w0 : (Lit.int .i64 a0).wf = true) (s1 : InInts w A1 n1 c1 l1) (w2 : (Lit.int .i64 a2).wf = true) (w3 : (Lit.int .i64 a3).wf = true) :
    Calls Try.prog 4 #[.int .i64 a0, .slice A1 n1 c1, .int .i64 a2, .int .i64 a3] w fun e w' => e = .returned (.bool true) ∧ Below w.heap.size w w' := by
  have AW := Lib.hid awake15_any
  obtain ⟨i0, hi, hz0, hz1, hz2⟩ := info_parts int_inf15
  by_cases hbig : n1 ≤ 200
  · have q1 : ¬ (200 : Int) < (n1 : Int) := by omega
    obtain ⟨L, hL⟩ : ∃ L, L = rowL a0 l1 := ⟨_, rfl⟩
    obtain ⟨E, hE⟩ : ∃ E, E = rowE a0 l1 := ⟨_, rfl⟩
    obtain ⟨F, hF⟩ : ∃ F, F = ofE a2 a3 := ⟨_, rfl⟩
    have hok : ∀ x ∈ L, SpOk x := by rw [hL]; exact rowL_ok a0 l1
    have hLl : L.length ≤ 200 := by have := rowL_len a0 l1; have := s1.len; rw [hL]; omega
    have HL := Lib.hid hL
    have HE := Lib.hid hE
    have HF := Lib.hid hF
    have HOK := Lib.hid hok
    have hsl := s1.sl
    have hz := s1.none_
    have hwf := s1.wf
    have own0 := World.ownsRow_lit (base := w.heap.size) (e := 3) (size := 1) w #[] 0 (Nat.le_refl _) (by decide) rfl
    clear hL hE hF hok s1
    go_enter Try.func4, Try.ntmps4
    go_wp2_with (first
      | (at_builtin; refine wpList_append_sl _ rfl _ _ 22 rfl w.heap.size 3 i0 (.int .i64 0) 8 Try.underlying22 hi hz0 hz1 hz2 rfl _ 0 [] rfl own0 _ A1 n1 c1 (iz l1) rfl (hsl.alloc (Nat.le_refl _) _) hz (iz_one l1) (by unfold maxLen; omega) (by omega) (by simp) ?_; intro v1 w1 own1 hgrow hat; obtain ⟨X1, d1, rfl⟩ := own_form own1; have hb1 : Below w.heap.size w w1 := below_app ((Below.refl w.heap.size w).alloc (Nat.le_refl _) _) (Nat.le_refl _) own0 hgrow; clear hgrow hat own0)
      | fail)
    rw [Nat.zero_add] at own1
    have x1 : Sl w1 w1.heap.size X1 n1 (iz l1) := Sl.own own1
    refine (srow_any a0 l1 w1 X1 n1 d1 x1 (by omega) hwf).mono ?_
    rw [← HL.out, ← HE.out]
    rintro e w2' ⟨X2, d2, rfl, y2, hb2⟩
    have hbw2 := next hb1 hb2
    clear own1 x1 hb2 hb1 hsl
    go_wp2_with fail
    refine (sof_any a2 a3 w2').mono ?_
    rw [← HF.out]
    rintro e w3' ⟨rfl, hb3⟩
    have y3 := y2.nx hb3
    have hbw3 := next hbw2 hb3
    clear y2 hb3 hbw2
    by_cases he : E = 0
    · by_cases hf : F = 0
      · subst he; subst hf
        obtain ⟨g1, g2, hseg0⟩ := rowL_seg HE.out.symm
        have hseg : Seg a0.toNat L := by rw [HL.out]; exact hseg0
        have hspn : spIn a2 = true ∧ spIn a3 = true := by
          have h5 := HF.out
          unfold ofE at h5
          split at h5
          · assumption
          · cases h5
        obtain ⟨b0, b1⟩ := spIn_iff.1 hspn.1
        obtain ⟨m0, m1⟩ := spIn_iff.1 hspn.2
        obtain ⟨b, rfl⟩ := Int.eq_ofNat_of_zero_le b0
        obtain ⟨n, rfl⟩ := Int.eq_ofNat_of_zero_le m0
        have hv : ofV (b : Int) (n : Int) = cxv (b, n) := by unfold ofV; rw [if_pos hspn]; rfl
        have hxo : SpOk (b, n) := ⟨by show b ≤ _; omega, by show n ≤ _; omega⟩
        rw [hv]
        obtain ⟨P, hP⟩ : ∃ P, P = pickL L b n := ⟨_, rfl⟩
        obtain ⟨G, hG⟩ : ∃ G, G = pickE L b n := ⟨_, rfl⟩
        have hPl : P.length ≤ 200 := by rw [hP]; have := pickL_len L b n; omega
        have HP := Lib.hid hP
        have HG := Lib.hid hG
        have HSEG := Lib.hid hseg
        clear hP hG hspn hv hseg hseg0
        go_wp2_with fail
        refine (spick_any L (b, n) w3' X2 L.length d2 y3 (by omega) HOK.out hxo).mono ?_
        rw [← HP.out, ← HG.out]
        rintro e w4 ⟨X4, d4, rfl, z4, hb4⟩
        have y4 := y3.nx hb4
        have hbw4 := next hbw3 hb4
        clear y3 hb4 hbw3
        by_cases hg : G = 0
        · have hcov : Cov L (b + n) b P := by
            rw [HP.out]
            exact pickL_cov HSEG.out (by rw [← HG.out]; exact hg)
          have HCOV := Lib.hid hcov
          have Y4 := Lib.hid y4
          have Z4 := Lib.hid z4
          have HB4 := Lib.hid hbw4
          subst hg
          clear hcov y4 z4 hbw4
          go_wp2
          go_loopw [15, 66] (fun a i wr => ∃ k at_ : Nat, k ≤ P.length ∧ i = .int .i64 (k : Int) ∧ a = .int .i64 (at_ : Int) ∧ at_ ≤ b + n ∧ Cov L (b + n) at_ (P.drop k) ∧ Below w4.heap.size w4 wr) (fun _ i _ => P.length - (intOf i).toNat)
          case atStart => exact ⟨0, b, Nat.zero_le _, rfl, rfl, by omega, by rw [List.drop_zero]; exact HCOV.out, Below.refl _ _⟩
          case round =>
            obtain ⟨k, at_, hk, rfl, rfl, hat, hc, hb⟩ := hrel
            by_cases hlt : k < P.length
            · have k0 : (0 : Int) ≤ (k : Int) := by omega
              have k1 : (k : Int) < (P.length : Int) := by omega
              obtain ⟨⟨x, hx, hxa, hxn⟩, hp1, hnx⟩ := cov_next hlt hc
              have z5 := Z4.out.nx hb
              have y5 := Y4.out.nx hb
              obtain ⟨bd, rfl, _, _⟩ := z5.2 (by omega)
              have hpt := ptC_at P k hlt
              have hr := row_two z5 hpt.1 hpt.2
              obtain ⟨y, hy⟩ : ∃ y, y = P[k] := ⟨_, rfl⟩
              rw [← hy] at hx hxa hxn hp1 hnx hr
              obtain ⟨i, m, s⟩ := y
              have hil : i < L.length := (List.getElem?_eq_some_iff.1 hx).1
              have hxe : L[i] = x := (List.getElem?_eq_some_iff.1 hx).2
              have hxok : SpOk x := by rw [← hxe]; exact HOK.out _ (List.getElem_mem hil)
              obtain ⟨hx1, hx2⟩ := hxok
              have hyo : SpOk (m, s) := ⟨by show m ≤ _; simp only at hxn; omega, by show s ≤ _; simp only at hxn; omega⟩
              obtain ⟨bq, hb5, hz5⟩ := put_new wr [Value.int .i64 0, Value.complex .f64 0 0] [.int .i64 (i : Int), .complex .f64 (fi m) (fi s)] 42 rfl
              obtain ⟨W5, hW5⟩ : ∃ W, W = (wr.alloc (.cells [Value.int .i64 0, Value.complex .f64 0 0].toArray 42)).setCells wr.heap.size 0 [.int .i64 (i : Int), .complex .f64 (fi m) (fi s)] := ⟨_, rfl⟩
              rw [← hW5] at bq hb5 hz5
              have HW5 := Lib.hid hW5.symm
              have y6 := y5.nx hb5
              obtain ⟨ad, rfl, _, hcc⟩ := y6.sl.2 (by omega)
              have hcx := hcc i _ (cxs_at hil)
              rw [hxe] at hcx
              have cp0 : W5.cell? ⟨wr.heap.size, 0, none⟩ = some (.int .i64 (i : Int)) := bq.cell 0
              have cp1 : W5.cell? ⟨wr.heap.size, 1, none⟩ = some (.complex .f64 (fi m) (fi s)) := bq.cell 1
              have HR := Lib.hid hr
              have HB5 := Lib.hid (next hb hb5)
              clear hW5 hy hx hr hc hpt hcc z5 y5 y6 hb5 hb hz5 hxe
              have hst : (wr.alloc (.cells [Value.int .i64 0, Value.complex .f64 0 0].toArray 42)).there wr.heap.size 0 ([Value.int .i64 (i : Int), Value.complex .f64 (fi m) (fi s)] : List Value).toArray.size := Bl.there_ (Bl.new wr [Value.int .i64 0, Value.complex .f64 0 0] 42) (by simp)
              have hon : ([Value.int .i64 (i : Int), Value.complex .f64 (fi m) (fi s)] : List Value).toArray.all (·.oneCell') = true := by simp [Value.oneCell']
              go_wp2_with (first
                | (refine wpList_load_at rfl 42 _ rfl (bd.add (k * 2)) rfl [.int .i64 (i : Int), .complex .f64 (fi m) (fi s)] _ HR.out Try.underlying42 rfl size_part ?_)
                | (refine wpList_alloc_zero rfl 42 rfl [Value.int .i64 0, Value.complex .f64 0 0] zero_part ?_)
                | (refine wpList_store_mid rfl 42 _ _ rfl wr.heap.size 0 ([Value.int .i64 (i : Int), Value.complex .f64 (fi m) (fi s)] : List Value).toArray rfl rfl hst (by rw [size_part]; rfl) hon ?_; change wpList _ _ _ _ _ ((wr.alloc (.cells [Value.int .i64 0, Value.complex .f64 0 0].toArray 42)).setCells wr.heap.size 0 [Value.int .i64 (i : Int), Value.complex .f64 (fi m) (fi s)]); rw [HW5.out]; clear HW5 hst)
                | fail)
              refine (sparts_any x W5 ⟨hx1, hx2⟩).mono ?_
              rintro e w6 ⟨rfl, hb6⟩
              have cq1 : w6.cell? ⟨wr.heap.size, 1, none⟩ = some (cxv (m, s)) := (bq.next hb6).cell 1
              have HB6 := Lib.hid (next HB5.out hb6)
              have hle := cov_le hnx
              have HNX := Lib.hid hnx
              replace hxa : x.1 + m = at_ := hxa
              replace hp1 : 1 ≤ s := hp1
              replace hle : at_ + s ≤ b + n := hle
              have e1 : (x.1 : Int) + (m : Int) = (at_ : Int) := by omega
              have e2 : ¬ (s : Int) < 1 := by omega
              clear cp0 cp1 hcx bq hb6 hnx hxa
              go_wp2_with fail
              refine (sparts_any (m, s) w6 hyo).mono ?_
              rintro e w7 ⟨rfl, hb7⟩
              have HB7 := Lib.hid (next HB6.out hb7)
              clear cq1 hb7
              go_wp2
              go_roundw
              case rel => exact ⟨k + 1, at_ + s, by omega, by go_num, by go_num, hle, HNX.out, HB7.out⟩
              case measure => simp [intOf]; omega
            · have hkn : k = P.length := by omega
              have q2 : ¬ (k : Int) < (P.length : Int) := by omega
              rw [hkn, List.drop_length] at hc
              have hae : at_ = b + n := hc
              have e1 : (at_ : Int) = (b : Int) + (n : Int) := by omega
              have HB := Lib.hid (next HB4.out hb)
              clear hb hkn hc hae
              go_wp2_with (first
                | (go_at_call 5; refine (AW.out _).mono ?_; rintro e w10 ⟨rfl, hb10⟩)
                | fail)
              go_ret
              exact ⟨rfl, next HB.out hb10⟩
        · have hP0 : P.length = 0 := by
            rw [HP.out]
            unfold pickL
            rw [if_neg (by rw [← HG.out]; exact hg)]
            rfl
          have HB4 := Lib.hid hbw4
          clear z4 y4 hbw4
          go_wp2_with (first
            | (go_at_call 5; refine (AW.out _).mono ?_; rintro e w10 ⟨rfl, hb10⟩)
            | fail)
          go_ret
          exact ⟨rfl, next HB4.out hb10⟩
      · subst he
        go_wp2_with (first
          | (go_at_call 5; refine (AW.out _).mono ?_; rintro e w10 ⟨rfl, hb10⟩)
          | fail)
        go_ret
        exact ⟨rfl, next hbw3 hb10⟩
    · go_wp2_with (first
        | (go_at_call 5; refine (AW.out _).mono ?_; rintro e w10 ⟨rfl, hb10⟩)
        | fail)
      go_ret
      exact ⟨rfl, next hbw3 hb10⟩
  · have q1 : (200 : Int) < (n1 : Int) := by omega
    clear s1
    go_enter Try.func4, Try.ntmps4
    go_wp2_with (first
      | (go_at_call 5; refine (AW.out _).mono ?_; rintro e w10 ⟨rfl, hb10⟩)
      | fail)
    go_ret
    exact ⟨rfl, hb10⟩

end Go.Proofs.Ytfmbehjllkmfiaa
