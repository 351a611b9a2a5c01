/- The walk of the law RollingPushes. -/
import Derived.Test.YthgedpnoghgdhaaRolV
namespace Go.Proofs.Ythgedpnoghgdhaa
set_option maxRecDepth 100000
open Go Go.RowKit
set_option linter.unusedVariables false
set_option linter.unusedSimpArgs false

theorem take_push (l : List UInt8) (k : Nat) (hk : k < l.length) : l.take k ++ [l[k]] = l.take (k + 1) := by
  exact (List.take_succ_eq_append_getElem hk).symm
theorem cb_take2 (l : List UInt8) (k : Nat) : (cb l).take k = cb (l.take k) := by unfold cb; rw [List.map_take]

theorem idx2_0 (A B : Option Addr) (n c k d : Nat) (w : World) : (Instr.index 35 (.agg #[.slice A n c, .slice B k d]) (.int .i64 0)).run Try.prog w = .ok (.slice A n c) w := by
  first | rfl | kernel_rfl | (unfold Instr.index; simp) 
theorem idx2_1 (A B : Option Addr) (n c k d : Nat) (w : World) : (Instr.index 35 (.agg #[.slice A n c, .slice B k d]) (.int .i64 1)).run Try.prog w = .ok (.slice B k d) w := by
  first | rfl | kernel_rfl | (unfold Instr.index; simp)

set_option maxRecDepth 100000 in
set_option maxHeartbeats 4000000 in
theorem rollingPushes_walk (a0 : Int) (A1 : Option Addr) (n1 c1 : Nat) (l1 : List UInt8) (A2 : Option Addr) (n2 c2 : Nat) (l2 : List UInt8) (w : World) (w0 : (Lit.int .u64 a0).wf = true) (s1 : InBytes w A1 n1 c1 l1) (s2 : InBytes w A2 n2 c2 l2) :
    Calls Try.prog 4 #[.int .u64 a0, .slice A1 n1 c1, .slice A2 n2 c2] w fun e w' => e = .returned (.bool true) ∧ Below w.heap.size w w' := by
  obtain ⟨b0, b1⟩ := bounds_u64 w0
  obtain ⟨m, rfl⟩ := Int.eq_ofNat_of_zero_le b0
  have hm : m < 18446744073709551616 := by omega
  clear w0 b0 b1
  have Y1 := Lib.hid s1.sl
  have z1 := s1.none_
  have p1 := s1.cap
  have r1 := s1.room
  have E1 := Lib.hid s1.len
  have Y2 := Lib.hid s2.sl
  have z2 := s2.none_
  have p2 := s2.cap
  have r2 := s2.room
  have E2 := Lib.hid s2.len
  clear s1 s2
  have AW := Lib.hid awake13_any
  by_cases hbig : n1 ≤ 200 ∧ n2 ≤ 200
  · obtain ⟨g1, g2⟩ := hbig
    have q1 : ¬ (200 : Int) < (n1 : Int) := by omega
    have q2 : ¬ (200 : Int) < (n2 : Int) := by omega
    rcases hok : rolOk m with _ | _
    · have HOK := Lib.hid hok
      go_enter Try.func4, Try.ntmps4
      go_wp2_with fail
      refine (rolnew_bad m w hok hm).mono ?_
      rintro e w2 ⟨rfl, hb2⟩
      clear hok
      go_wp2_with fail
      refine (rright13_any m w2 hm).mono ?_
      rintro e w6 ⟨rfl, rfl⟩
      rw [HOK.out]
      go_wp2_with (first
        | (go_at_call 9; refine (AW.out _).mono ?_; rintro e w6 ⟨rfl, hb6⟩)
        | fail)
      go_ret
      exact ⟨rfl, next hb2 hb6⟩
    · obtain ⟨d, hd, hd9, hd53, hdn, hpos⟩ := rolOk_deg hok hm
      have HOK := Lib.hid hok
      have HD := Lib.hid hd
      go_enter Try.func4, Try.ntmps4
      go_wp2_with fail
      refine (rolnew_ok m d w hok hd hm).mono ?_
      rintro e w2 ⟨g, rfl, hg, st, hb2⟩
      clear hok hd
      go_wp2_with fail
      refine (rright13_any m w2 hm).mono ?_
      rintro e w6 ⟨rfl, rfl⟩
      rw [HOK.out]
      go_wp2_with (first
        | (go_at_call 14; refine (rolval_any g m d [] w2 st).mono ?_; rintro e w6 ⟨rfl, rfl⟩; rw [fpr_nil])
        | fail)
      go_loopw [53] (fun i wr => ∃ j : Int, (j = 0 ∨ j = 1 ∨ j = 2) ∧ i = .int .i64 j ∧ Rl wr g m d [] ∧ Below w.heap.size w wr) (fun i _ => 2 - (intOf i).toNat)
      case atStart => exact ⟨0, .inl rfl, rfl, st, hb2⟩
      case round =>
        clear st hb2
        obtain ⟨j, hj, rfl, st, hb⟩ := hrel
        rcases hj with rfl | rfl | rfl
        · have I1 := idx2_0 A1 A2 n1 c1 n2 c2
          go_wp2
          clear I1
          go_loopw [58] (fun i wr => ∃ k : Nat, k ≤ n1 ∧ i = .int .i64 (k : Int) ∧ Rl wr g m d (l1.take k) ∧ Below w.heap.size w wr) (fun i _ => n1 - (intOf i).toNat)
          case atStart => exact ⟨0, by omega, rfl, st, hb⟩
          case round =>
            clear st hb
            obtain ⟨k, hk, rfl, st, hb⟩ := hrel
            by_cases hlt : k < n1
            · have hkl : k < l1.length := by have := E1.out; omega
              obtain ⟨ad, ha, hbl, hcw⟩ := Y1.out.byte hkl
              have hcell : wr.cell? (ad.add k) = some (.int .u8 (l1[k].toNat : Int)) := (hb.cell (by rw [add_block]; omega)).trans hcw
              have HTP := Lib.hid (take_push l1 k hkl)
              obtain ⟨b, hbb⟩ : ∃ b, b = l1[k] := ⟨_, rfl⟩
              rw [← hbb] at hcell HTP
              have hs := sl_head Y1.out (show k + 1 ≤ n1 by omega)
              rw [cb_take2] at hs
              have HS := Lib.hid hs
              clear hcw hbb hs
              subst ha
              obtain ⟨V, hV⟩ : ∃ V, V = fpr m d (l1.take (k + 1)) := ⟨_, rfl⟩
              have HV := Lib.hid hV
              clear hV
              have hk0 : (0 : Int) ≤ (k : Int) := by omega
              have hk1 : (k : Int) < (n1 : Int) := by omega
              have HR := Lib.hid (rof13_any m (l1.take (k + 1)))
              have x1 : IntKind.i64.wrap ((k : Int) + 1) = (k : Int) + 1 := IntWalk.i64_in _ (by omega)
              have HST := Lib.hid st
              clear st
              go_wp2
              clear hcell
              refine wp_region_any (by kernel_rfl) ?_
              change wpAny _ _ _ _ _ _ _ (World.drew _)
              refine wpAny_take (i := 0) (v := (.pointer (some ⟨g, 0, none⟩))) rfl (by kernel_rfl) (by kernel_rfl) (by kernel_rfl) (fun _ _ _ h => h) (Or.inl ⟨by rfl, fun _ => by go_simp⟩) ?_
              simp only [List.getElem_toArray, List.getElem_cons_succ, List.getElem_cons_zero, Act.put, List.setIfInBounds_toArray, List.set_cons_zero, List.set_cons_succ]
              refine wpAny_take (i := 1) (v := (.int .u8 (b.toNat : Int))) rfl (by kernel_rfl) (by kernel_rfl) (by kernel_rfl) (fun _ _ _ h => h) (Or.inl ⟨by rfl, fun _ => by go_simp⟩) ?_
              simp only [List.getElem_toArray, List.getElem_cons_succ, List.getElem_cons_zero, Act.put, List.setIfInBounds_toArray, List.set_cons_zero, List.set_cons_succ]
              refine wpAny_take (i := 3) (v := (.int .u64 (m : Int))) rfl (by kernel_rfl) (by kernel_rfl) (by kernel_rfl) (fun _ _ _ h => h) (Or.inl ⟨by rfl, fun _ => by go_simp⟩) ?_
              simp only [List.getElem_toArray, List.getElem_cons_succ, List.getElem_cons_zero, Act.put, List.setIfInBounds_toArray, List.set_cons_zero, List.set_cons_succ]
              refine wpAny_take (i := 4) (v := (.slice (some ad) n1 c1)) rfl (by kernel_rfl) (by kernel_rfl) (by kernel_rfl) (fun _ _ _ h => h) (Or.inl ⟨by rfl, fun _ => by go_simp⟩) ?_
              simp only [List.getElem_toArray, List.getElem_cons_succ, List.getElem_cons_zero, Act.put, List.setIfInBounds_toArray, List.set_cons_zero, List.set_cons_succ]
              refine wpAny_take (i := 5) (v := (.int .i64 (k : Int))) rfl (by kernel_rfl) (by kernel_rfl) (by kernel_rfl) (fun _ _ _ h => h) (Or.inl ⟨by rfl, fun _ => by go_simp⟩) ?_
              simp only [List.getElem_toArray, List.getElem_cons_succ, List.getElem_cons_zero, Act.put, List.setIfInBounds_toArray, List.set_cons_zero, List.set_cons_succ]
              refine wpAny_take (i := 6) (v := (.int .i64 ((k : Int) + 1))) rfl (by kernel_rfl) (by kernel_rfl) (by kernel_rfl) (fun _ _ _ h => h) (Or.inl ⟨by rfl, fun _ => by go_simp⟩) ?_
              simp only [List.getElem_toArray, List.getElem_cons_succ, List.getElem_cons_zero, Act.put, List.setIfInBounds_toArray, List.set_cons_zero, List.set_cons_succ]
              refine wpAny_take (i := 7) (v := .slice (some ad) (k + 1) c1) rfl (by kernel_rfl) (by kernel_rfl) (by kernel_rfl) (fun _ _ _ h => h) (Or.inl ⟨by rfl, fun w9 => exec_slice_to w9 23 5 _ _ rfl Try.underlying23 u8_size (some ad) n1 c1 (k + 1) .i64 ((k : Int) + 1) rfl rfl (by omega) (by omega) (by intro h; cases h)⟩) ?_
              simp only [List.getElem_toArray, List.getElem_cons_succ, List.getElem_cons_zero, Act.put, List.setIfInBounds_toArray, List.set_cons_zero, List.set_cons_succ]
              refine wpAny_one (i := 2) (by kernel_rfl) rfl (by rfl) (fun K hK => ?_)
              simp only [List.getElem_toArray, List.getElem_cons_succ, List.getElem_cons_zero, Act.put, List.setIfInBounds_toArray, List.set_cons_zero, List.set_cons_succ]
              go_simp
              refine (rolpush_any g m d (l1.take k) b _ (HST.out.next ((Below.refl _ wr).drew))).mono ?_
              rintro e w3 ⟨rfl, st3, gr3⟩
              rw [HTP.out] at st3 ⊢
              rw [← HV.out]
              have hb3 := below_but hb.drew gr3 hb.drew.size hg
              refine hK.out _ _ ?_
              clear hK K gr3 hb HST
              refine wpAny_one (i := 8) (by kernel_rfl) rfl (by rfl) (fun K hK => ?_)
              simp only [List.getElem_toArray, List.getElem_cons_succ, List.getElem_cons_zero, Act.put, List.setIfInBounds_toArray, List.set_cons_zero, List.set_cons_succ]
              go_simp
              refine (HR.out w3 w.heap.size (some ad) (k + 1) c1 d (HS.out.below hb3) hb3.size (by omega) hm HD.out hd53).mono ?_
              rintro e w4 ⟨rfl, hb4⟩
              rw [← HV.out]
              have st4 := st3.next hb4
              replace hb3 := next hb3 hb4
              refine hK.out _ _ ?_
              clear hK K st3 hb4
              refine wpAny_take (i := 9) (v := (.bool false)) rfl (by kernel_rfl) (by kernel_rfl) (by kernel_rfl) (fun _ _ _ h => h) (Or.inl ⟨by rfl, fun _ => by go_simp⟩) ?_
              simp only [List.getElem_toArray, List.getElem_cons_succ, List.getElem_cons_zero, Act.put, List.setIfInBounds_toArray, List.set_cons_zero, List.set_cons_succ]
              refine wpAny_take (i := 10) (v := (.bool false)) rfl (by kernel_rfl) (by kernel_rfl) (by kernel_rfl) (fun _ _ _ h => h) (Or.inl ⟨by rfl, fun _ => by go_simp⟩) ?_
              simp only [List.getElem_toArray, List.getElem_cons_succ, List.getElem_cons_zero, Act.put, List.setIfInBounds_toArray, List.set_cons_zero, List.set_cons_succ]
              refine wpAny_take (i := 11) (v := (.pointer (some ⟨g, 0, none⟩))) rfl (by kernel_rfl) (by kernel_rfl) (by kernel_rfl) (fun _ _ _ h => h) (Or.inl ⟨by rfl, fun _ => by go_simp⟩) ?_
              simp only [List.getElem_toArray, List.getElem_cons_succ, List.getElem_cons_zero, Act.put, List.setIfInBounds_toArray, List.set_cons_zero, List.set_cons_succ]
              refine wpAny_take (i := 13) (v := (.int .u64 (m : Int))) rfl (by kernel_rfl) (by kernel_rfl) (by kernel_rfl) (fun _ _ _ h => h) (Or.inl ⟨by rfl, fun _ => by go_simp⟩) ?_
              simp only [List.getElem_toArray, List.getElem_cons_succ, List.getElem_cons_zero, Act.put, List.setIfInBounds_toArray, List.set_cons_zero, List.set_cons_succ]
              refine wpAny_take (i := 14) (v := (.slice (some ad) n1 c1)) rfl (by kernel_rfl) (by kernel_rfl) (by kernel_rfl) (fun _ _ _ h => h) (Or.inl ⟨by rfl, fun _ => by go_simp⟩) ?_
              simp only [List.getElem_toArray, List.getElem_cons_succ, List.getElem_cons_zero, Act.put, List.setIfInBounds_toArray, List.set_cons_zero, List.set_cons_succ]
              refine wpAny_take (i := 15) (v := (.int .i64 (k : Int))) rfl (by kernel_rfl) (by kernel_rfl) (by kernel_rfl) (fun _ _ _ h => h) (Or.inl ⟨by rfl, fun _ => by go_simp⟩) ?_
              simp only [List.getElem_toArray, List.getElem_cons_succ, List.getElem_cons_zero, Act.put, List.setIfInBounds_toArray, List.set_cons_zero, List.set_cons_succ]
              refine wpAny_take (i := 16) (v := (.int .i64 ((k : Int) + 1))) rfl (by kernel_rfl) (by kernel_rfl) (by kernel_rfl) (fun _ _ _ h => h) (Or.inl ⟨by rfl, fun _ => by go_simp⟩) ?_
              simp only [List.getElem_toArray, List.getElem_cons_succ, List.getElem_cons_zero, Act.put, List.setIfInBounds_toArray, List.set_cons_zero, List.set_cons_succ]
              refine wpAny_take (i := 17) (v := .slice (some ad) (k + 1) c1) rfl (by kernel_rfl) (by kernel_rfl) (by kernel_rfl) (fun _ _ _ h => h) (Or.inl ⟨by rfl, fun w9 => exec_slice_to w9 23 5 _ _ rfl Try.underlying23 u8_size (some ad) n1 c1 (k + 1) .i64 ((k : Int) + 1) rfl rfl (by omega) (by omega) (by intro h; cases h)⟩) ?_
              simp only [List.getElem_toArray, List.getElem_cons_succ, List.getElem_cons_zero, Act.put, List.setIfInBounds_toArray, List.set_cons_zero, List.set_cons_succ]
              refine wpAny_one (i := 12) (by kernel_rfl) rfl (by rfl) (fun K hK => ?_)
              simp only [List.getElem_toArray, List.getElem_cons_succ, List.getElem_cons_zero, Act.put, List.setIfInBounds_toArray, List.set_cons_zero, List.set_cons_succ]
              go_simp
              refine (rolval_any g m d (l1.take (k + 1)) w4 st4).mono ?_
              rintro e w5 ⟨rfl, rfl⟩
              rw [← HV.out]
              refine hK.out _ _ ?_
              clear hK K
              refine wpAny_one (i := 18) (by kernel_rfl) rfl (by rfl) (fun K hK => ?_)
              simp only [List.getElem_toArray, List.getElem_cons_succ, List.getElem_cons_zero, Act.put, List.setIfInBounds_toArray, List.set_cons_zero, List.set_cons_succ]
              go_simp
              refine (HR.out w4 w.heap.size (some ad) (k + 1) c1 d (HS.out.below hb3) hb3.size (by omega) hm HD.out hd53).mono ?_
              rintro e w6 ⟨rfl, hb6⟩
              rw [← HV.out]
              have st6 := st4.next hb6
              replace hb3 := next hb3 hb6
              refine hK.out _ _ ?_
              clear hK K st4 hb6
              refine wpAny_take (i := 19) (v := (.bool false)) rfl (by kernel_rfl) (by kernel_rfl) (by kernel_rfl) (fun _ _ _ h => h) (Or.inl ⟨by rfl, fun _ => by go_simp⟩) ?_
              simp only [List.getElem_toArray, List.getElem_cons_succ, List.getElem_cons_zero, Act.put, List.setIfInBounds_toArray, List.set_cons_zero, List.set_cons_succ]
              refine wpAny_take (i := 20) (v := (.bool false)) rfl (by kernel_rfl) (by kernel_rfl) (by kernel_rfl) (fun _ _ _ h => h) (Or.inl ⟨by rfl, fun _ => by go_simp⟩) ?_
              simp only [List.getElem_toArray, List.getElem_cons_succ, List.getElem_cons_zero, Act.put, List.setIfInBounds_toArray, List.set_cons_zero, List.set_cons_succ]
              refine wpAny_done (by kernel_rfl) ?_ _
              clear x1
              go_wp2
              go_roundw
              case rel => exact ⟨k + 1, by omega, by go_num, st6, hb3⟩
              case measure => simp [intOf]; omega
            · have HST := Lib.hid st
              have hgb := hb
              clear st hb
              go_wp2_with fail
              refine (rolreset_any g m d _ wr HST.out).mono ?_
              rintro e w3 ⟨rfl, st3, gr3⟩
              have hb3 := below_but hgb gr3 hgb.size hg
              clear gr3 HST hgb
              go_wp2_with (first
                | (go_at_call 14; refine (rolval_any g m d [] w3 st3).mono ?_; rintro e w6 ⟨rfl, rfl⟩; rw [fpr_nil])
                | fail)
              go_roundw
              case rel => exact ⟨1, by simp, rfl, st3, hb3⟩
              case measure => simp [intOf]
        · have I2 := idx2_1 A1 A2 n1 c1 n2 c2
          go_wp2
          clear I2
          go_loopw [58] (fun i wr => ∃ k : Nat, k ≤ n2 ∧ i = .int .i64 (k : Int) ∧ Rl wr g m d (l2.take k) ∧ Below w.heap.size w wr) (fun i _ => n2 - (intOf i).toNat)
          case atStart => exact ⟨0, by omega, rfl, st, hb⟩
          case round =>
            clear st hb
            obtain ⟨k, hk, rfl, st, hb⟩ := hrel
            by_cases hlt : k < n2
            · have hkl : k < l2.length := by have := E2.out; omega
              obtain ⟨ad, ha, hbl, hcw⟩ := Y2.out.byte hkl
              have hcell : wr.cell? (ad.add k) = some (.int .u8 (l2[k].toNat : Int)) := (hb.cell (by rw [add_block]; omega)).trans hcw
              have HTP := Lib.hid (take_push l2 k hkl)
              obtain ⟨b, hbb⟩ : ∃ b, b = l2[k] := ⟨_, rfl⟩
              rw [← hbb] at hcell HTP
              have hs := sl_head Y2.out (show k + 1 ≤ n2 by omega)
              rw [cb_take2] at hs
              have HS := Lib.hid hs
              clear hcw hbb hs
              subst ha
              obtain ⟨V, hV⟩ : ∃ V, V = fpr m d (l2.take (k + 1)) := ⟨_, rfl⟩
              have HV := Lib.hid hV
              clear hV
              have hk0 : (0 : Int) ≤ (k : Int) := by omega
              have hk1 : (k : Int) < (n2 : Int) := by omega
              have HR := Lib.hid (rof13_any m (l2.take (k + 1)))
              have x1 : IntKind.i64.wrap ((k : Int) + 1) = (k : Int) + 1 := IntWalk.i64_in _ (by omega)
              have HST := Lib.hid st
              clear st
              go_wp2
              clear hcell
              refine wp_region_any (by kernel_rfl) ?_
              change wpAny _ _ _ _ _ _ _ (World.drew _)
              refine wpAny_take (i := 0) (v := (.pointer (some ⟨g, 0, none⟩))) rfl (by kernel_rfl) (by kernel_rfl) (by kernel_rfl) (fun _ _ _ h => h) (Or.inl ⟨by rfl, fun _ => by go_simp⟩) ?_
              simp only [List.getElem_toArray, List.getElem_cons_succ, List.getElem_cons_zero, Act.put, List.setIfInBounds_toArray, List.set_cons_zero, List.set_cons_succ]
              refine wpAny_take (i := 1) (v := (.int .u8 (b.toNat : Int))) rfl (by kernel_rfl) (by kernel_rfl) (by kernel_rfl) (fun _ _ _ h => h) (Or.inl ⟨by rfl, fun _ => by go_simp⟩) ?_
              simp only [List.getElem_toArray, List.getElem_cons_succ, List.getElem_cons_zero, Act.put, List.setIfInBounds_toArray, List.set_cons_zero, List.set_cons_succ]
              refine wpAny_take (i := 3) (v := (.int .u64 (m : Int))) rfl (by kernel_rfl) (by kernel_rfl) (by kernel_rfl) (fun _ _ _ h => h) (Or.inl ⟨by rfl, fun _ => by go_simp⟩) ?_
              simp only [List.getElem_toArray, List.getElem_cons_succ, List.getElem_cons_zero, Act.put, List.setIfInBounds_toArray, List.set_cons_zero, List.set_cons_succ]
              refine wpAny_take (i := 4) (v := (.slice (some ad) n2 c2)) rfl (by kernel_rfl) (by kernel_rfl) (by kernel_rfl) (fun _ _ _ h => h) (Or.inl ⟨by rfl, fun _ => by go_simp⟩) ?_
              simp only [List.getElem_toArray, List.getElem_cons_succ, List.getElem_cons_zero, Act.put, List.setIfInBounds_toArray, List.set_cons_zero, List.set_cons_succ]
              refine wpAny_take (i := 5) (v := (.int .i64 (k : Int))) rfl (by kernel_rfl) (by kernel_rfl) (by kernel_rfl) (fun _ _ _ h => h) (Or.inl ⟨by rfl, fun _ => by go_simp⟩) ?_
              simp only [List.getElem_toArray, List.getElem_cons_succ, List.getElem_cons_zero, Act.put, List.setIfInBounds_toArray, List.set_cons_zero, List.set_cons_succ]
              refine wpAny_take (i := 6) (v := (.int .i64 ((k : Int) + 1))) rfl (by kernel_rfl) (by kernel_rfl) (by kernel_rfl) (fun _ _ _ h => h) (Or.inl ⟨by rfl, fun _ => by go_simp⟩) ?_
              simp only [List.getElem_toArray, List.getElem_cons_succ, List.getElem_cons_zero, Act.put, List.setIfInBounds_toArray, List.set_cons_zero, List.set_cons_succ]
              refine wpAny_take (i := 7) (v := .slice (some ad) (k + 1) c2) rfl (by kernel_rfl) (by kernel_rfl) (by kernel_rfl) (fun _ _ _ h => h) (Or.inl ⟨by rfl, fun w9 => exec_slice_to w9 23 5 _ _ rfl Try.underlying23 u8_size (some ad) n2 c2 (k + 1) .i64 ((k : Int) + 1) rfl rfl (by omega) (by omega) (by intro h; cases h)⟩) ?_
              simp only [List.getElem_toArray, List.getElem_cons_succ, List.getElem_cons_zero, Act.put, List.setIfInBounds_toArray, List.set_cons_zero, List.set_cons_succ]
              refine wpAny_one (i := 2) (by kernel_rfl) rfl (by rfl) (fun K hK => ?_)
              simp only [List.getElem_toArray, List.getElem_cons_succ, List.getElem_cons_zero, Act.put, List.setIfInBounds_toArray, List.set_cons_zero, List.set_cons_succ]
              go_simp
              refine (rolpush_any g m d (l2.take k) b _ (HST.out.next ((Below.refl _ wr).drew))).mono ?_
              rintro e w3 ⟨rfl, st3, gr3⟩
              rw [HTP.out] at st3 ⊢
              rw [← HV.out]
              have hb3 := below_but hb.drew gr3 hb.drew.size hg
              refine hK.out _ _ ?_
              clear hK K gr3 hb HST
              refine wpAny_one (i := 8) (by kernel_rfl) rfl (by rfl) (fun K hK => ?_)
              simp only [List.getElem_toArray, List.getElem_cons_succ, List.getElem_cons_zero, Act.put, List.setIfInBounds_toArray, List.set_cons_zero, List.set_cons_succ]
              go_simp
              refine (HR.out w3 w.heap.size (some ad) (k + 1) c2 d (HS.out.below hb3) hb3.size (by omega) hm HD.out hd53).mono ?_
              rintro e w4 ⟨rfl, hb4⟩
              rw [← HV.out]
              have st4 := st3.next hb4
              replace hb3 := next hb3 hb4
              refine hK.out _ _ ?_
              clear hK K st3 hb4
              refine wpAny_take (i := 9) (v := (.bool false)) rfl (by kernel_rfl) (by kernel_rfl) (by kernel_rfl) (fun _ _ _ h => h) (Or.inl ⟨by rfl, fun _ => by go_simp⟩) ?_
              simp only [List.getElem_toArray, List.getElem_cons_succ, List.getElem_cons_zero, Act.put, List.setIfInBounds_toArray, List.set_cons_zero, List.set_cons_succ]
              refine wpAny_take (i := 10) (v := (.bool false)) rfl (by kernel_rfl) (by kernel_rfl) (by kernel_rfl) (fun _ _ _ h => h) (Or.inl ⟨by rfl, fun _ => by go_simp⟩) ?_
              simp only [List.getElem_toArray, List.getElem_cons_succ, List.getElem_cons_zero, Act.put, List.setIfInBounds_toArray, List.set_cons_zero, List.set_cons_succ]
              refine wpAny_take (i := 11) (v := (.pointer (some ⟨g, 0, none⟩))) rfl (by kernel_rfl) (by kernel_rfl) (by kernel_rfl) (fun _ _ _ h => h) (Or.inl ⟨by rfl, fun _ => by go_simp⟩) ?_
              simp only [List.getElem_toArray, List.getElem_cons_succ, List.getElem_cons_zero, Act.put, List.setIfInBounds_toArray, List.set_cons_zero, List.set_cons_succ]
              refine wpAny_take (i := 13) (v := (.int .u64 (m : Int))) rfl (by kernel_rfl) (by kernel_rfl) (by kernel_rfl) (fun _ _ _ h => h) (Or.inl ⟨by rfl, fun _ => by go_simp⟩) ?_
              simp only [List.getElem_toArray, List.getElem_cons_succ, List.getElem_cons_zero, Act.put, List.setIfInBounds_toArray, List.set_cons_zero, List.set_cons_succ]
              refine wpAny_take (i := 14) (v := (.slice (some ad) n2 c2)) rfl (by kernel_rfl) (by kernel_rfl) (by kernel_rfl) (fun _ _ _ h => h) (Or.inl ⟨by rfl, fun _ => by go_simp⟩) ?_
              simp only [List.getElem_toArray, List.getElem_cons_succ, List.getElem_cons_zero, Act.put, List.setIfInBounds_toArray, List.set_cons_zero, List.set_cons_succ]
              refine wpAny_take (i := 15) (v := (.int .i64 (k : Int))) rfl (by kernel_rfl) (by kernel_rfl) (by kernel_rfl) (fun _ _ _ h => h) (Or.inl ⟨by rfl, fun _ => by go_simp⟩) ?_
              simp only [List.getElem_toArray, List.getElem_cons_succ, List.getElem_cons_zero, Act.put, List.setIfInBounds_toArray, List.set_cons_zero, List.set_cons_succ]
              refine wpAny_take (i := 16) (v := (.int .i64 ((k : Int) + 1))) rfl (by kernel_rfl) (by kernel_rfl) (by kernel_rfl) (fun _ _ _ h => h) (Or.inl ⟨by rfl, fun _ => by go_simp⟩) ?_
              simp only [List.getElem_toArray, List.getElem_cons_succ, List.getElem_cons_zero, Act.put, List.setIfInBounds_toArray, List.set_cons_zero, List.set_cons_succ]
              refine wpAny_take (i := 17) (v := .slice (some ad) (k + 1) c2) rfl (by kernel_rfl) (by kernel_rfl) (by kernel_rfl) (fun _ _ _ h => h) (Or.inl ⟨by rfl, fun w9 => exec_slice_to w9 23 5 _ _ rfl Try.underlying23 u8_size (some ad) n2 c2 (k + 1) .i64 ((k : Int) + 1) rfl rfl (by omega) (by omega) (by intro h; cases h)⟩) ?_
              simp only [List.getElem_toArray, List.getElem_cons_succ, List.getElem_cons_zero, Act.put, List.setIfInBounds_toArray, List.set_cons_zero, List.set_cons_succ]
              refine wpAny_one (i := 12) (by kernel_rfl) rfl (by rfl) (fun K hK => ?_)
              simp only [List.getElem_toArray, List.getElem_cons_succ, List.getElem_cons_zero, Act.put, List.setIfInBounds_toArray, List.set_cons_zero, List.set_cons_succ]
              go_simp
              refine (rolval_any g m d (l2.take (k + 1)) w4 st4).mono ?_
              rintro e w5 ⟨rfl, rfl⟩
              rw [← HV.out]
              refine hK.out _ _ ?_
              clear hK K
              refine wpAny_one (i := 18) (by kernel_rfl) rfl (by rfl) (fun K hK => ?_)
              simp only [List.getElem_toArray, List.getElem_cons_succ, List.getElem_cons_zero, Act.put, List.setIfInBounds_toArray, List.set_cons_zero, List.set_cons_succ]
              go_simp
              refine (HR.out w4 w.heap.size (some ad) (k + 1) c2 d (HS.out.below hb3) hb3.size (by omega) hm HD.out hd53).mono ?_
              rintro e w6 ⟨rfl, hb6⟩
              rw [← HV.out]
              have st6 := st4.next hb6
              replace hb3 := next hb3 hb6
              refine hK.out _ _ ?_
              clear hK K st4 hb6
              refine wpAny_take (i := 19) (v := (.bool false)) rfl (by kernel_rfl) (by kernel_rfl) (by kernel_rfl) (fun _ _ _ h => h) (Or.inl ⟨by rfl, fun _ => by go_simp⟩) ?_
              simp only [List.getElem_toArray, List.getElem_cons_succ, List.getElem_cons_zero, Act.put, List.setIfInBounds_toArray, List.set_cons_zero, List.set_cons_succ]
              refine wpAny_take (i := 20) (v := (.bool false)) rfl (by kernel_rfl) (by kernel_rfl) (by kernel_rfl) (fun _ _ _ h => h) (Or.inl ⟨by rfl, fun _ => by go_simp⟩) ?_
              simp only [List.getElem_toArray, List.getElem_cons_succ, List.getElem_cons_zero, Act.put, List.setIfInBounds_toArray, List.set_cons_zero, List.set_cons_succ]
              refine wpAny_done (by kernel_rfl) ?_ _
              clear x1
              go_wp2
              go_roundw
              case rel => exact ⟨k + 1, by omega, by go_num, st6, hb3⟩
              case measure => simp [intOf]; omega
            · have HST := Lib.hid st
              have hgb := hb
              clear st hb
              go_wp2_with fail
              refine (rolreset_any g m d _ wr HST.out).mono ?_
              rintro e w3 ⟨rfl, st3, gr3⟩
              have hb3 := below_but hgb gr3 hgb.size hg
              clear gr3 HST hgb
              go_wp2_with (first
                | (go_at_call 14; refine (rolval_any g m d [] w3 st3).mono ?_; rintro e w6 ⟨rfl, rfl⟩; rw [fpr_nil])
                | fail)
              go_roundw
              case rel => exact ⟨2, by simp, rfl, st3, hb3⟩
              case measure => simp [intOf]
        · go_wp2_with (first
            | (go_at_call 9; refine (AW.out _).mono ?_; rintro e w6 ⟨rfl, hb6⟩)
            | fail)
          go_ret
          exact ⟨rfl, next hb hb6⟩
  · have hbig : 200 < n1 ∨ (¬ 200 < n1 ∧ 200 < n2) := by omega
    rcases hbig with h | ⟨h, h2⟩
    · have q1 : (200 : Int) < (n1 : Int) := by omega
      go_enter Try.func4, Try.ntmps4
      go_wp2_with (first
        | (go_at_call 9; refine (AW.out _).mono ?_; rintro e w6 ⟨rfl, hb6⟩)
        | fail)
      go_ret
      exact ⟨rfl, hb6⟩
    · have q1 : ¬ (200 : Int) < (n1 : Int) := by omega
      have q2 : (200 : Int) < (n2 : Int) := by omega
      go_enter Try.func4, Try.ntmps4
      go_wp2_with (first
        | (go_at_call 9; refine (AW.out _).mono ?_; rintro e w6 ⟨rfl, hb6⟩)
        | fail)
      go_ret
      exact ⟨rfl, hb6⟩

end Go.Proofs.Ythgedpnoghgdhaa
