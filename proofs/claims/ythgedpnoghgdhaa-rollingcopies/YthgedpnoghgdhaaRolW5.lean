/- The walk of the law RollingCopies. -/
import Derived.Test.YthgedpnoghgdhaaRolV
namespace Go.Proofs.Ythgedpnoghgdhaa
set_option maxRecDepth 100000
open Go Go.RowKit
set_option linter.unusedVariables false
set_option linter.unusedSimpArgs false

theorem take_push5 (p l : List UInt8) (k : Nat) (hk : k < l.length) : (p ++ l.take k) ++ [l[k]] = p ++ l.take (k + 1) := by
  rw [List.append_assoc, List.take_succ_eq_append_getElem hk]

/-- An operation that stands behind a guard which lets it through. -/
theorem wpList_guarded {P : Program} {ops : Array Oper} {rest : List Oper} {o : Oper} {a : Act} {w : World} {Q : Exit → Act → World → Prop} (hw : Region.wanted o (yielded ops a.tmps) = true)
    (h : ∀ K : Act → World → Prop, (∀ a w, wpList P ops Q rest a w → K a w) → o.wp P a w K Q) : wpList P ops Q (o :: rest) a w := by
  unfold wpList
  rw [if_pos hw]
  exact .inl (h _ (fun _ _ h => h))
/-- 'append(s, x...)' behind a guard. -/
theorem wpList_append_slG {P : Program} (w : World) {ops : Array Oper} {rest : List Oper} {o : Oper} {a : Act} {Q : Exit → Act → World → Prop} (hw : Region.wanted o (yielded ops a.tmps) = true) (s x : Operand) (t : TypeId)
    (ho : o.op = .call { callee := .builtin .append, args := #[s, x], argTypes := #[t, t] })
    (base : Nat) (e : TypeId) (i : TypeInfo) (z : Value) (bytes : Nat) (ht : P.underlying t = some (.slice e)) (hi : P.info? e = some i) (hz : i.zero = some z)
    (hsize : i.size = 1) (hby : i.bytes = bytes) (hzs : z.cells.size = 1)
    (v : Value) (n : Nat) (xs : List Value) (hs : a.eval s = v) (hown : w.ownsRow base e 1 v n xs)
    (B : Nat) (A : Option Addr) (m c : Nat) (news : List Value) (hx : a.eval x = .slice A m c) (hr : Sl w B A m news) (hc : A = none → c = 0) (h1 : ∀ u ∈ news, u.oneCell' = true)
    (h63 : n + m ≤ maxLen) (hbytes : (n + m) * bytes ≤ 140737488355328) (hbase : base ≤ w.heap.size)
    (h : ∀ v' w', w'.ownsRow base e 1 v' (n + m) (xs ++ news) → w.grownBy w' v.ownBlock → (v'.ownBlock = v.ownBlock ∨ v'.ownBlock = some w.heap.size) → wpList P ops Q rest (a.put o.dst v') w') : wpList P ops Q (o :: rest) a w := by
  refine wpList_guarded hw fun K hK => ?_
  obtain ⟨v', w', hrun, h2, h3, h4⟩ := run_append_sl (P := P) w base t o.type e i z bytes ht hi hz hsize hby hzs v n xs hown B A m c news hr hc h1 h63 hbytes hbase
  unfold Oper.wp execOp
  simp only [ho, resolve, invoke, builtin, Sem.run_bind, Sem.run_pure, Result.andThen_ok, List.map_toArray, List.map_cons, List.map_nil, hs, hx, hrun]
  exact hK _ _ (h v' w' h2 h3 h4)

set_option maxRecDepth 100000 in
set_option maxHeartbeats 4000000 in
theorem rollingCopies_walk (a0 : Int) (A1 : Option Addr) (n1 c1 : Nat) (l1 : List UInt8) (A2 : Option Addr) (n2 c2 : Nat) (l2 : List UInt8) (A3 : Option Addr) (n3 c3 : Nat) (l3 : List UInt8) (w : World) (w0 : (Lit.int .u64 a0).wf = true) (s1 : InBytes w A1 n1 c1 l1) (s2 : InBytes w A2 n2 c2 l2) (s3 : InBytes w A3 n3 c3 l3) :
    Calls Try.prog 5 #[.int .u64 a0, .slice A1 n1 c1, .slice A2 n2 c2, .slice A3 n3 c3] w fun e w' => e = .returned (.bool true) ∧ Below w.heap.size w w' := by
  obtain ⟨b0, b1⟩ := bounds_u64 w0
  obtain ⟨m, rfl⟩ := Int.eq_ofNat_of_zero_le b0
  have hm : m < 18446744073709551616 := by omega
  clear w0 b0 b1
  obtain ⟨i0, hi, hz0, hz1, hz2⟩ := info_parts u8_info
  have Y1 := Lib.hid s1.sl
  have z1 := s1.none_
  have E1 := Lib.hid s1.len
  have Y2 := Lib.hid s2.sl
  have z2 := s2.none_
  have E2 := Lib.hid s2.len
  have Y3 := Lib.hid s3.sl
  have z3 := s3.none_
  have E3 := Lib.hid s3.len
  clear s1 s2 s3
  have AW := Lib.hid awake13_any
  by_cases hbig : n1 ≤ 200 ∧ n2 ≤ 200 ∧ n3 ≤ 200
  · obtain ⟨g1, g2, g3⟩ := hbig
    have q1 : ¬ (200 : Int) < (n1 : Int) := by omega
    have q2 : ¬ (200 : Int) < (n2 : Int) := by omega
    have q3 : ¬ (200 : Int) < (n3 : Int) := by omega
    rcases hok : rolOk m with _ | _
    · have HOK := Lib.hid hok
      go_enter Try.func5, Try.ntmps5
      go_wp2_with fail
      refine (rolnew_bad m w hok hm).mono ?_
      rintro e w2 ⟨rfl, hb2⟩
      clear hok
      go_wp2_with fail
      refine (rright13_any m w2 hm).mono ?_
      rintro e w6 ⟨rfl, rfl⟩
      rw [HOK.out]
      go_wp2_with (first
        | (go_at_call 17; refine (nrolcopy_any _).mono ?_; rintro e w6 ⟨rfl, rfl⟩)
        | (go_at_call 9; refine (AW.out _).mono ?_; rintro e w6 ⟨rfl, hb6⟩)
        | fail)
      go_ret
      exact ⟨rfl, next hb2 hb6⟩
    · obtain ⟨d, hd, hd9, hd53, hdn, hpos⟩ := rolOk_deg hok hm
      have HOK := Lib.hid hok
      have HD := Lib.hid hd
      go_enter Try.func5, Try.ntmps5
      go_wp2_with fail
      refine (rolnew_ok m d w hok hd hm).mono ?_
      rintro e w2 ⟨g, rfl, hg, st, hb2⟩
      clear hok hd
      go_wp2_with fail
      refine (rright13_any m w2 hm).mono ?_
      rintro e w6 ⟨rfl, rfl⟩
      rw [HOK.out]
      go_wp2
      go_loopw [56] (fun i wr => ∃ k : Nat, k ≤ n1 ∧ i = .int .i64 (k : Int) ∧ Rl wr g m d ([] ++ l1.take k) ∧ Below w.heap.size w wr) (fun i _ => n1 - (intOf i).toNat)
      case atStart => exact ⟨0, by omega, rfl, by simpa using st, hb2⟩
      case round =>
        clear st hb2
        obtain ⟨k, hk, rfl, st, hb⟩ := hrel
        by_cases hlt : k < n1
        · have hkl : k < l1.length := by have := E1.out; omega
          obtain ⟨ad, ha, hbl, hcw⟩ := Y1.out.byte hkl
          have hcell : wr.cell? (ad.add k) = some (.int .u8 (l1[k].toNat : Int)) := (hb.cell (by rw [add_block]; omega)).trans hcw
          have HTP := Lib.hid (take_push5 [] l1 k hkl)
          obtain ⟨b, hbb⟩ : ∃ b, b = l1[k] := ⟨_, rfl⟩
          rw [← hbb] at hcell HTP
          clear hcw hbb
          subst ha
          have hk0 : (0 : Int) ≤ (k : Int) := by omega
          have hk1 : (k : Int) < (n1 : Int) := by omega
          go_wp2_with fail
          refine (rolpush_any g m d _ b wr st).mono ?_
          rintro e w3 ⟨rfl, st4, gr3⟩
          have hb3 := below_but hb gr3 hb.size hg
          have st3 := (by have h5 := st4; rwa [HTP.out] at h5 : Rl w3 g m d ([] ++ l1.take (k + 1)))
          clear hcell hb st4 gr3 st
          go_wp2
          go_roundw
          case rel => exact ⟨k + 1, by omega, by go_num, st3, hb3⟩
          case measure => simp [intOf]; omega
        · have HT : Hid (l1.take k = l1) := by unfold Hid; rw [List.take_of_length_le (by have := E1.out; omega)]
          rw [List.nil_append, HT.out] at st
          have q : ¬ (k : Int) < (n1 : Int) := by omega
          go_wp2_with fail
          refine (rolcopy_any g m d l1 wr st).mono ?_
          rintro e w3 ⟨h, rfl, hh, sc, hb3⟩
          have hgh : h ≠ g := by have := st.lt; omega
          have hhw : w.heap.size ≤ h := Nat.le_trans hb.size hh
          replace st := st.next hb3
          replace hb := next hb hb3
          clear hb3 q hh
          go_wp2
          go_loopw [68] (fun i wr => ∃ k2 : Nat, k2 ≤ n2 ∧ i = .int .i64 (k2 : Int) ∧ Rl wr g m d (l1 ++ l2.take k2) ∧ Rl wr h m d l1 ∧ Below w.heap.size w wr) (fun i _ => n2 - (intOf i).toNat)
          case atStart => exact ⟨0, by omega, rfl, by simpa using st, sc, hb⟩
          case round =>
            clear st sc hb
            obtain ⟨k2, hk, rfl, st, sc, hb⟩ := hrel
            by_cases hlt : k2 < n2
            · have hkl : k2 < l2.length := by have := E2.out; omega
              obtain ⟨ad, ha, hbl, hcw⟩ := Y2.out.byte hkl
              have hcell : wr.cell? (ad.add k2) = some (.int .u8 (l2[k2].toNat : Int)) := (hb.cell (by rw [add_block]; omega)).trans hcw
              have HTP := Lib.hid (take_push5 l1 l2 k2 hkl)
              obtain ⟨b, hbb⟩ : ∃ b, b = l2[k2] := ⟨_, rfl⟩
              rw [← hbb] at hcell HTP
              clear hcw hbb
              subst ha
              have hk0 : (0 : Int) ≤ (k2 : Int) := by omega
              have hk1 : (k2 : Int) < (n2 : Int) := by omega
              go_wp2_with fail
              refine (rolpush_any g m d _ b wr st).mono ?_
              rintro e w3 ⟨rfl, st4, gr3⟩
              have hb3 := below_but hb gr3 hb.size hg
              have st3 := (by have h5 := st4; rwa [HTP.out] at h5 : Rl w3 g m d (l1 ++ l2.take (k2 + 1)))
              have sc3 := sc.but gr3 (Ne.symm hgh)
              clear hcell hb st4 gr3 st
              go_wp2
              go_roundw
              case rel => exact ⟨k2 + 1, by omega, by go_num, st3, sc3, hb3⟩
              case measure => simp [intOf]; omega
            · have HT2 : Hid (l2.take k2 = l2) := by unfold Hid; rw [List.take_of_length_le (by have := E2.out; omega)]
              rw [HT2.out] at st
              have q : ¬ (k2 : Int) < (n2 : Int) := by omega
              go_wp2
              clear q
              go_loopw [78] (fun i wr => ∃ k3 : Nat, k3 ≤ n3 ∧ i = .int .i64 (k3 : Int) ∧ Rl wr g m d (l1 ++ l2) ∧ Rl wr h m d (l1 ++ l3.take k3) ∧ Below w.heap.size w wr) (fun i _ => n3 - (intOf i).toNat)
              case atStart => exact ⟨0, by omega, rfl, st, by simpa using sc, hb⟩
              case round =>
                clear st sc hb
                obtain ⟨k3, hk, rfl, st, sc, hb⟩ := hrel
                by_cases hlt : k3 < n3
                · have hkl : k3 < l3.length := by have := E3.out; omega
                  obtain ⟨ad, ha, hbl, hcw⟩ := Y3.out.byte hkl
                  have hcell : wr.cell? (ad.add k3) = some (.int .u8 (l3[k3].toNat : Int)) := (hb.cell (by rw [add_block]; omega)).trans hcw
                  have HTP := Lib.hid (take_push5 l1 l3 k3 hkl)
                  obtain ⟨b, hbb⟩ : ∃ b, b = l3[k3] := ⟨_, rfl⟩
                  rw [← hbb] at hcell HTP
                  clear hcw hbb
                  subst ha
                  have hk0 : (0 : Int) ≤ (k3 : Int) := by omega
                  have hk1 : (k3 : Int) < (n3 : Int) := by omega
                  go_wp2_with fail
                  refine (rolpush_any h m d _ b wr sc).mono ?_
                  rintro e w3 ⟨rfl, st4, gr3⟩
                  have hb3 := below_but hb gr3 hb.size hhw
                  have sc3 := (by have h5 := st4; rwa [HTP.out] at h5 : Rl w3 h m d (l1 ++ l3.take (k3 + 1)))
                  have st3 := st.but gr3 hgh
                  clear hcell hb st4 gr3 sc
                  go_wp2
                  go_roundw
                  case rel => exact ⟨k3 + 1, by omega, by go_num, st3, sc3, hb3⟩
                  case measure => simp [intOf]; omega
                · have HT3 : Hid (l3.take k3 = l3) := by unfold Hid; rw [List.take_of_length_le (by have := E3.out; omega)]
                  rw [HT3.out] at sc
                  have q : ¬ (k3 : Int) < (n3 : Int) := by omega
                  obtain ⟨V1, hV1⟩ : ∃ V, V = fpr m d (l1 ++ l2) := ⟨_, rfl⟩
                  obtain ⟨V2, hV2⟩ : ∃ V, V = fpr m d (l1 ++ l3) := ⟨_, rfl⟩
                  have HV1 := Lib.hid hV1
                  have HV2 := Lib.hid hV2
                  clear hV1 hV2
                  have ow := World.ownsRow_lit (base := wr.heap.size) (e := 5) (size := 1) wr #[] 0 (Nat.le_refl _) (by decide) rfl
                  have ba : Below wr.heap.size wr (wr.alloc (.cells #[] 5)) := (Below.refl _ wr).alloc (Nat.le_refl _) _
                  have ya := (Y1.out.nx hb).nx ba
                  go_wp2_with (first
                    | (go_at_call 14; refine (rolval_any g m d (l1 ++ l2) wr st).mono ?_; rintro e w6 ⟨rfl, rfl⟩; rw [← HV1.out])
                    | (at_builtin; refine wpList_append_sl _ rfl _ _ 23 rfl wr.heap.size 5 i0 (.int .u8 0) 1 Try.underlying23 hi hz0 hz1 hz2 rfl _ 0 [] rfl ow _ A1 n1 c1 (cb l1) rfl ya z1 (cb_one _) (by unfold maxLen; omega) (by omega) (by simp) ?_; intro v4 w4 own4 gr4 at4; obtain ⟨X4, d4, rfl⟩ := own_form own4; have hb4 : Below wr.heap.size wr w4 := below_app ba (Nat.le_refl _) ow gr4; rw [Nat.zero_add, List.nil_append] at own4; clear gr4 at4)
                    | (at_builtin; refine wpList_append_sl _ rfl _ _ 23 rfl wr.heap.size 5 i0 (.int .u8 0) 1 Try.underlying23 hi hz0 hz1 hz2 rfl _ n1 (cb l1) rfl own4 _ A2 n2 c2 (cb l2) rfl ((Y2.out.nx hb).nx hb4) z2 (cb_one _) (by unfold maxLen; omega) (by omega) hb4.size ?_; intro v5 w5 own5 gr5 at5; obtain ⟨X5, d5, rfl⟩ := own_form own5; have hb5 : Below wr.heap.size wr w5 := below_app hb4 (Nat.le_refl _) own4 gr5; rw [← cb_append] at own5; clear gr5 at5 own4)
                    | fail)
                  refine (rof13_any m (l1 ++ l2) w5 w5.heap.size X5 (n1 + n2) d5 d (Sl.own own5) (Nat.le_refl _) (by omega) hm HD.out hd53).mono ?_
                  rintro e w6 ⟨rfl, hb6⟩
                  rw [← HV1.out]
                  replace sc := sc.next (next hb5 hb6)
                  replace hb := next hb (next hb5 hb6)
                  clear st hb4 hb5 hb6 own5 ow ba ya q
                  have ow := World.ownsRow_lit (base := w6.heap.size) (e := 5) (size := 1) w6 #[] 0 (Nat.le_refl _) (by decide) rfl
                  have ba : Below w6.heap.size w6 (w6.alloc (.cells #[] 5)) := (Below.refl _ w6).alloc (Nat.le_refl _) _
                  have ya := (Y1.out.nx hb).nx ba
                  go_wp2_with (first
                    | (go_at_call 14; refine (rolval_any h m d (l1 ++ l3) w6 sc).mono ?_; rintro e w7 ⟨rfl, rfl⟩; rw [← HV2.out])
                    | (at_builtin; refine wpList_append_slG _ (by kernel_rfl) _ _ 23 rfl w6.heap.size 5 i0 (.int .u8 0) 1 Try.underlying23 hi hz0 hz1 hz2 rfl _ 0 [] rfl ow _ A1 n1 c1 (cb l1) rfl ya z1 (cb_one _) (by unfold maxLen; omega) (by omega) (by simp) ?_; intro v7 w7 own7 gr7 at7; obtain ⟨X7, d7, rfl⟩ := own_form own7; have hb7 : Below w6.heap.size w6 w7 := below_app ba (Nat.le_refl _) ow gr7; rw [Nat.zero_add, List.nil_append] at own7; clear gr7 at7)
                    | (at_builtin; refine wpList_append_slG _ (by kernel_rfl) _ _ 23 rfl w6.heap.size 5 i0 (.int .u8 0) 1 Try.underlying23 hi hz0 hz1 hz2 rfl _ n1 (cb l1) rfl own7 _ A3 n3 c3 (cb l3) rfl ((Y3.out.nx hb).nx hb7) z3 (cb_one _) (by unfold maxLen; omega) (by omega) hb7.size ?_; intro v8 w8 own8 gr8 at8; obtain ⟨X8, d8, rfl⟩ := own_form own8; have hb8 : Below w6.heap.size w6 w8 := below_app hb7 (Nat.le_refl _) own7 gr8; rw [← cb_append] at own8; clear gr8 at8 own7)
                    | fail)
                  refine (rof13_any m (l1 ++ l3) w8 w8.heap.size X8 (n1 + n3) d8 d (Sl.own own8) (Nat.le_refl _) (by omega) hm HD.out hd53).mono ?_
                  rintro e w9 ⟨rfl, hb9⟩
                  rw [← HV2.out]
                  replace hb := next hb (next hb8 hb9)
                  clear sc hb7 hb8 hb9 own8 ow ba ya
                  go_wp2_with (first
                    | (go_at_call 9; refine (AW.out _).mono ?_; rintro e w10 ⟨rfl, hb10⟩)
                    | fail)
                  go_ret
                  exact ⟨rfl, next hb hb10⟩
  · have hbig : 200 < n1 ∨ (¬ 200 < n1 ∧ 200 < n2) ∨ (¬ 200 < n1 ∧ ¬ 200 < n2 ∧ 200 < n3) := by omega
    rcases hbig with h | ⟨h, h2⟩ | ⟨h, h2, h3⟩
    · have q1 : (200 : Int) < (n1 : Int) := by omega
      go_enter Try.func5, Try.ntmps5
      go_wp2_with (first
        | (go_at_call 9; refine (AW.out _).mono ?_; rintro e w6 ⟨rfl, hb6⟩)
        | fail)
      go_ret
      exact ⟨rfl, hb6⟩
    · have q1 : ¬ (200 : Int) < (n1 : Int) := by omega
      have q2 : (200 : Int) < (n2 : Int) := by omega
      go_enter Try.func5, Try.ntmps5
      go_wp2_with (first
        | (go_at_call 9; refine (AW.out _).mono ?_; rintro e w6 ⟨rfl, hb6⟩)
        | fail)
      go_ret
      exact ⟨rfl, hb6⟩
    · have q1 : ¬ (200 : Int) < (n1 : Int) := by omega
      have q2 : ¬ (200 : Int) < (n2 : Int) := by omega
      have q3 : (200 : Int) < (n3 : Int) := by omega
      go_enter Try.func5, Try.ntmps5
      go_wp2_with (first
        | (go_at_call 9; refine (AW.out _).mono ?_; rintro e w6 ⟨rfl, hb6⟩)
        | fail)
      go_ret
      exact ⟨rfl, hb6⟩

end Go.Proofs.Ythgedpnoghgdhaa
