/- Block of the reference of package cipher. -/
import Derived.Test.YtnhpamfmbledmaaDoorChaS
namespace Go.Proofs.YtnhpamfmbledmaaDoor
open Go.RowKit
set_option linter.unusedVariables false
set_option linter.unusedSimpArgs false

/-- quarter at places that are written out. -/
theorem rq_lit (x : List Nat) (q : Q4) (a b c d : Int) (A : Option Addr) (k : Nat) (w : World) (h : Sl w w.heap.size A 16 (us x)) (hA : A = none → k = 0) (hW : Wds x) (hq : q.apart) (y : List Nat) (hy : y = qAt x q) (ea : a = q.a) (eb : b = q.b) (ec : c = q.c) (ed : d = q.d) :
    Calls Tryd.prog 21 #[.slice A 16 k, .int .i64 a, .int .i64 b, .int .i64 c, .int .i64 d] w (RetRow 23 w 16 (us y)) := by
  subst ea; subst eb; subst ec; subst ed
  exact rquarter_any x q A k _ w h hA (Nat.le_refl _) hW hq y hy

/-- append onto a slice of the call's own, as one operation. -/
theorem wp_append_sl {P : Program} {o : Oper} {a : Act} {w : World} {K : Act → World → Prop} {Q : Exit → Act → World → Prop} (s x : Operand) (t : TypeId)
    (ho : o.op = .call { callee := .builtin .append, args := #[s, x], argTypes := #[t, t] })
    (base : Nat) (e : TypeId) (i : TypeInfo) (z : Value) (bytes : Nat) (ht : P.underlying t = some (.slice e)) (hi : P.info? e = some i) (hz : i.zero = some z)
    (hsize : i.size = 1) (hby : i.bytes = bytes) (hzs : z.cells.size = 1)
    (v : Value) (n : Nat) (xs : List Value) (hs : a.eval s = v) (hown : w.ownsRow base e 1 v n xs)
    (B : Nat) (A : Option Addr) (m c : Nat) (news : List Value) (hx : a.eval x = .slice A m c) (hr : Sl w B A m news) (hc : A = none → c = 0) (h1 : ∀ u ∈ news, u.oneCell' = true)
    (h63 : n + m ≤ maxLen) (hbytes : (n + m) * bytes ≤ 140737488355328) (hbase : base ≤ w.heap.size)
    (h : ∀ v' w', w'.ownsRow base e 1 v' (n + m) (xs ++ news) → w.grownBy w' v.ownBlock → (v'.ownBlock = v.ownBlock ∨ v'.ownBlock = some w.heap.size) → K (a.put o.dst v') w') : Oper.wp P o a w K Q := by
  obtain ⟨v', w', hrun, h2, h3, h4⟩ := run_append_sl (P := P) w base t o.type e i z bytes ht hi hz hsize hby hzs v n xs hown B A m c news hr hc h1 h63 hbytes hbase
  unfold Oper.wp execOp
  simp only [ho, resolve, invoke, builtin, Sem.run_bind, Sem.run_pure, Result.andThen_ok, List.map_toArray, List.map_cons, List.map_nil, hs, hx, hrun]
  exact h v' w' h2 h3 h4

theorem us_cst : Instr.fill (fun j => some (j, 1)) (zeros .u32 4).toArray [(0, .int .u32 1634760805), (1, .int .u32 857760878), (2, .int .u32 2036477234), (3, .int .u32 1797285236)] = some (us cst).toArray := by rfl

theorem st_cells (K N : List Nat) (n : Nat) : us cst ++ us K ++ [.int .u32 (n : Int)] ++ us N = us (cst ++ (K ++ (n :: N))) := by simp [us, uc]

theorem quTo8 (x : List Nat) : quTo x 8 = qAt (qAt (qAt (qAt (qAt (qAt (qAt (qAt x (quarAt 0)) (quarAt 1)) (quarAt 2)) (quarAt 3)) (quarAt 4)) (quarAt 5)) (quarAt 6)) (quarAt 7) := rfl

set_option maxRecDepth 100000 in
set_option maxHeartbeats 1000000 in
theorem rblock_any (key nonce : List UInt8) (n : Nat) (w : World) (A0 A1 : Option Addr) (c0 c1 : Nat) (h0 : Sl w w.heap.size A0 32 (cb key)) (h1 : Sl w w.heap.size A1 12 (cb nonce)) (k0 : 32 ≤ c0) (k1 : 12 ≤ c1) (z0 : A0 = none → c0 = 0) (z1 : A1 = none → c1 = 0) (hn : n < 4294967296) (O : List UInt8) (hO : O = cblk key nonce n) :
    Calls Tryd.prog 12 #[.slice A0 32 c0, .slice A1 12 c1, .int .u32 n] w (RetBytes 5 w 64 O) := by
  obtain ⟨i0, hi, hz0, hz1, hz2⟩ := info_parts u32_info
  obtain ⟨j0, hj', hy0, hy1, hy2⟩ := info_parts u8_info
  have HO := Lib.hid hO
  obtain ⟨C, hC⟩ : ∃ C, C = us cst := ⟨_, rfl⟩
  have HCL : Hid (C.length = 4) := by unfold Hid; rw [hC]; rfl
  have HFI := us_cst
  rw [← hC] at HFI
  have HFI' := Lib.hid HFI
  have hl := World.ownsRow_lit (base := w.heap.size) (e := 23) (size := 1) w C.toArray 4 (Nat.le_refl _) (by decide) (by rw [List.size_toArray, HCL.out])
  have hb1 : Below w.heap.size w (w.alloc (.cells C.toArray 23)) := (Below.refl _ w).alloc (Nat.le_refl _) _
  obtain ⟨W1, hW1⟩ : ∃ W, W = w.alloc (.cells C.toArray 23) := ⟨_, rfl⟩
  rw [← hW1] at hl hb1
  have HW1 := Lib.hid hW1
  have HC := Lib.hid hC
  clear hC HFI hW1 hO
  go_enter Tryd.func12, Tryd.ntmps12
  go_wp2_with (refine wpList_buildSlice_to rfl 49 4 _ rfl 23 i0 .u32 Tryd.underlying49 hi hz0 hz1 (by omega) (by omega) C HFI'.out ?_; rw [← HW1.out])
  refine (rwords_any key 8 _ _ _ 32 c0 (h0.nx hb1) rfl (by omega) k0 z0 (Nat.le_refl _)).mono ?_
  rintro e w2 ⟨A2, d2, rfl, ho2, hb2⟩
  have hl2 := own_below hl hb2
  have hbw2 := next hb1 hb2
  have hs2 := Sl.own ho2
  have hn2 := own_none ho2
  have hbz2 := hbw2.size
  clear hl hb1 hb2 ho2
  obtain ⟨K, hK⟩ : ∃ K, K = wdsL key 8 := ⟨_, rfl⟩
  rw [← hK] at hs2
  have HKK := Lib.hid hK
  clear hK
  go_wp2_with (first
    | (at_builtin; refine wpList_append_sl _ rfl _ _ 49 rfl w.heap.size 23 i0 (.int .u32 0) 4 Tryd.underlying49 hi hz0 hz1 hz2 rfl _ 4 _ rfl hl2 _ A2 8 d2 (us K) rfl hs2 hn2 (us_one _) (by unfold maxLen; omega) (by omega) hbz2 ?_; intro v3 w3 hown3 hgrow3 hat3; have hb3 := below_app hbw2 (Nat.le_refl _) hl2 hgrow3; have hbz3 := hb3.size; clear hs2 hn2 hgrow3 hat3; obtain ⟨gA, cA, rfl, _, _⟩ := hown3.form (by omega))
    | (at_builtin; have hk3 := hbz3; refine wpList_append_own_at _ rfl _ _ 49 rfl w.heap.size 23 i0 (.int .u32 0) 1 4 Tryd.underlying49 hi hz0 hz1 hz2 rfl (by decide) _ _ _ rfl (hown3.alloc _) ⟨w3.heap.size, 0, none⟩ 1 1 _ rfl rfl (cell_one_new _ _ _) (by simp [Value.oneCell']) (by unfold maxLen; omega) (by omega) (by simp; omega) ?_; intro v4 w4 hown4 hgrow4 hnil4 hat4; have hb4 := below_app1 hb3 (Nat.le_refl _) hown3 hgrow4; have hbz4 := hb4.size; clear hgrow4 hnil4 hat4 hk3 hbz3; obtain ⟨gB, cB, rfl, _, _⟩ := hown4.form (by omega)))
  refine (rwords_any nonce 3 _ _ _ 12 c1 (h1.nx hb4) rfl (by omega) k1 z1 (Nat.le_refl _)).mono ?_
  rintro e w5 ⟨A5, d5, rfl, ho5, hb5⟩
  have hl5 := own_below hown4 hb5
  have hbw5 := next hb4 hb5
  have hs5 := Sl.own ho5
  have hn5 := own_none ho5
  have hbz5 := hbw5.size
  clear hl2 hown3 hb3 hown4 hb4 hb5 ho5 hbw2 hbz4
  obtain ⟨N, hN⟩ : ∃ N, N = wdsL nonce 3 := ⟨_, rfl⟩
  rw [← hN] at hs5
  have HN := Lib.hid hN
  clear hN
  go_wp2_with (at_builtin; refine wpList_append_sl _ rfl _ _ 49 rfl w.heap.size 23 i0 (.int .u32 0) 4 Tryd.underlying49 hi hz0 hz1 hz2 rfl _ _ _ rfl hl5 _ A5 3 d5 (us N) rfl hs5 hn5 (us_one _) (by unfold maxLen; omega) (by omega) hbz5 ?_; intro v6 w6 hown6 hgrow6 hat6; have hb6 := below_app hbw5 (Nat.le_refl _) hl5 hgrow6; clear hs5 hn5 hgrow6 hat6; obtain ⟨gF, cF, rfl, _, _⟩ := hown6.form (by omega))
  obtain ⟨F, hF⟩ : ∃ F, F = stOf key nonce n := ⟨_, rfl⟩
  have HE : Hid (C ++ us K ++ [.int .u32 (n : Int)] ++ us N = us F) := by unfold Hid; rw [HC.out, st_cells, hF, HKK.out, HN.out]; rfl
  have HFL : Hid (F.length = 16) := by unfold Hid; rw [hF, stOf_len]
  have HFW : Hid (Wds F) := by unfold Hid; rw [hF]; exact stOf_ok _ _ _ hn
  have HF := Lib.hid hF
  rw [HE.out] at hown6
  have hF6 : Sl w6 w6.heap.size (some ⟨gF, 0, none⟩) 16 (us F) := Sl.own hown6
  clear hF hl5 hown6 hbw5 hbz5 hbz2
  go_loopw [8, 9] (fun v i wr => ∃ (k : Nat) (A : Option Addr) (c : Nat), k ≤ 10 ∧ i = .int .i64 k ∧ v = .slice A 16 c ∧ (A = none → c = 0) ∧ Sl wr wr.heap.size A 16 (us (rds F k)) ∧ Sl wr wr.heap.size (some ⟨gF, 0, none⟩) 16 (us F) ∧ Below w.heap.size w wr) (fun _ i _ => 10 - (intOf i).toNat)
  case atStart => exact ⟨0, _, _, by omega, rfl, rfl, (fun h => by cases h), hF6, hF6, hb6⟩
  case round =>
    clear hF6 hb6
    obtain ⟨k, B0, d0, hk, rfl, rfl, f0, z0, g0, hb0⟩ := hrel
    obtain ⟨X0, hX0⟩ : ∃ X, X = rds F k := ⟨_, rfl⟩
    rw [← hX0] at z0
    have HX0 := Lib.hid hX0
    have HW0 : Hid (Wds X0) := by unfold Hid; rw [hX0]; exact rds_ok HFW.out _
    clear hX0
    by_cases hlt : k < 10
    · obtain ⟨v0, hv0⟩ : ∃ x, x = wr := ⟨wr, rfl⟩
      subst hv0
      obtain ⟨X1, hX⟩ : ∃ X, X = qAt X0 (quarAt 0) := ⟨_, rfl⟩
      have HX1 := Lib.hid hX
      have HW1 : Hid (Wds X1) := by unfold Hid; rw [hX]; exact qAt_ok HW0.out _
      go_wp2_with fail
      refine (rq_lit X0 (quarAt 0) 0 4 8 12 B0 d0 _ z0 f0 HW0.out (quar_apart 0 (by omega)) X1 hX rfl rfl rfl rfl).mono ?_
      clear hX
      rintro e v1 ⟨B1, d1, rfl, ho, hbn⟩
      have z1 := Sl.own ho
      have f1 := own_none ho
      have g1 := g0.nx hbn
      have hb1 := next hb0 hbn
      clear ho hbn z0 f0 g0 hb0
      obtain ⟨X2, hX⟩ : ∃ X, X = qAt X1 (quarAt 1) := ⟨_, rfl⟩
      have HX2 := Lib.hid hX
      have HW2 : Hid (Wds X2) := by unfold Hid; rw [hX]; exact qAt_ok HW1.out _
      go_wp2_with fail
      refine (rq_lit X1 (quarAt 1) 1 5 9 13 B1 d1 _ z1 f1 HW1.out (quar_apart 1 (by omega)) X2 hX rfl rfl rfl rfl).mono ?_
      clear hX
      rintro e v2 ⟨B2, d2, rfl, ho, hbn⟩
      have z2 := Sl.own ho
      have f2 := own_none ho
      have g2 := g1.nx hbn
      have hb2 := next hb1 hbn
      clear ho hbn z1 f1 g1 hb1
      obtain ⟨X3, hX⟩ : ∃ X, X = qAt X2 (quarAt 2) := ⟨_, rfl⟩
      have HX3 := Lib.hid hX
      have HW3 : Hid (Wds X3) := by unfold Hid; rw [hX]; exact qAt_ok HW2.out _
      go_wp2_with fail
      refine (rq_lit X2 (quarAt 2) 2 6 10 14 B2 d2 _ z2 f2 HW2.out (quar_apart 2 (by omega)) X3 hX rfl rfl rfl rfl).mono ?_
      clear hX
      rintro e v3 ⟨B3, d3, rfl, ho, hbn⟩
      have z3 := Sl.own ho
      have f3 := own_none ho
      have g3 := g2.nx hbn
      have hb3 := next hb2 hbn
      clear ho hbn z2 f2 g2 hb2
      obtain ⟨X4, hX⟩ : ∃ X, X = qAt X3 (quarAt 3) := ⟨_, rfl⟩
      have HX4 := Lib.hid hX
      have HW4 : Hid (Wds X4) := by unfold Hid; rw [hX]; exact qAt_ok HW3.out _
      go_wp2_with fail
      refine (rq_lit X3 (quarAt 3) 3 7 11 15 B3 d3 _ z3 f3 HW3.out (quar_apart 3 (by omega)) X4 hX rfl rfl rfl rfl).mono ?_
      clear hX
      rintro e v4 ⟨B4, d4, rfl, ho, hbn⟩
      have z4 := Sl.own ho
      have f4 := own_none ho
      have g4 := g3.nx hbn
      have hb4 := next hb3 hbn
      clear ho hbn z3 f3 g3 hb3
      obtain ⟨X5, hX⟩ : ∃ X, X = qAt X4 (quarAt 4) := ⟨_, rfl⟩
      have HX5 := Lib.hid hX
      have HW5 : Hid (Wds X5) := by unfold Hid; rw [hX]; exact qAt_ok HW4.out _
      go_wp2_with fail
      refine (rq_lit X4 (quarAt 4) 0 5 10 15 B4 d4 _ z4 f4 HW4.out (quar_apart 4 (by omega)) X5 hX rfl rfl rfl rfl).mono ?_
      clear hX
      rintro e v5 ⟨B5, d5, rfl, ho, hbn⟩
      have z5 := Sl.own ho
      have f5 := own_none ho
      have g5 := g4.nx hbn
      have hb5 := next hb4 hbn
      clear ho hbn z4 f4 g4 hb4
      obtain ⟨X6, hX⟩ : ∃ X, X = qAt X5 (quarAt 5) := ⟨_, rfl⟩
      have HX6 := Lib.hid hX
      have HW6 : Hid (Wds X6) := by unfold Hid; rw [hX]; exact qAt_ok HW5.out _
      go_wp2_with fail
      refine (rq_lit X5 (quarAt 5) 1 6 11 12 B5 d5 _ z5 f5 HW5.out (quar_apart 5 (by omega)) X6 hX rfl rfl rfl rfl).mono ?_
      clear hX
      rintro e v6 ⟨B6, d6, rfl, ho, hbn⟩
      have z6 := Sl.own ho
      have f6 := own_none ho
      have g6 := g5.nx hbn
      have hb6 := next hb5 hbn
      clear ho hbn z5 f5 g5 hb5
      obtain ⟨X7, hX⟩ : ∃ X, X = qAt X6 (quarAt 6) := ⟨_, rfl⟩
      have HX7 := Lib.hid hX
      have HW7 : Hid (Wds X7) := by unfold Hid; rw [hX]; exact qAt_ok HW6.out _
      go_wp2_with fail
      refine (rq_lit X6 (quarAt 6) 2 7 8 13 B6 d6 _ z6 f6 HW6.out (quar_apart 6 (by omega)) X7 hX rfl rfl rfl rfl).mono ?_
      clear hX
      rintro e v7 ⟨B7, d7, rfl, ho, hbn⟩
      have z7 := Sl.own ho
      have f7 := own_none ho
      have g7 := g6.nx hbn
      have hb7 := next hb6 hbn
      clear ho hbn z6 f6 g6 hb6
      obtain ⟨X8, hX⟩ : ∃ X, X = qAt X7 (quarAt 7) := ⟨_, rfl⟩
      have HX8 := Lib.hid hX
      have HW8 : Hid (Wds X8) := by unfold Hid; rw [hX]; exact qAt_ok HW7.out _
      go_wp2_with fail
      refine (rq_lit X7 (quarAt 7) 3 4 9 14 B7 d7 _ z7 f7 HW7.out (quar_apart 7 (by omega)) X8 hX rfl rfl rfl rfl).mono ?_
      clear hX
      rintro e v8 ⟨B8, d8, rfl, ho, hbn⟩
      have z8 := Sl.own ho
      have f8 := own_none ho
      have g8 := g7.nx hbn
      have hb8 := next hb7 hbn
      clear ho hbn z7 f7 g7 hb7
      have HNX : Hid (X8 = rds F (k + 1)) := by
        unfold Hid
        rw [rds, ← HX0.out, quTo8, HX8.out, HX7.out, HX6.out, HX5.out, HX4.out, HX3.out, HX2.out, HX1.out]
      go_wp2
      go_roundw
      case rel => exact ⟨k + 1, _, _, by omega, by go_num, rfl, f8, by rw [← HNX.out]; exact z8, g8, hb8⟩
      case measure => simp [intOf]; omega
    · have HK : Hid (k = 10) := (by omega : k = 10)
      obtain ⟨w7, hw7⟩ : ∃ x, x = wr := ⟨wr, rfl⟩
      subst hw7
      obtain ⟨ad, rfl, hadb, hcR⟩ := z0.2 (by omega)
      obtain ⟨Z, hZ⟩ : ∃ Z, Z = sumL X0 F := ⟨_, rfl⟩
      have HX0L : Hid (X0.length = 16) := by unfold Hid; have := z0.1; rwa [us_len] at this
      have HZL : Hid (Z.length = 16) := by unfold Hid; rw [hZ, sumL_len _ _ (by rw [HX0L.out, HFL.out]), HX0L.out]
      have HOZ : Hid (O = outL Z) := by unfold Hid; rw [HO.out, cblk, blkS, ← HF.out, hZ, HX0.out, HK.out]
      have HCR := Lib.hid hcR
      have HG := Lib.hid g0
      have hbz := hb0.size
      have HZZ := Lib.hid hZ
      clear z0 hcR g0 hZ
      go_wp2
      go_loopw [10, 11] (fun v i wr => ∃ j : Nat, j ≤ 16 ∧ i = .int .i64 j ∧ wr.ownsRow w7.heap.size 5 1 v (4 * j) (cb (outL (Z.take j))) ∧ Below w7.heap.size w7 wr) (fun _ i _ => 16 - (intOf i).toNat)
      case atStart => exact ⟨0, by omega, rfl, World.ownsRow_nil _ _ _ _, Below.refl _ _⟩
      case round =>
        obtain ⟨j, hj, rfl, hown, hbel⟩ := hrel
        obtain ⟨Av, cv, rfl⟩ := own_form hown
        by_cases hjl : j < 16
        · obtain ⟨r, hr⟩ : ∃ r, r = X0.getD j 0 := ⟨_, rfl⟩
          obtain ⟨y, hy⟩ : ∃ y, y = F.getD j 0 := ⟨_, rfl⟩
          obtain ⟨z, hz⟩ : ∃ z, z = add32 r y := ⟨_, rfl⟩
          have ez := wrap32_int _ _ _ hz
          have hzl : z < 4294967296 := by rw [hz]; exact add32_lt _ _
          have HS : Hid (outL (Z.take (j + 1)) = outL (Z.take j) ++ stored z true) := by
            unfold Hid
            rw [outL_take _ _ (by rw [HZL.out]; exact hjl), HZZ.out, sumL_at _ _ _ (by rw [HX0L.out]; exact hjl) (by rw [HFL.out]; exact hjl), ← hr, ← hy, ← hz]
          obtain ⟨S, hSd⟩ : ∃ S : World → Prop, S = fun w' => Below w7.heap.size w7 w' := ⟨_, rfl⟩
          have HSI : Hid (∀ w', Below w7.heap.size w7 w' → S w') := by unfold Hid; intro w' h; rw [hSd]; exact h
          have HSR : Hid (∀ w', S w' → w'.cell? (ad.add j) = some (.int .u32 (r : Int))) := by
            unfold Hid; intro w' h; rw [hSd] at h
            rw [h.cell (by rw [add_block]; exact hadb)]
            exact HCR.out j _ (by rw [us_at (by rw [HX0L.out]; exact hjl), hr])
          have HSF : Hid (∀ w', S w' → w'.cell? ⟨gF, j, none⟩ = some (.int .u32 (y : Int))) := by
            unfold Hid; intro w' h; rw [hSd] at h
            exact (HG.out.nx h).cell0 (by rw [us_at (by rw [HFL.out]; exact hjl), hy])
          have hji : (j : Int) < 16 := by omega
          have hbd : Below w7.heap.size w7 wr.drew := hbel.drew
          have hS := HSI.out _ hbd
          have hownd : wr.drew.ownsRow w7.heap.size 5 1 (.slice Av (4 * j) cv) (4 * j) (cb (outL (Z.take j))) := hown
          clear hr hy hz hSd hown hbel
          go_wp2
          refine wp_region_held_drew (S := S) (by kernel_rfl) hS (fun _ => ?_)
          refine wpAnyH_take (i := 0) (v := (.slice Av (4 * j) cv)) rfl (by kernel_rfl) (by kernel_rfl) (by kernel_rfl) (fun _ _ _ h => h) (Or.inl ⟨by rfl, fun _ hSw => by go_simp⟩) hS ?_
          simp only [List.getElem_toArray, List.getElem_cons_succ, List.getElem_cons_zero, Act.put, List.setIfInBounds_toArray, List.set_cons_zero, List.set_cons_succ]
          refine wpAnyH_take (i := 1) (v := (.slice (some ad) 16 d0)) rfl (by kernel_rfl) (by kernel_rfl) (by kernel_rfl) (fun _ _ _ h => h) (Or.inl ⟨by rfl, fun _ hSw => by go_simp⟩) hS ?_
          simp only [List.getElem_toArray, List.getElem_cons_succ, List.getElem_cons_zero, Act.put, List.setIfInBounds_toArray, List.set_cons_zero, List.set_cons_succ]
          refine wpAnyH_take (i := 2) (v := (.int .i64 (j : Int))) rfl (by kernel_rfl) (by kernel_rfl) (by kernel_rfl) (fun _ _ _ h => h) (Or.inl ⟨by rfl, fun _ hSw => by go_simp⟩) hS ?_
          simp only [List.getElem_toArray, List.getElem_cons_succ, List.getElem_cons_zero, Act.put, List.setIfInBounds_toArray, List.set_cons_zero, List.set_cons_succ]
          refine wpAnyH_take (i := 3) (v := (.pointer (some (ad.add j)))) rfl (by kernel_rfl) (by kernel_rfl) (by kernel_rfl) (fun _ _ _ h => h) (Or.inl ⟨by rfl, fun _ hSw => by go_simp⟩) hS ?_
          simp only [List.getElem_toArray, List.getElem_cons_succ, List.getElem_cons_zero, Act.put, List.setIfInBounds_toArray, List.set_cons_zero, List.set_cons_succ]
          refine wpAnyH_take (i := 4) (v := .int .u32 (r : Int)) rfl (by kernel_rfl) (by kernel_rfl) (by kernel_rfl) (fun _ _ _ h => h) (Or.inl ⟨by rfl, fun w' hSw => by have hq := HSR.out w' hSw; go_simp⟩) hS ?_
          simp only [List.getElem_toArray, List.getElem_cons_succ, List.getElem_cons_zero, Act.put, List.setIfInBounds_toArray, List.set_cons_zero, List.set_cons_succ]
          refine wpAnyH_take (i := 5) (v := (.slice (some ⟨gF, 0, none⟩) 16 cF)) rfl (by kernel_rfl) (by kernel_rfl) (by kernel_rfl) (fun _ _ _ h => h) (Or.inl ⟨by rfl, fun _ hSw => by go_simp⟩) hS ?_
          simp only [List.getElem_toArray, List.getElem_cons_succ, List.getElem_cons_zero, Act.put, List.setIfInBounds_toArray, List.set_cons_zero, List.set_cons_succ]
          refine wpAnyH_take (i := 6) (v := (.int .i64 (j : Int))) rfl (by kernel_rfl) (by kernel_rfl) (by kernel_rfl) (fun _ _ _ h => h) (Or.inl ⟨by rfl, fun _ hSw => by go_simp⟩) hS ?_
          simp only [List.getElem_toArray, List.getElem_cons_succ, List.getElem_cons_zero, Act.put, List.setIfInBounds_toArray, List.set_cons_zero, List.set_cons_succ]
          refine wpAnyH_take (i := 7) (v := (.pointer (some ⟨gF, j, none⟩))) rfl (by kernel_rfl) (by kernel_rfl) (by kernel_rfl) (fun _ _ _ h => h) (Or.inl ⟨by rfl, fun _ hSw => by go_simp⟩) hS ?_
          simp only [List.getElem_toArray, List.getElem_cons_succ, List.getElem_cons_zero, Act.put, List.setIfInBounds_toArray, List.set_cons_zero, List.set_cons_succ]
          refine wpAnyH_take (i := 8) (v := .int .u32 (y : Int)) rfl (by kernel_rfl) (by kernel_rfl) (by kernel_rfl) (fun _ _ _ h => h) (Or.inl ⟨by rfl, fun w' hSw => by have hq := HSF.out w' hSw; go_simp⟩) hS ?_
          simp only [List.getElem_toArray, List.getElem_cons_succ, List.getElem_cons_zero, Act.put, List.setIfInBounds_toArray, List.set_cons_zero, List.set_cons_succ]
          refine wpAnyH_take (i := 9) (v := (.int .u32 (z : Int))) rfl (by kernel_rfl) (by kernel_rfl) (by kernel_rfl) (fun _ _ _ h => h) (Or.inl ⟨by rfl, fun _ hSw => by go_simp⟩) hS ?_
          simp only [List.getElem_toArray, List.getElem_cons_succ, List.getElem_cons_zero, Act.put, List.setIfInBounds_toArray, List.set_cons_zero, List.set_cons_succ]
          refine wpAnyH_ready (rs := [10]) (by kernel_rfl) (by simp) (AllReadyH.cons rfl (fun K hK => ?_) AllReadyH.nil)
          simp only [List.getElem_toArray, List.getElem_cons_succ, List.getElem_cons_zero, Act.put, List.setIfInBounds_toArray, List.set_cons_zero, List.set_cons_succ]
          go_simp
          refine (rstore_any z true _ hzl).mono ?_
          rintro e w8 ⟨A8, c8, rfl, hnew⟩
          have hown8 := own_below hownd hnew.below
          have hb8 : Below w7.heap.size w7 w8 := next hbd hnew.below
          replace hS := HSI.out _ hb8
          refine hK.out _ _ hS (fun _ => ?_)
          clear hK K hownd hbd
          have hs8 := hnew.sl
          have hn8 := hnew.none_
          have hbz8 := hb8.size
          refine wpAnyH_ready (rs := [11]) (by kernel_rfl) (by simp) (AllReadyH.cons rfl (fun K hK => ?_) AllReadyH.nil)
          simp only [List.getElem_toArray, List.getElem_cons_succ, List.getElem_cons_zero, Act.put, List.setIfInBounds_toArray, List.set_cons_zero, List.set_cons_succ]
          rw [if_pos (by rfl)]
          refine wp_append_sl _ _ 22 rfl w7.heap.size 5 j0 (.int .u8 0) 1 Tryd.underlying22 hj' hy0 hy1 hy2 rfl _ (4 * j) _ rfl hown8 _ A8 4 c8 (cb (stored z true)) rfl hs8 hn8 (cb_one _) (by unfold maxLen; omega) (by omega) hbz8 ?_
          intro v9 w9 hown9 hgrow9 hat9
          have hb9 : Below w7.heap.size w7 w9 := below_app hb8 (Nat.le_refl _) hown8 hgrow9
          rw [← cb_append, ← HS.out] at hown9
          have HO9 := Lib.hid hown9
          replace hS := HSI.out _ hb9
          refine hK.out _ _ hS (fun _ => ?_)
          clear hK K hown8 hgrow9 hs8 hown9 hnew hb8 hat9
          simp only [List.getElem_toArray, List.getElem_cons_succ, List.getElem_cons_zero, Act.put, List.setIfInBounds_toArray, List.set_cons_zero, List.set_cons_succ]
          refine wpAnyH_take (i := 12) (v := (v9)) rfl (by kernel_rfl) (by kernel_rfl) (by kernel_rfl) (fun _ _ _ h => h) (Or.inl ⟨by rfl, fun _ hSw => by go_simp⟩) hS ?_
          simp only [List.getElem_toArray, List.getElem_cons_succ, List.getElem_cons_zero, Act.put, List.setIfInBounds_toArray, List.set_cons_zero, List.set_cons_succ]
          refine wpAnyH_done (by kernel_rfl) ?_ _
          go_wp2
          go_roundw
          case rel => exact ⟨j + 1, by omega, by go_num, by rw [show 4 * (j + 1) = 4 * j + 4 by omega]; exact HO9.out, hb9⟩
          case measure => simp [intOf]; omega
        · have HJ : Hid (j = 16) := (by omega : j = 16)
          go_wp2
          go_ret
          exact retBytes (by rw [HJ.out]) (by rw [HJ.out, List.take_of_length_le (by rw [HZL.out]; omega), HOZ.out]) (own_down hown (by omega)) (hb0.trans (hbel.mono hbz))

end Go.Proofs.YtnhpamfmbledmaaDoor
