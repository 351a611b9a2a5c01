/- Layer 11, keyfile: the law's own rings. -/
import Derived.Test.YtlnoopmblmkgkaaGreatDoorKefW
import Derived.Test.YtlnoopmblmkgkaaGreatDoorLabW
import Derived.Test.YtlnoopmblmkgkaaGreatDoorKA
import Derived.Test.YtlnoopmblmkgkaaGreatDoorLW
namespace Go.Proofs.YtlnoopmblmkgkaaGreatDoor
set_option maxRecDepth 100000
open Go Go.RowKit
set_option linter.unusedVariables false
set_option linter.unusedSimpArgs false

theorem size_mast : (Tryz.prog.info? 63).map (·.size) = some 2 := by kernel_rfl
def masZ : List Value := [.int .i64 0, .slice none 0 0]
theorem zero_mast : (Tryz.prog.info? 63).map (·.zero) = some (some (.agg masZ.toArray)) := by kernel_rfl
def masC (e : Int) (K : Option Addr) (k d : Nat) : List Value := [.int .i64 e, .slice K k d]
theorem masC_one (e : Int) (K : Option Addr) (k d : Nat) : ∀ v ∈ masC e K k d, v.oneCell' = true := by
  intro v hv
  simp only [masC, List.mem_cons, List.not_mem_nil, or_false] at hv
  rcases hv with rfl | rfl <;> rfl
theorem masC_at {w : World} {p : Addr} {e : Int} {K : Option Addr} {k d : Nat} (h0 : w.cell? p = some (.int .i64 e)) (h1 : w.cell? (p.add 1) = some (.slice K k d)) : ∀ j v, (masC e K k d)[j]? = some v → w.cell? (p.add j) = some v := by
  intro j v hv
  match j, hv with
  | 0, hv => simp only [masC, List.getElem?_cons_zero, Option.some.injEq] at hv; rw [← hv, add_none]; exact h0
  | 1, hv => simp only [masC, List.getElem?_cons_succ, List.getElem?_cons_zero, Option.some.injEq] at hv; rw [← hv]; exact h1
  | j + 2, hv => simp [masC] at hv

theorem size_ring11 : (Tryz.prog.info? 30).map (·.size) = some 1 := by kernel_rfl
theorem results_tmp_cell2 {fn : Func} {t p : Tmp} {ty : TypeId} (h : fn.results = #[.tmp t, .cell p ty]) (tmps : Array Value) (P : Program) (w : World) :
    (results fn tmps).run P w =
      ((asAddr (tmps.getD p undef)).run P w).andThen fun a w₁ => ((loadVar ty a).run P w₁).andThen fun x w₂ => .ok (.tuple #[tmps.getD t undef, x]) w₂ := by
  simp only [results, h]
  simp [Sem.run_bind, Result.andThen]
theorem ret_tmp_row {P : Program} {fn : Func} {R : Ending → World → Prop} {a : Act} {w : World} {t0 p : Tmp} {ty : TypeId} {g : Nat} {cs : List Value} {t : TypeId} {d : TypeDesc} (hres : fn.results = #[.tmp t0, .cell p ty])
    (hp : a.tmps.getD p undef = .pointer (some ⟨g, 0, none⟩)) (hb : Bl w g cs t) (hu : P.underlying ty = some d) (hd : d.isRow = true) (hi : (P.info? ty).map (·.size) = some cs.length)
    (hdf : a.defers = []) (hR : R (.returned (.tuple #[a.tmps.getD t0 undef, .agg cs.toArray])) w) : bodyPost P fn R .ret a w := by
  refine bodyPost_ret ?_ hdf hR
  rw [results_tmp_cell2 hres, hp]
  simp only [asAddr, Sem.run_pure, Result.andThen_ok]
  rw [run_loadVar_mid w g 0 ty cs d hb.whole hu hd hi]
  rfl
/-- The result's own variable is no part of the document's ring. -/
def OffR (wr : World) (gr gq : Nat) (m : RM) : Prop := ∀ A n c, wr.cell? ⟨gq, 0, none⟩ = some (.slice A n c) → Off gr (m.length * 2) A

/-- What rings tells: both rings. -/
def RingsPost (w : World) (mn : Nat) (e : Ending) (w' : World) : Prop := ∃ g A n c m, e = .returned (.tuple #[.pointer (some ⟨g, 0, none⟩), .agg #[.slice A n c]]) ∧ Rg w' w'.heap.size g m ∧ Rr w' w.heap.size A n c m ∧ m.length ≤ mn ∧ w.heap.size ≤ g ∧ Below w.heap.size w w'

set_option maxHeartbeats 4000000 in
theorem rings_any (A0 : Option Addr) (n0 c0 : Nat) (A1 : Option Addr) (n1 c1 : Nat) (r nu : Int) (M : Option Addr) (mn mc : Nat) (ms : List (Int × List UInt8)) (A5 : Option Addr) (n5 c5 : Nat) (x y : Int) (w : World) (hM : InPairs w M mn mc ms) (hmn : mn ≤ 10) :
    Calls Tryz.prog 11 #[.agg (kaC A0 n0 c0 A1 n1 c1 r nu M mn mc A5 n5 c5 x y).toArray] w (RingsPost w mn) := by
  obtain ⟨W0, HW0, b0, hb0, hsz0⟩ := put_f w (kaC A0 n0 c0 A1 n1 c1 r nu M mn mc A5 n5 c5 x y) 26
  have br := Bl.newA W0 #[.slice none 0 0] 30
  have hbr : Below W0.heap.size W0 (W0.alloc (.cells #[.slice none 0 0] 30)) := (Below.refl _ W0).alloc (Nat.le_refl _) _
  obtain ⟨W1, hW1⟩ : ∃ W, W = W0.alloc (.cells #[.slice none 0 0] 30) := ⟨_, rfl⟩
  rw [← hW1] at br hbr
  have HW1 : Hid (W0.alloc (.cells #[.slice none 0 0] 30) = W1) := hW1.symm
  obtain ⟨gr, hgr⟩ : ∃ g, g = W0.heap.size := ⟨_, rfl⟩
  have hwr : w.heap.size < gr := by rw [hgr]; exact b0.lt
  have HGR : Hid (W0.heap.size = gr) := hgr.symm
  rw [← hgr] at br
  have hb1 := next hb0 hbr
  have q4 : W1.cell? ⟨w.heap.size, 4, none⟩ = some (.slice M mn mc) := (b0.next hbr).cell 4
  have hrlt := br.lt
  have HAT := Lib.hid hM.at_
  have HLEN := Lib.hid hM.len
  have hbA := b0.next hbr
  clear hW1 hgr hsz0 hb0 hbr b0 hM
  go_enter Tryz.func11, Tryz.ntmps11
  go_wp2_with (first
    | (refine wpList_box_agg rfl 26 _ rfl (kaC A0 n0 c0 A1 n1 c1 r nu M mn mc A5 n5 c5 x y) rfl ?_; rw [HW0.out])
    | (rw [HW1.out, HGR.out])
    | (go_at_call 28; refine (lnew_any W1).mono ?_; rintro e w2 ⟨rfl, r2, hb2⟩; have c42 : (w2.alloc (.cells #[.slice none 0 0] 30)).cell? ⟨w.heap.size, 4, none⟩ = some (.slice M mn mc) := ((hbA.next hb2).alloc _).cell 4)
    | fail)
  obtain ⟨g, hg⟩ : ∃ g, g = W1.heap.size := ⟨_, rfl⟩
  obtain ⟨gq, hgq⟩ : ∃ g, g = w2.heap.size := ⟨_, rfl⟩
  have hrg : gr < g := by omega
  have hgq2 : g < gq := by rw [hgq, hg]; exact r2.lt
  rw [← hg] at r2
  have hb2w := next hb1 hb2
  have br2 := br.next hb2
  have hbn : Below w2.heap.size w2 (w2.alloc (.cells #[.slice none 0 0] 30)) := (Below.refl _ w2).alloc (Nat.le_refl _) _
  have I0 : RInv w g gq (w2.alloc (.cells #[.slice none 0 0] 30)) [] :=
    ⟨(r2.next hbn).up hbn.size, ⟨none, 0, 0, by rw [hgq]; exact Bl.newA w2 #[.slice none 0 0] _, rr_nil _ _, fun h => absurd h (by simp), fun h => absurd h (by simp)⟩, next hb2w hbn⟩
  have br3 : Bl (w2.alloc (.cells #[.slice none 0 0] 30)) gr [.slice none 0 0] 30 := br2.next hbn
  obtain ⟨W3, hW3⟩ : ∃ W, W = w2.alloc (.cells #[.slice none 0 0] 30) := ⟨_, rfl⟩
  rw [← hW3] at I0 br3
  try rw [← hW3]
  try rw [← hg]
  try rw [← hgq]
  clear hg hgq r2 hb2 hb2w br2 hbn hW3 br hb1 hbA c42 q4
  go_loopw [13] (fun i wr => ∃ (k : Nat) (m : RM), k ≤ mn ∧ i = .int .i64 k ∧ m.length ≤ k ∧ RInv w g gq wr m ∧ Bl wr gr [.slice none 0 0] 30 ∧ OffR wr gr gq m) (fun i _ => mn - (Go.RowKit.intOf i).toNat)
  case atStart => exact ⟨0, [], by omega, rfl, Nat.le_refl _, I0, br3, fun _ _ _ _ h => absurd h (by simp)⟩
  case round =>
    obtain ⟨k, m, hk, rfl, hml, I, brr, ofr⟩ := hrel
    by_cases hlt : (k : Int) < (mn : Int)
    · have hkd : k < ms.length := by have := HLEN.out; omega
      obtain ⟨ad, rfl, hat⟩ := HAT.out k hkd
      have hbw := I.2.2
      have hat2 := hat.below hbw
      obtain ⟨x9, hx⟩ : ∃ x, x = ms[k] := ⟨_, rfl⟩
      rw [← hx] at hat2
      obtain ⟨e, ml⟩ := x9
      obtain ⟨hwf, hpl, Kx, kc, q0, q1, hks, hkc, hkz, hkr⟩ := hat2
      simp only at hwf q0 q1 hks hkc
      obtain ⟨kn, hkn⟩ : ∃ n, n = ml.length := ⟨_, rfl⟩
      rw [← hkn] at q1 hks hkc
      have hkb : kn ≤ 140737488351232 := Nat.le_trans hkc (by omega)
      have hone := masC_one e Kx kn kc
      have hcc := masC_at q0 q1
      obtain ⟨b5, hb5, hs5⟩ := put_new wr masZ (masC e Kx kn kc) 63 rfl
      have ht5 : (wr.alloc (.cells masZ.toArray 63)).there wr.heap.size 0 (masC e Kx kn kc).toArray.size := (Bl.new wr masZ 63).there_ (by simp [masC, masZ])
      obtain ⟨W5, hW5⟩ : ∃ W, W = (wr.alloc (.cells masZ.toArray 63)).setCells wr.heap.size 0 (masC e Kx kn kc) := ⟨_, rfl⟩
      rw [← hW5] at b5 hb5
      have HW5 := Lib.hid hW5
      have hggd := I.1.lt
      obtain ⟨A, n, c, hq⟩ := I.2.1
      have hqgd := hq.1.lt
      have o0 := ofr A n c (hq.1.cell 0)
      have hq5 := hq.next hbw.size hb5
      have I5 := I.next hb5
      have hb5w := I5.2.2
      have br5 := brr.next hb5
      obtain ⟨gd, hgd⟩ : ∃ gd, gd = wr.heap.size := ⟨_, rfl⟩
      rw [← hgd] at b5 hggd hqgd
      have HGD := Lib.hid hgd.symm
      have hms5 : Sl W5 w.heap.size Kx kn (cb ml) := hks.below (hb5.mono hbw.size)
      have HONE := Lib.hid hone
      have HCC := Lib.hid hcc
      have r5 := I5.1
      have ok := I5.1.2.1
      obtain ⟨m', hm'⟩ : ∃ x, x = putM m e ml := ⟨_, rfl⟩
      obtain ⟨E, hE⟩ : ∃ x, x = putE m e ml := ⟨_, rfl⟩
      have HM : Hid (putM m e ml = m') := hm'.symm
      have HE : Hid (putE m e ml = E) := hE.symm
      have hml' : m'.length ≤ k + 1 := by rw [hm']; exact Nat.le_trans (putM_len _ _ _) (by omega)
      have hwq : w.heap.size ≤ gq := by omega
      have hwg : w.heap.size ≤ g := by omega
      have hne : g ≠ gq := by omega
      have hgrq : gr ≠ gq := by omega
      have hgrg : gr ≠ g := by omega
      clear hx hat hkn q0 q1 hW5 I hks hs5 hgd hone hcc hb5 hq hm' hE I5 brr ofr
      go_wp2_with (first
        | (refine wpList_load_at rfl 63 _ rfl (ad.add (k * 2)) rfl (masC e Kx kn kc) _ HCC.out Tryz.underlying63 rfl size_mast ?_)
        | (refine wpList_alloc_zero rfl 63 rfl masZ zero_mast ?_)
        | (refine wpList_store_mid rfl 63 _ _ rfl _ _ (masC e Kx kn kc).toArray rfl rfl ht5 size_mast (all_oneCell_toArray HONE.out) ?_; rw [← HW5.out, HGD.out])
        | fail)
      obtain ⟨S, hSd⟩ : ∃ S : World → Prop, S = fun w' => w'.cell? ⟨gd, 0, none⟩ = some (.int .i64 e) ∧ w'.cell? ⟨gd, 1, none⟩ = some (.slice Kx kn kc) := ⟨_, rfl⟩
      have HS0 : Hid (∀ w', S w' → w'.cell? ⟨gd, 0, none⟩ = some (.int .i64 e)) := by unfold Hid; intro w' h; rw [hSd] at h; exact h.1
      have HS1 : Hid (∀ w', S w' → w'.cell? ⟨gd, 1, none⟩ = some (.slice Kx kn kc)) := by unfold Hid; intro w' h; rw [hSd] at h; exact h.2
      have HSI : Hid (∀ w', Bl w' gd (masC e Kx kn kc) 63 → S w') := by unfold Hid; intro w' hb; rw [hSd]; exact ⟨hb.cell 0, hb.cell 1⟩
      obtain ⟨W6, hW6⟩ : ∃ W', W' = W5.drew := ⟨_, rfl⟩
      have hbd : Below W5.heap.size W5 W6 := by rw [hW6]; exact (Below.refl _ W5).drew
      have b6 := b5.next hbd
      have hq6 := hq5.next hb5w.size hbd
      have r6 := (r5.next hbd).up hbd.size
      have br6 := br5.next hbd
      have hms6 := hms5.below (hbd.mono hb5w.size)
      have hb6w := next hb5w hbd
      have hS := HSI.out _ b6
      clear hSd b5 hq5 r5 br5 hms5 hb5w
      refine wp_region_held_drew (S := S) (by kernel_rfl) (by rw [← hW6]; exact hS) (fun _ => ?_)
      rw [← hW6]
      clear hW6 hbd
      refine wpAnyH_take (i := 0) (v := (.pointer (some ⟨g, 0, none⟩))) rfl (by kernel_rfl) (by kernel_rfl) (by kernel_rfl) (fun _ _ _ h => h) (Or.inl ⟨by rfl, fun _ hSw => by go_simp⟩) hS ?_
      simp only [List.getElem_toArray, List.getElem_cons_succ, List.getElem_cons_zero, Act.put, List.setIfInBounds_toArray, List.set_cons_zero, List.set_cons_succ]
      refine wpAnyH_take (i := 1) (v := (.pointer (some ⟨gd, 0, none⟩))) rfl (by kernel_rfl) (by kernel_rfl) (by kernel_rfl) (fun _ _ _ h => h) (Or.inl ⟨by rfl, fun _ hSw => by go_simp⟩) hS ?_
      simp only [List.getElem_toArray, List.getElem_cons_succ, List.getElem_cons_zero, Act.put, List.setIfInBounds_toArray, List.set_cons_zero, List.set_cons_succ]
      refine wpAnyH_take (i := 2) (v := (.int .i64 e)) rfl (by kernel_rfl) (by kernel_rfl) (by kernel_rfl) (fun _ _ _ h => h) (Or.inl ⟨by rfl, fun w' hSw => by have hq := HS0.out w' hSw; go_simp⟩) hS ?_
      simp only [List.getElem_toArray, List.getElem_cons_succ, List.getElem_cons_zero, Act.put, List.setIfInBounds_toArray, List.set_cons_zero, List.set_cons_succ]
      refine wpAnyH_take (i := 3) (v := (.pointer (some ⟨gd, 1, none⟩))) rfl (by kernel_rfl) (by kernel_rfl) (by kernel_rfl) (fun _ _ _ h => h) (Or.inl ⟨by rfl, fun _ hSw => by go_simp⟩) hS ?_
      simp only [List.getElem_toArray, List.getElem_cons_succ, List.getElem_cons_zero, Act.put, List.setIfInBounds_toArray, List.set_cons_zero, List.set_cons_succ]
      refine wpAnyH_take (i := 4) (v := (.slice Kx kn kc)) rfl (by kernel_rfl) (by kernel_rfl) (by kernel_rfl) (fun _ _ _ h => h) (Or.inl ⟨by rfl, fun w' hSw => by have hq := HS1.out w' hSw; go_simp⟩) hS ?_
      simp only [List.getElem_toArray, List.getElem_cons_succ, List.getElem_cons_zero, Act.put, List.setIfInBounds_toArray, List.set_cons_zero, List.set_cons_succ]
      refine wpAnyH_ready (rs := [5]) (by kernel_rfl) (by simp) (AllReadyH.cons rfl (fun K hK => ?_) AllReadyH.nil)
      simp only [List.getElem_toArray, List.getElem_cons_succ, List.getElem_cons_zero, Act.put, List.setIfInBounds_toArray, List.set_cons_zero, List.set_cons_succ]
      go_simp
      refine (own_any ml W6 w.heap.size Kx kn kc hms6 hkz (by omega) hb6w.size).mono ?_
      rintro r w7 ⟨X, cx, rfl, x7⟩
      have b7 := b6.next x7.below
      have hq7 := hq6.next hb6w.size x7.below
      have r7 := (r6.next x7.below).up x7.below.size
      have br7 := br6.next x7.below
      have hms7 := hms6.below (x7.below.mono hb6w.size)
      have hb7w := next hb6w x7.below
      replace hS := HSI.out _ b7
      refine hK.out _ _ hS (fun _ => ?_)
      clear hK K b6 hq6 r6 br6 hms6 hb6w
      refine wpAnyH_ready (rs := [6]) (by kernel_rfl) (by simp) (AllReadyH.cons rfl (fun K hK => ?_) AllReadyH.nil)
      simp only [List.getElem_toArray, List.getElem_cons_succ, List.getElem_cons_zero, Act.put, List.setIfInBounds_toArray, List.set_cons_zero, List.set_cons_succ]
      go_simp
      refine (lput_any g w7.heap.size m (by omega) e ml w7 r7 X kn cx x7.sl (own_cap x7.own) (Nat.le_refl _)).mono ?_
      rintro r w8 ⟨rfl, r8, gr8⟩
      rw [HE.out]
      rw [HM.out] at r8
      have hq8 := hq7.put hb7w.size gr8 hwg hne
      have b8 := b7.grown gr8 (fun e => by injection e with e; omega)
      have br8 := br7.grown gr8 (fun e => by injection e with e; omega)
      have hb8w := below_but hb7w gr8 hb7w.size hwg
      have hms8 := sl_but hms7 gr8 hb7w.size hwg
      replace hS := HSI.out _ b8
      refine hK.out _ _ hS (fun _ => ?_)
      clear hK K b7 hq7 r7 br7 hms7 hb7w gr8 x7
      refine wpAnyH_done (by kernel_rfl) ?_ _
      have hcq8 : w8.cell? ⟨gq, 0, none⟩ = some (.slice A n c) := hq8.1.cell 0
      have d08 : w8.cell? ⟨gd, 0, none⟩ = some (.int .i64 e) := b8.cell 0
      have d18 : w8.cell? ⟨gd, 1, none⟩ = some (.slice Kx kn kc) := b8.cell 1
      have hg8 := r8.lt
      have hgq8 := hq8.1.lt
      clear hS HS0 HS1 HSI
      go_wp2_with fail
      refine (rput_any m ok (by omega) e ml w8 w.heap.size A n c hq8.2.1 hb8w.size Kx kn kc hms8 hkc).mono ?_
      rintro r w9 ⟨A', n', c', rfl, rr9, off9, hb9⟩
      rw [HE.out]
      rw [HM.out] at rr9 off9
      have r9 := (r8.next hb9).up hb9.size
      have bq9 := hq8.1.next hb9
      have o1 := off9 g hg8 hq8.2.2.1
      have o2 := off9 gq hgq8 hq8.2.2.2
      have o3 := off9 gr br8.lt o0
      have hb9w := next hb8w hb9
      have br9 := br8.next hb9
      have hcq9 : w9.cell? ⟨gq, 0, none⟩ = some (.slice A n c) := bq9.cell 0
      have hfq9 := bq9.frozen 0
      obtain ⟨r10, q10⟩ := rq_set r9 bq9 rr9 o1 o2 hb9w hwq hne
      have hb10 : Below w.heap.size w (w9.setCell ⟨gq, 0, none⟩ (.slice A' n' c')) := hb9w.setCell hwq _
      have br10 : Bl (w9.setCell ⟨gq, 0, none⟩ (.slice A' n' c')) gr [.slice none 0 0] 30 := br9.set_other ⟨gq, 0, none⟩ (.slice A' n' c') hgrq
      obtain ⟨W10, hW10⟩ : ∃ W, W = w9.setCell ⟨gq, 0, none⟩ (.slice A' n' c') := ⟨_, rfl⟩
      rw [← hW10] at r10 q10 hb10 br10
      have of10 : OffR W10 gr gq m' := fun A2 n2 c2 h => by
        have h2 : W10.cell? ⟨gq, 0, none⟩ = some (.slice A' n' c') := q10.1.cell 0
        rw [h] at h2
        injection h2 with h2
        injection h2 with h2
        rw [h2]; exact o3
      have I10 : RInv w g gq W10 m' := ⟨r10, ⟨A', n', c', q10⟩, hb10⟩
      have HW10 : Hid (w9.setCell ⟨gq, 0, none⟩ (.slice A' n' c') = W10) := hW10.symm
      clear hW10 r9 bq9 rr9 o0 o1 o2 o3 r10 q10 hb10 hb9w br9 r8 hq8 b8 br8 hb8w hms8 d08 d18 hcq8 off9 hb9 hg8 hgq8
      go_wp2_with (rw [HW10.out])
      go_roundw
      case rel => exact ⟨k + 1, m', by omega, by go_num, hml', I10, br10, of10⟩
      case measure => simp [Go.RowKit.intOf]; omega
    · obtain ⟨rg, ⟨A, n, c, hq⟩, hbw⟩ := I
      have hmm : m.length ≤ mn := by omega
      have hwg : w.heap.size ≤ g := by omega
      have hrq : gr ≠ gq := by omega
      have hgrg : gr ≠ g := by omega
      have hwr' : w.heap.size ≤ gr := by omega
      have o0 := ofr A n c (hq.1.cell 0)
      clear ofr
      go_wp2_with fail
      obtain ⟨S, hSd⟩ : ∃ S : World → Prop, S = fun w' => w'.cell? ⟨gq, 0, none⟩ = some (.slice A n c) := ⟨_, rfl⟩
      have HS0 : Hid (∀ w', S w' → w'.cell? ⟨gq, 0, none⟩ = some (.slice A n c)) := by unfold Hid; intro w' h; rw [hSd] at h; exact h
      have HSI : Hid (∀ w', Bl w' gq [.slice A n c] 30 → S w') := by unfold Hid; intro w' hb; rw [hSd]; exact hb.cell 0
      obtain ⟨W6, hW6⟩ : ∃ W', W' = wr.drew := ⟨_, rfl⟩
      have hbd : Below wr.heap.size wr W6 := by rw [hW6]; exact (Below.refl _ wr).drew
      have hq6 := hq.next hbw.size hbd
      have r6 := (rg.next hbd).up hbd.size
      have br6 := brr.next hbd
      have hb6w := next hbw hbd
      have hS := HSI.out _ hq6.1
      clear hSd hq rg brr
      refine wp_region_held_drew (S := S) (by kernel_rfl) (by rw [← hW6]; exact hS) (fun _ => ?_)
      rw [← hW6]
      clear hW6 hbd hbw
      refine wpAnyH_take (i := 0) (v := (.pointer (some ⟨g, 0, none⟩))) rfl (by kernel_rfl) (by kernel_rfl) (by kernel_rfl) (fun _ _ _ h => h) (Or.inl ⟨by rfl, fun _ hSw => by go_simp⟩) hS ?_
      simp only [List.getElem_toArray, List.getElem_cons_succ, List.getElem_cons_zero, Act.put, List.setIfInBounds_toArray, List.set_cons_zero, List.set_cons_succ]
      refine wpAnyH_take (i := 1) (v := (.agg #[.slice A n c])) rfl (by kernel_rfl) (by kernel_rfl) (by kernel_rfl) (fun _ _ _ h => h) (Or.inl ⟨by rfl, fun w' hSw => by have hq := HS0.out w' hSw; go_simp⟩) hS ?_
      simp only [List.getElem_toArray, List.getElem_cons_succ, List.getElem_cons_zero, Act.put, List.setIfInBounds_toArray, List.set_cons_zero, List.set_cons_succ]
      refine wpAnyH_take (i := 2) (v := (.pointer (some ⟨g, 0, none⟩))) rfl (by kernel_rfl) (by kernel_rfl) (by kernel_rfl) (fun _ _ _ h => h) (Or.inl ⟨by rfl, fun _ hSw => by go_simp⟩) hS ?_
      simp only [List.getElem_toArray, List.getElem_cons_succ, List.getElem_cons_zero, Act.put, List.setIfInBounds_toArray, List.set_cons_zero, List.set_cons_succ]
      refine wpAnyH_ready (rs := [3]) (by kernel_rfl) (by simp) (AllReadyH.cons rfl (fun K hK => ?_) AllReadyH.nil)
      simp only [List.getElem_toArray, List.getElem_cons_succ, List.getElem_cons_zero, Act.put, List.setIfInBounds_toArray, List.set_cons_zero, List.set_cons_succ]
      rw [if_pos (by rfl)]
      refine wp_store_mid 30 _ _ rfl _ _ #[.slice A n c] rfl rfl (br6.there_ (by simp)) size_ring11 (all_oneCell_toArray (by intro v hv; rw [List.mem_singleton.1 hv]; rfl)) ?_
      have hgb : W6.grownBy (W6.setCells gr 0 [.slice A n c]) (some gr) := but_setCells (but_refl W6 _) 0 _
      have bf : Bl (W6.setCells gr 0 [.slice A n c]) gr [.slice A n c] 30 := br6.over (vs := [.slice A n c]) rfl
      have rf := (r6.other br6 hgrg hgb).up hgb.size
      have qf := hq6.2.1.row hgb hb6w.size hwr' o0
      have hbf := below_setCells hb6w hwr' 0 [.slice A n c]
      have hqf : Bl (W6.setCells gr 0 [.slice A n c]) gq [.slice A n c] 30 := hq6.1.grown hgb (fun e => hrq (Option.some.inj e))
      replace hS := HSI.out _ hqf
      refine hK.out _ _ hS (fun _ => ?_)
      clear hK K
      refine wpAnyH_done (by kernel_rfl) ?_ _
      go_wp2
      exact ret_tmp_row Tryz.results11 rfl bf Tryz.underlying30 rfl size_ring11 rfl ⟨g, A, n, c, m, rfl, rf, qf, hmm, hwg, hbf⟩

end Go.Proofs.YtlnoopmblmkgkaaGreatDoor
