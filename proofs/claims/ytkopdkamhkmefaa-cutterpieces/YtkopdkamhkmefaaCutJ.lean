/- Package cutter: Pieces, Lengths. -/
import Derived.Test.YtkopdkamhkmefaaCutI
namespace Go.Proofs.Ytkopdkamhkmefaa
set_option maxRecDepth 100000
open Go Go.RowKit
set_option linter.unusedVariables false
set_option linter.unusedSimpArgs false
attribute [local go_sem] Oper.semAt_some

/-- What Pieces gives: the iterator, with the cut and a copy of the bytes in new boxes. -/
def RetPieces (w : World) (p k : Nat) (mn mx : Int) (l : List UInt8) (n : Nat) (e : Ending) (w' : World) : Prop := ∃ gc gb X d, e = .returned (.func (.func 25) #[] #[.pointer (some ⟨gc, 0, none⟩), .pointer (some ⟨gb, 0, none⟩)]) ∧ w.heap.size ≤ gc ∧ gc < gb ∧ Bl w' gc (cutC p k mn mx) 24 ∧ Bl w' gb [.slice X n d] 25 ∧ w'.ownsRow w.heap.size 5 1 (.slice X n d) n (cb l) ∧ Below w.heap.size w w'

theorem cpieces_bad (p k : Nat) (mn mx : Int) (A : Option Addr) (n c : Nat) (w : World) (hp : p < 18446744073709551616) (h : cutOk p mn mx = false) :
    Calls Try.prog 15 #[.agg (cutC p k mn mx).toArray, .slice A n c] w fun e w' => e = .returned (.func (.func 23) #[] #[]) ∧ Below w.heap.size w w' := by
  obtain ⟨W0, HW0, b0, hb0, hs0⟩ := put_f w (cutC p k mn mx) 24
  have HR := Lib.hid (cright_any p k mn mx W0 hp)
  rw [h] at HR
  clear hs0 h
  go_enter Try.func15, Try.ntmps15
  go_wp2_with (first
    | (refine wpList_box_agg rfl 24 _ rfl (cutC p k mn mx) rfl ?_; rw [HW0.out])
    | (refine wpList_load_mid rfl 24 _ rfl w.heap.size 0 rfl (cutC p k mn mx) _ b0.whole Try.underlying24 rfl size_cut ?_)
    | fail)
  refine HR.out.mono ?_
  rintro e w1 ⟨rfl, hb1⟩
  go_wp2
  go_ret
  exact ⟨rfl, next hb0 hb1⟩

set_option maxHeartbeats 1000000 in
theorem cpieces_ok (p k : Nat) (mn mx : Int) (l : List UInt8) (A : Option Addr) (n c : Nat) (w : World) (hs : By w A n c l) (hn : n ≤ 2000000) (hp : p < 18446744073709551616) (h : cutOk p mn mx = true) :
    Calls Try.prog 15 #[.agg (cutC p k mn mx).toArray, .slice A n c] w (RetPieces w p k mn mx l n) := by
  obtain ⟨W0, HW0, b0, hb0, hs0⟩ := put_f w (cutC p k mn mx) 24
  have HR := Lib.hid (cright_any p k mn mx W0 hp)
  rw [h] at HR
  have y0 := hs.nx hb0
  clear hs0 h hs
  go_enter Try.func15, Try.ntmps15
  go_wp2_with (first
    | (refine wpList_box_agg rfl 24 _ rfl (cutC p k mn mx) rfl ?_; rw [HW0.out])
    | (refine wpList_load_mid rfl 24 _ rfl w.heap.size 0 rfl (cutC p k mn mx) _ b0.whole Try.underlying24 rfl size_cut ?_)
    | fail)
  refine HR.out.mono ?_
  rintro e w1 ⟨rfl, hb1⟩
  have b1 := b0.next hb1
  have y1 := y0.nx hb1
  have d1 := next hb0 hb1
  clear b0 y0 hb0 hb1 HR
  go_wp2_with fail
  refine (bclone_any l w1 w1.heap.size A n c y1.sl y1.none_ y1.cap (by omega) (Nat.le_refl _)).mono ?_
  rintro e w2 ⟨X, d, rfl, hx⟩
  have b2 := b1.next hx.below
  have own2 := hx.own
  have d2 := next d1 hx.below
  have hs1 := d1.size
  have hs2 := hx.below.size
  have hg1 := b1.lt
  clear hx b1 y1 d1
  go_wp2
  go_ret
  have D : Below w2.heap.size w2 (w2.alloc (.cells #[.slice X n d] 25)) := (Below.refl _ w2).alloc (Nat.le_refl _) _
  exact ⟨w.heap.size, w2.heap.size, X, d, rfl, Nat.le_refl _, by omega, b2.next D, Bl.new w2 _ _, own_down (own_below own2 D) (by omega), next d2 D⟩

/-- What Lengths holds between two rounds. -/
structure LenI (w : World) (e0 gl B0 : Nat) (pre : List (Nat × Nat × Option Addr × Nat)) (W : World) : Prop where
  row : ∃ A c, Bl W gl [.slice A pre.length c] 28 ∧ W.ownsRow e0 3 1 (.slice A pre.length c) pre.length (is (pre.map fun x => x.2.1)) ∧ ∀ j, (Value.slice A pre.length c).ownBlock = some j → j = e0 ∨ B0 ≤ j
  below : Below w.heap.size w W
  size : B0 ≤ W.heap.size
theorem lenI_lax {w : World} {e0 gl B0 B : Nat} (h1 : gl < B) (h2 : w.heap.size ≤ B) : LaxFrom PcT B (LenI w e0 gl B0) := fun s A A' h hl => by /- 58 -/
  obtain ⟨a, c, hb, ho, hh⟩ := h.row
  exact ⟨⟨a, c, hl.bl hb (.inl h1), hl.own ho (by unfold PcT; decide), hh⟩, hl.below h.below h2, Nat.le_trans h.size hl.size⟩

theorem grown_none {a b : World} (h : Below a.heap.size a b) : a.grownBy b none := ⟨h.os, h.tape, h.output, h.size, fun i hi _ => h.block i hi⟩

/-- What Lengths tells: the list L in new memory, the error E. -/
def LensPost (w : World) (L : List Nat) (E : Int) (e : Ending) (w' : World) : Prop := ∃ X cx, e = .returned (.tuple #[.slice X L.length cx, .int .i64 E]) ∧ w'.ownsRow w.heap.size 3 1 (.slice X L.length cx) L.length (is L) ∧ Below w.heap.size w w'

set_option maxRecDepth 100000 in
set_option maxHeartbeats 4000000 in
theorem clens_ok (p k mn mx d : Nat) (l : List UInt8) (w : World) (A : Option Addr) (n c : Nat) (h : By w A n c l) (hn : n ≤ 2000000) (hp : p < 18446744073709551616) (hk : k < 18446744073709551616) (hd : Deg p d) (hok : cutOk p (mn : Int) (mx : Int) = true) :
    Calls Try.prog 10 #[.agg (cutC p k (mn : Int) (mx : Int)).toArray, .slice A n c] w (LensPost w (cutL p d k mn mx l) 0) := by
  obtain ⟨W0, HW0, b0, hb0, hs0⟩ := put_f w (cutC p k (mn : Int) (mx : Int)) 24
  obtain ⟨i0, hi, hz0, hz1, hz2⟩ := info_parts int_inf
  have HR := Lib.hid (cright_any p k (mn : Int) (mx : Int) W0 hp)
  rw [hok] at HR
  have HOK := Lib.hid hok
  have HD := Lib.hid hd
  obtain ⟨L, hL⟩ : ∃ L, L = cutL p d k mn mx l := ⟨_, rfl⟩
  rw [← hL]
  have HL := Lib.hid hL
  clear hok hd hL
  refine callsIn_wide.1 (callsIn_of_wp_marks (n := 3) Try.func10 rfl trivial (wpIn_wide.2 ?_) rfl)
  simp only [Try.ntmps10, List.size_toArray, List.length_cons, List.length_nil, Nat.reduceAdd, Nat.reduceSub, Array.replicate_succ, Array.replicate_zero, List.push_toArray, List.append_toArray, List.nil_append, List.cons_append]
  go_wp2_with (first
    | (refine wpList_box_agg rfl 24 _ rfl (cutC p k (mn : Int) (mx : Int)) rfl ?_; rw [HW0.out])
    | (refine wpList_load_mid rfl 24 _ rfl w.heap.size 0 rfl (cutC p k (mn : Int) (mx : Int)) _ b0.whole Try.underlying24 rfl size_cut ?_)
    | fail)
  refine HR.out.mono ?_
  rintro e w1 ⟨rfl, hb1⟩
  have b1 := b0.next hb1
  obtain ⟨WE, hWE⟩ : ∃ W, W = w1.alloc (.cells #[] 3) := ⟨_, rfl⟩
  have own0 := World.ownsRow_lit (base := w1.heap.size) (e := 3) (size := 1) w1 #[] 0 (Nat.le_refl _) (by decide) rfl
  have dE : Below w1.heap.size w1 WE := by rw [hWE]; exact (Below.refl _ w1).alloc (Nat.le_refl _) _
  have sE : WE.heap.size = w1.heap.size + 1 := by rw [hWE, alloc_size]
  rw [← hWE] at own0
  obtain ⟨W2, hW2⟩ : ∃ W, W = WE.alloc (.cells #[.slice (some ⟨w1.heap.size, 0, none⟩) 0 0] 28) := ⟨_, rfl⟩
  have d2 : Below WE.heap.size WE W2 := by rw [hW2]; exact (Below.refl _ WE).alloc (Nat.le_refl _) _
  have hb2 := next dE d2
  have b2 := b1.next hb2
  have bl2' : Bl W2 (w1.heap.size + 1) [.slice (some ⟨w1.heap.size, 0, none⟩) 0 0] 28 := by rw [hW2, ← sE]; exact Bl.new WE _ _
  have own2 := own_below own0 d2
  have hbw : Below w.heap.size w W2 := next (next hb0 hb1) hb2
  have hg1 : w.heap.size < w1.heap.size := b1.lt
  have HW2 : Hid (W2 = (w1.alloc (.cells #[] 3)).alloc (.cells #[.slice (some ⟨w1.heap.size, 0, none⟩) 0 0] 28)) := by unfold Hid; rw [hW2, hWE]
  clear hW2 hWE hb1 b0 b1 HR own0 dE d2 sE
  go_wp2_with (first
    | (rw [← HW2.out]; refine wpList_load_mid rfl 24 _ rfl w.heap.size 0 rfl (cutC p k (mn : Int) (mx : Int)) _ b2.whole Try.underlying24 rfl size_cut ?_)
    | fail)
  refine (cpieces_ok p k (mn : Int) (mx : Int) l A n c W2 (h.nx hbw) hn hp HOK.out).mono ?_
  rintro e w3 ⟨gc, gb, Xp, dp, rfl, hgc, hgb, bc3, bb3, ownp, hb3⟩
  have bl3 := bl2'.next hb3
  have own3 := own_below own2 hb3
  have hbw3 := next hbw hb3
  have hl2 := bl2'.lt
  have hgb3 := bb3.lt
  clear bl2' b2 hb2 own2
  go_wp2
  obtain ⟨e0, he0⟩ : ∃ e0, e0 = w1.heap.size := ⟨_, rfl⟩
  obtain ⟨gl, hgl⟩ : ∃ gl, gl = w1.heap.size + 1 := ⟨_, rfl⟩
  rw [← hgl, ← he0] at bl3
  rw [← he0] at hg1 own3
  rw [← hgl] at hl2 ⊢
  have hgle : e0 < gl := by omega
  have hglc : gl < gc := by omega
  have hs3 : Sl w3 w3.heap.size Xp n (cb l) := Sl.own ownp
  have hcp := own_cap ownp
  have hnp : Xp = none → dp = 0 := own_none ownp
  have hoff : 0 < n → ∀ ad, Xp = some ad → ¬ (ad.block = e0 ∨ ad.block = gl) := fun _ ad e => by
    have := own_new (w' := w3) ownp ad e
    omega
  rename_i hKK
  have HKK := Lib.hid hKK
  clear hgl he0 hKK ownp
  refine wpIn_wide.1 (wpIn_range_lax (n := 3) (by omega) (gf := 25) (lb := #[.pointer (some ⟨gc, 0, none⟩), .pointer (some ⟨gb, 0, none⟩)]) rfl (enters_of Try.func25 (by kernel_rfl) rfl)
    (pieces_iter p k mn mx d l gc gb w3.heap.size (3 - 1) (fun j => j = e0 ∨ j = gl) Xp n dp w3 hp hk HD.out HOK.out bc3 bb3 hs3 hcp hnp hn (Nat.le_refl _) ⟨by omega, by omega⟩ hoff) (fun a b => KeepT.trans a b) (KeepT.putObj (Nat.le_refl _)) (Below.refl _ _) (fun _ => rfl)
    (LenI w e0 gl w3.heap.size) (fun _ _ _ => False) (lenI_lax (by omega) hbw3.size) (fun _ _ _ _ h _ => h.elim) ⟨⟨_, _, bl3, own3, fun j e => .inl (by injection e with e; exact e.symm)⟩, hbw3, Nat.le_refl _⟩
    (fun x a' => ∃ u0 u1 u2 u3 u4 u5 u7 u9 u10 u11 u12 u13 u14 u15 u16 u17 u18 u19 u20 u21 u22 u23 : Value, a' = { tmps := #[u0, u1, u2, u3, u4, u5, .pointer (some ⟨gl, 0, none⟩), u7, .slice x.2.2.1 x.2.1 x.2.2.2, u9, u10, u11, u12, u13, u14, u15, u16, u17, u18, u19, u20, u21, u22, u23], defers := [] }) ?assign ?body ?done ?stop)
  case assign =>
    intro r x W
    dsimp only [pcEnc]
    gi_wp2
    exact ⟨trivial, _, _, _, _, _, _, _, _, _, _, _, _, _, _, _, _, _, _, _, _, _, _, rfl⟩
  case body =>
    rintro r pre x a' W hr hI ⟨u0, u1, u2, u3, u4, u5, u7, u9, u10, u11, u12, u13, u14, u15, u16, u17, u18, u19, u20, u21, u22, u23, rfl⟩ hpre
    obtain ⟨⟨a, c', bl, own, hat⟩, hbl, hsz⟩ := hI
    have D4 : Below W.heap.size W (W.alloc (.cells #[.int .i64 (x.2.1 : Int)] 3)) := (Below.refl _ W).alloc (Nat.le_refl _) _
    have own4 := own_below own D4
    have bl4 := bl.next D4
    have s4 : Sl (W.alloc (.cells #[.int .i64 (x.2.1 : Int)] 3)) (W.heap.size + 1) (some ⟨W.heap.size, 0, none⟩) 1 (is [x.2.1]) := Sl.new W #[.int .i64 (x.2.1 : Int)] 3
    have hc0 : W.cell? ⟨gl, 0, none⟩ = some (.slice a pre.length c') := bl.cell 0
    have hgw : gl < W.heap.size := bl.lt
    have z4 : a = none → c' = 0 := own_none own
    have hne : ∀ j, (Value.slice a pre.length c').ownBlock = some j → j ≠ gl := fun j e => by
      have := hat j e
      omega
    have HAT := Lib.hid hat
    clear hat
    gi_wp2_with (first
      | (refine wpListIn_of_one (wide_round r) (by rintro ⟨a', w', h⟩; exact h) (by intro c h; cases h) rfl ?_; at_builtin; refine wpList_append_sl _ rfl _ _ 28 rfl e0 3 i0 (.int .i64 0) 8 Try.underlying28 hi hz0 hz1 hz2 rfl _ pre.length _ rfl own4 _ (some ⟨W.heap.size, 0, none⟩) 1 1 (is [x.2.1]) rfl s4 (by intro h; cases h) (by intro u hu; simp only [is, List.map_cons, List.map_nil, List.mem_singleton] at hu; subst hu; rfl) (by unfold maxLen; omega) (by omega) (by simp; omega) ?_; intro v5 W5 hown5 hgrow5 hat5; obtain ⟨X5, d5, rfl⟩ := own_form hown5; have bl5 := bl4.grown hgrow5 (fun e => hne _ e rfl); have hc5 : W5.cell? ⟨gl, 0, none⟩ = some (.slice a pre.length c') := bl5.cell 0; have hf5 := bl5.frozen 0; clear hc0; change wpListIn _ _ _ _ _ _ _ _)
      | fail)
    have k1 : KeepsFrom w3.heap.size W (W.alloc (.cells #[.int .i64 (x.2.1 : Int)] 3)) := keepsFrom_row (grown_none D4) (by intro j e; cases e)
    have k2 : KeepsFrom w3.heap.size (W.alloc (.cells #[.int .i64 (x.2.1 : Int)] 3)) W5 := keepsFrom_row hgrow5 (fun j e => by obtain ⟨_, cur, fr, hh⟩ := own_cells own4 e; exact ⟨_, _, _, hh⟩)
    have g6 : W5.grownBy (W5.setCell ⟨gl, 0, none⟩ (.slice X5 (pre.length + 1) d5)) (some gl) := but_setCell (but_refl _ _) 0 _
    have k3 : KeepsFrom w3.heap.size W5 (W5.setCell ⟨gl, 0, none⟩ (.slice X5 (pre.length + 1) d5)) := keepsFrom_row g6 (fun j e => by injection e with e; subst e; exact ⟨_, _, _, bl5⟩)
    have t1 : KeepT PcT w3.heap.size (fun j => j = e0 ∨ j = gl) W (W.alloc (.cells #[.int .i64 (x.2.1 : Int)] 3)) := KeepT.row (grown_none D4) hsz (by intro j e; cases e)
    have t2 : KeepT PcT w3.heap.size (fun j => j = e0 ∨ j = gl) (W.alloc (.cells #[.int .i64 (x.2.1 : Int)] 3)) W5 := KeepT.row hgrow5 (Nat.le_trans hsz D4.size) (fun j e => by obtain ⟨h1, cur, fr, hh⟩ := own_cells own4 e; exact ⟨(HAT.out j e).elim (fun h => .inr (.inl h)) .inl, _, _, _, hh, by unfold PcT; decide⟩)
    have t3 : KeepT PcT w3.heap.size (fun j => j = e0 ∨ j = gl) W5 (W5.setCell ⟨gl, 0, none⟩ (.slice X5 (pre.length + 1) d5)) := KeepT.row g6 (Nat.le_trans hsz (Nat.le_trans D4.size hgrow5.size)) (fun j e => by injection e with e; subst e; exact ⟨.inr (.inr rfl), _, _, _, bl5, by unfold PcT; decide⟩)
    have hbl5 : Below w.heap.size w W5 := below_app (hbl.trans (D4.mono hbl.size)) (Nat.le_refl _) (own_down own4 (by omega)) hgrow5
    refine ⟨(k1.trans k2).trans k3, (t1.trans t2).trans t3, ⟨⟨X5, d5, ?_, ?_, ?_⟩, hbl5.setCell (by simp; omega) _, Nat.le_trans hsz (Nat.le_trans D4.size (Nat.le_trans hgrow5.size g6.size))⟩⟩
    · have := bl5.set 0 (.slice X5 (pre.length + 1) d5)
      rw [List.length_append, List.length_singleton]
      exact this
    rotate_left
    · intro j e
      rw [List.length_append, List.length_singleton] at e
      rcases hat5 with h5 | h5
      · exact HAT.out j (h5.symm.trans e)
      · have h6 : some j = some _ := e.symm.trans h5
        injection h6 with h6
        refine .inr ?_
        rw [h6, alloc_size]
        omega
    · have e1 : is ((pre ++ [x]).map fun x => x.2.1) = is (pre.map fun x => x.2.1) ++ is [x.2.1] := by simp [is]
      rw [e1, List.length_append, List.length_singleton]
      exact own_keep hown5 (fun g hg => heap_setCell_other _ _ _ _ (by
        rcases hat5 with h5 | h5
        · exact hne g (h5.symm.trans hg)
        · have h6 : some g = some _ := hg.symm.trans h5
          injection h6 with h6
          rw [h6, alloc_size]
          simp
          omega))
  case done =>
    rintro D xs W hD hS ⟨⟨a, c', bl, own, _⟩, hbl, hsz⟩ hK
    have hc0 : W.cell? ⟨gl, 0, none⟩ = some (.slice a xs.length c') := bl.cell 0
    have hlx : Lax PcT w3.heap.size W (W.putObj D (.deferred none)) := Lax.putObj _ hK rfl hD
    have own2 := own_down (hlx.own own (by unfold PcT; decide)) (show w.heap.size ≤ e0 by omega)
    have hbl2 := hlx.below hbl hbw3.size
    have hXL : Hid (xs.length = L.length) := by unfold Hid; rw [HL.out, ← hS]; simp
    have hXM : Hid (xs.map (fun x => x.2.1) = L) := by unfold Hid; rw [HL.out, ← hS]
    clear own hbl hlx bl hS
    refine HKK.out _ _ ?_
    go_wp2
    refine ⟨by simp, .inl ⟨_, _, rfl, run_takeDeferred hK, ?_⟩⟩
    refine ⟨_, results_tmp2 rfl _ _ _, ?_⟩
    rw [hXM.out, hXL.out] at own2
    exact ⟨a, c', by rw [hXL.out]; rfl, own2, hbl2⟩
  case stop => exact fun _ _ _ _ _ _ h _ => h.elim

theorem clens_any (p k : Nat) (mn mx : Int) (l : List UInt8) (w : World) (A : Option Addr) (n c : Nat) (h : By w A n c l) (hn : n ≤ 2000000) (hp : p < 18446744073709551616) (hk : k < 18446744073709551616) :
    Calls Try.prog 10 #[.agg (cutC p k mn mx).toArray, .slice A n c] w (LensPost w (cutLV p k mn mx l) (cutE p mn mx)) := by
  rcases hok : cutOk p mn mx with _ | _
  · have hV : cutLV p k mn mx l = [] := by unfold cutLV; rw [hok]; rfl
    have hE : cutE p mn mx = 6 := by unfold cutE; rw [hok]; rfl
    rw [hV, hE]
    obtain ⟨W0, HW0, b0, hb0, hs0⟩ := put_f w (cutC p k mn mx) 24
    have HR := Lib.hid (cright_any p k mn mx W0 hp)
    rw [hok] at HR
    clear hok hV hE hs0
    go_enter Try.func10, Try.ntmps10
    go_wp2_with (first
      | (refine wpList_box_agg rfl 24 _ rfl (cutC p k mn mx) rfl ?_; rw [HW0.out])
      | (refine wpList_load_mid rfl 24 _ rfl w.heap.size 0 rfl (cutC p k mn mx) _ b0.whole Try.underlying24 rfl size_cut ?_)
      | fail)
    refine HR.out.mono ?_
    rintro e w1 ⟨rfl, hb1⟩
    go_wp2
    go_ret2
    exact ⟨none, 0, rfl, World.ownsRow_nil _ _ _ _, next hb0 hb1⟩
  · obtain ⟨k0, k1, k2, k3⟩ := cutOk_of hok
    obtain ⟨a, rfl⟩ := Int.eq_ofNat_of_zero_le (show 0 ≤ mn by omega)
    obtain ⟨b, rfl⟩ := Int.eq_ofNat_of_zero_le (show 0 ≤ mx by omega)
    obtain ⟨d, hd, hd9, hd53, hdn, hpos⟩ := rolOk_deg k0 hp
    rw [cutLV_ok hok hdn, show cutE p (a : Int) (b : Int) = 0 by unfold cutE; rw [hok]; rfl]
    exact clens_ok p k a b d l w A n c h hn hp hk hd hok

end Go.Proofs.Ytkopdkamhkmefaa
