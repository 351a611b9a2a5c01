/- Package cutter: Pieces called with the law's own function. -/
import Derived.Test.YtkopdkamhkmefaaCutV
import Derived.Test.YtkopdkamhkmefaaCutP
namespace Go.Proofs.Ytkopdkamhkmefaa
set_option maxRecDepth 100000
open Go Go.RowKit
set_option linter.unusedVariables false
set_option linter.unusedSimpArgs false

/-- A row of one's own lies in a block that begins so. -/
theorem own_bl {w : World} {base n : Nat} {e : TypeId} {A : Option Addr} {c : Nat} {xs : List Value} (h : w.ownsRow base e 1 (.slice A n c) n xs) (hn : 0 < n) : ∃ g cs, A = some ⟨g, 0, none⟩ ∧ base ≤ g ∧ Bl w g cs e ∧ cs.take n = xs ∧ n ≤ cs.length := by
  rcases h.2 with ⟨h1, h0⟩ | ⟨g, cap, cur, hv, hb, hh, hm, hc, hs, ht⟩
  · omega
  · injection hv with h1 h2 h3
    have hl : xs.length = n := by simpa using h.1
    refine ⟨g, cur.toList, h1, hb, by unfold Bl; simpa using hh, by simpa using ht, ?_⟩
    simp
    omega
theorem Turns.after {own own' : List Nat} {W0 w w' : World} (h : Turns own W0 w) (k : Turns own' w w') (ho : ∀ j, j ∈ own' → j ∈ own ∨ W0.heap.size ≤ j) : Turns own W0 w' :=
  ⟨k.os.trans h.os, k.tape.trans h.tape, k.output.trans h.output, Nat.le_trans h.size k.size, fun i hi hn => (k.block i (Nat.lt_of_lt_of_le hi h.size) (fun hk => by rcases ho i hk with h1 | h1; exact hn h1; omega)).trans (h.block i hi hn)⟩
theorem PcI.turns {W W' : World} {gok gn gw gat gb gl : Nat} {X : Option Addr} {cx : Nat} {L : List Nat} {A1 : Option Addr} {n1 c1 : Nat} {l1 : List UInt8} {lv m at_ : Nat} {own : List Nat} (h : PcI W gok gn gw gat gb gl X cx L A1 n1 c1 l1 lv m at_) (ho : PcO gok gn gw gat gb gl X A1 n1) (ht : Turns own W W') (hg : ∀ j, j ∈ own → gok < j) :
    PcI W' gok gn gw gat gb gl X cx L A1 n1 c1 l1 lv m at_ := by
  obtain ⟨o1, o2, o3, o4, o5, ox, oa⟩ := ho
  have hno : ∀ k, k ≤ gok → k ∉ own := fun k hk hm => by have := hg k hm; omega
  exact ⟨ht.bl h.bo (hno _ (by omega)), ht.bl h.bn (hno _ (by omega)), ht.bl h.bw (hno _ (by omega)), ht.bl h.ba (hno _ (by omega)), ht.bl h.bb (hno _ (by omega)), ht.bl h.bl (hno _ (by omega)),
    (ht.sl h.sx (Nat.le_refl _) (fun _ ad e => hno _ (by have := ox ad e; omega))).up ht.size,
    ⟨(ht.sl h.sb.sl (Nat.le_refl _) (fun h0 ad e => hno _ (by have := oa h0 ad e; omega))).up ht.size, h.sb.len, h.sb.cap, h.sb.none_⟩⟩

theorem Ck.turns {w w' : World} {own own' : List Nat} {g p d k mn mx : Nat} {o : List UInt8} (h : Ck w own g p d k mn mx o) (ht : Turns own' w w') (hn : ∀ j, j ∈ own → j ∉ own') : Ck w' own g p d k mn mx o := by /- 58 -/
  obtain ⟨e, hb1⟩ := h.bl
  exact ⟨⟨e, ht.bl hb1 (hn _ (by rw [e]; simp))⟩, h.deg, h.le, h.no, h.mx1, h.mx2, h.mnx, h.hk⟩

/-- The law's own function, as a value. -/
def capP (gok gn gw gat gb gl : Nat) : Value := .func (.func 16) #[] #[.pointer (some ⟨gok, 0, none⟩), .pointer (some ⟨gn, 0, none⟩), .pointer (some ⟨gw, 0, none⟩), .pointer (some ⟨gat, 0, none⟩), .pointer (some ⟨gb, 0, none⟩), .pointer (some ⟨gl, 0, none⟩)]

set_option maxRecDepth 100000 in
set_option maxHeartbeats 4000000 in
theorem pieces2_any (p k mn mx d : Nat) (l : List UInt8) (gc gp : Nat) (Ax : Option Addr) (n cx1 : Nat) (W0 : World) (gok gn gw gat gb gl : Nat) (X : Option Addr) (cx : Nat) (L : List Nat) (A1 : Option Addr) (c1 lv : Nat)
    (hp : p < 18446744073709551616) (hk : k < 18446744073709551616) (hd : Deg p d) (hok : cutOk p (mn : Int) (mx : Int) = true)
    (hI : PcI W0 gok gn gw gat gb gl X cx L A1 n c1 l lv 0 0) (ho : PcO gok gn gw gat gb gl X A1 n) (hL : L = cutL p d k mn mx l) (hlv : lv < 256) (hn : n ≤ 1000000)
    (bc : Bl W0 gc (cutC p k (mn : Int) (mx : Int)) 24) (bp : Bl W0 gp [.slice Ax n cx1] 25) (hx : Sl W0 W0.heap.size Ax n (cb l)) (hxc : n ≤ cx1) (hxz : Ax = none → cx1 = 0)
    (o1 : gc < gw) (o2 : gp < gw) (o3 : ∀ ad, Ax = some ad → ad.block < gw) :
    Calls Try.prog 25 #[capP gok gn gw gat gb gl, .pointer (some ⟨gc, 0, none⟩), .pointer (some ⟨gp, 0, none⟩)] W0 fun e W' => e = .returned (.tuple #[]) ∧ (∃ at_, PcI W' gok gn gw gat gb gl X cx L A1 n c1 l lv (min L.length (lv + 1)) at_) ∧ Turns [gok, gn, gat] W0 W' := by
  obtain ⟨i0, hi, hz0, hz1, hz2⟩ := info_parts u8_info
  have hnl : n = l.length := by rw [← hx.1, cb_len]
  have HNL := Lib.hid hnl
  have HOK := Lib.hid hok
  have HD := Lib.hid hd
  have HLL := Lib.hid hL
  have HO := Lib.hid ho
  have hLl : L.length ≤ 1000000 := by rw [hL]; have := cutL_sum p d k mn mx l; omega
  have ob1 := ho.o1
  have ob2 := ho.o2
  have ob3 := ho.o3
  have ob4 := ho.o4
  have ob5 := ho.o5
  have hgk := hI.bo.lt
  obtain ⟨k0, k1, k2, k3⟩ := cutOk_of hok
  clear hnl hok hd ho hL
  unfold capP
  go_enter Try.func25, Try.ntmps25
  go_wp2_with (first
    | (refine wpList_load_mid rfl 24 _ rfl gc 0 rfl (cutC p k (mn : Int) (mx : Int)) _ bc.whole Try.underlying24 rfl size_cut ?_)
    | fail)
  refine (cnew_ok p k mn mx d W0 hp hk HD.out HOK.out).mono ?_
  rintro e w1 ⟨g, own, rfl, hgo, hck, hb1⟩
  have HGO := Lib.hid hgo
  have hI1 := hI.next hb1
  have t1 : Turns [gok, gn, gat] W0 w1 := Turns.of_below hb1
  clear hI hb1 hgo
  go_wp2
  go_loopw [6] (fun v wr => ∃ f m : Nat, v = .int .i64 (f : Int) ∧ f ≤ n ∧ m ≤ lv ∧ m ≤ L.length ∧ L.drop m = cutL p d k mn mx (l.drop f) ∧ PcI wr gok gn gw gat gb gl X cx L A1 n c1 l lv m f ∧ Turns [gok, gn, gat] W0 wr ∧ (f < n → Ck wr own g p d k mn mx [])) (fun v _ => n - (intOf v).toNat)
  case atStart => exact ⟨0, 0, rfl, Nat.zero_le _, Nat.zero_le _, Nat.zero_le _, by rw [List.drop_zero, List.drop_zero]; exact HLL.out, hI1, t1, fun _ => hck⟩
  case round =>
    clear hI1 t1 hck
    obtain ⟨f, m, rfl, hf, hml, hmL, hdr, hI, hT, hck⟩ := hrel
    have hno : ∀ j, j < gw → j ∉ [gok, gn, gat] := fun j hj hm => by simp at hm; omega
    have bp' := hT.bl bp (hno _ o2)
    have c0 : wr.cell? ⟨gp, 0, none⟩ = some (.slice Ax n cx1) := bp'.cell 0
    by_cases hlt : f < n
    · have f1 : (f : Int) < (n : Int) := by omega
      have f0 : (0 : Int) ≤ (f : Int) := by omega
      have fc : ¬ cx1 = f := by omega
      have fn : f ≤ n := hf
      have hs := hT.sl hx (Nat.le_refl _) (fun _ ad e => hno _ (o3 ad e))
      obtain ⟨ad, rfl, hab, _⟩ := hs.2 (by omega)
      have hdl : 0 < (l.drop f).length := by rw [List.length_drop]; have := HNL.out; omega
      have hsc := sl_cut (k := f) hs hf hxc
      rw [if_neg fc, Option.map_some, show (cb l).drop f = cb (l.drop f) by simp [cb]] at hsc
      have hck' := hck hlt
      have HFI := Lib.hid (cfirst_any g p d k mn mx own (l.drop f) wr W0.heap.size (some (ad.add f)) (n - f) (cx1 - f) hck' hsc hT.size (fun _ q e hq => by injection e with e; rw [← e, add_block] at hq; have := HGO.out _ hq; omega) (by omega) (by omega) (by omega))
      obtain ⟨F, hF⟩ : ∃ F, F = cutF p d k mn mx (l.drop f) := ⟨_, rfl⟩
      have hFl := cutF_le p d k mn mx hdl
      have hst := cutL_step p d k mn mx hdl
      rw [← hF] at HFI hFl hst
      rw [List.length_drop] at hFl
      rw [List.drop_drop] at hst
      have hFn : f + F ≤ n := by have := HNL.out; omega
      have hF1 : 1 ≤ F := hFl.1
      rw [← hdr] at hst
      have hmL2 : m < L.length := by
        rcases Nat.lt_or_ge m L.length with h | h
        · exact h
        · rw [List.drop_of_length_le h] at hst; cases hst
      have hLm : L[m]? = some F := by
        have h5 := List.drop_eq_getElem_cons hmL2
        rw [hst] at h5
        injection h5 with h5 _
        rw [List.getElem?_eq_getElem hmL2, ← h5]
      have hdr2 : L.drop (m + 1) = cutL p d k mn mx (l.drop (f + F)) := by
        have h5 := List.drop_eq_getElem_cons hmL2
        rw [hst] at h5
        injection h5 with _ h5
        exact h5.symm
      have HLM := Lib.hid hLm
      have HDR := Lib.hid hdr2
      have HI := Lib.hid hI
      have HTT := Lib.hid hT
      clear hF hFl hst hdr hdl hck hck' hLm hdr2 hI hT hsc
      go_wp2_with fail
      refine HFI.out.mono ?_
      rintro e w2 ⟨rfl, hT2, hck2⟩
      have hI2 := HI.out.turns HO.out hT2 (fun j hj => by have := HGO.out _ hj; omega)
      have hTT2 := HTT.out.after hT2 (fun j hj => .inr (HGO.out _ hj))
      have hs2 := hT2.sl hs (by exact HTT.out.size) (fun _ q e hq => by injection e with e; rw [← e] at hq; have := HGO.out _ hq; omega)
      have bp2 := hT2.bl bp' (fun hq => by have := HGO.out _ hq; have := bp.lt; omega)
      have HCK2 := Lib.hid hck2
      clear HI HTT hs bp' hT2 c0 HFI hck2
      have c0 : w2.cell? ⟨gp, 0, none⟩ = some (.slice (some ad) n cx1) := bp2.cell 0
      have sF : Sl w2 W0.heap.size (some (ad.add f)) F (cb ((l.drop f).take F)) := by
        have h5 := sl_take (h := F) (sl_cut (k := f) hs2 hf hxc) (by omega)
        rw [if_neg fc, Option.map_some, show ((cb l).drop f).take F = cb ((l.drop f).take F) by simp [cb]] at h5
        exact h5
      have HCD := Lib.hid (cloned_any ((l.drop f).take F) w2 W0.heap.size (some (ad.add f)) F (cx1 - f) sF (by intro h; cases h) (by omega) (by omega) (by have := hTT2.size; omega))
      have g1 : f ≤ f + F := by omega
      have g2 : f + F ≤ cx1 := by omega
      have g3 : f + F - f = F := by omega
      clear sF
      go_wp2_with (first
        | (refine wpList_slice_lh rfl 25 _ _ _ rfl 5 Try.underlying25 u8_size (some ad) n cx1 f (f + F) .i64 .i64 _ _ rfl rfl rfl rfl (by omega) g1 g2 (by intro h; cases h) ?_; intro A5 HA5; obtain rfl : A5 = some (ad.add f) := (by rw [HA5.out, if_neg fc]; rfl); rw [g3]; clear HA5)
        | fail)
      refine HCD.out.mono ?_
      rintro e w3 ⟨X3, d3, rfl, hown3, D4⟩
      clear c0 HCD
      obtain ⟨bk, cs, rfl, hbase, hbcs, htk, hlen⟩ := own_bl hown3 (by omega)
      have hI3 := hI2.next D4
      have hT3 := hTT2.trans (Turns.of_below D4)
      have hw2 := hTT2.size
      have HPI := Lib.hid (pieces1_any w3 gok gn gw gat gb gl X cx L A1 n c1 l lv m f F bk 0 F cs 5 hI3 HO.out (by omega) hmL2 hLl HLM.out hF1 hFn hn hlv hbcs (by rw [List.drop_zero]; exact htk) (by omega))
      obtain ⟨bb, hbb⟩ : ∃ bb, bb = decide (m + 1 ≤ lv) := ⟨_, rfl⟩
      rw [← hbb] at HPI
      have hck3 : f + F < n → Ck w3 own g p d k mn mx [] := fun h => (HCK2.out (by rw [List.length_drop]; have := HNL.out; omega)).next D4
      have hol : f + F < n → ∀ j, j ∈ own → j ∉ [gok, gn, gat, bk] := fun h j hj hm => by
        have h5 := (HCK2.out (by rw [List.length_drop]; have := HNL.out; omega)).lt j hj
        have h6 := HGO.out j hj
        simp at hm
        omega
      have HBB := Lib.hid hbb
      clear hbb hI2 hI3 hTT2 hs2 bp2 hown3 hbcs htk HCK2
      go_wp2_with fail
      refine HPI.out.mono ?_
      rintro e w4 ⟨rfl, hI4, hT4, _⟩
      have hTT4 := hT3.after hT4 (fun j hj => by
        simp at hj ⊢
        rcases hj with h | h | h | h
        · exact .inl (.inl h)
        · exact .inl (.inr (.inl h))
        · exact .inl (.inr (.inr h))
        · exact .inr (by omega))
      have hck4 : f + F < n → Ck w4 own g p d k mn mx [] := fun h => (hck3 h).turns hT4 (hol h)
      clear HPI hT3 hT4 hck3 hol D4
      cases bb with
      | true =>
        have hgo : m + 1 ≤ lv := by have := HBB.out; simpa using this.symm
        go_wp2
        go_roundw
        case rel => exact ⟨f + F, m + 1, by go_num, hFn, hgo, by omega, HDR.out, hI4, hTT4, hck4⟩
        case measure => simp [intOf]; omega
      | false =>
        have hgo : ¬ m + 1 ≤ lv := by have := HBB.out; simpa using this.symm
        have hmin : m + 1 = min L.length (lv + 1) := by omega
        rw [hmin] at hI4
        clear hck4
        go_wp2
        refine bodyPost_ret (results_none rfl _ _ _) rfl ?_
        exact ⟨rfl, ⟨_, hI4⟩, hTT4⟩
    · have hfn : f = l.length := by have := HNL.out; omega
      have f1 : ¬ (f : Int) < (n : Int) := by omega
      rw [hfn, List.drop_length, cutL_nil] at hdr
      have hmL2 : m = min L.length (lv + 1) := by
        have := congrArg List.length hdr
        simp at this
        omega
      rw [hmL2] at hI
      clear hck bp' hfn hdr
      go_wp2
      go_end0
      exact ⟨rfl, ⟨f, hI⟩, hT⟩

theorem pieces3_any (v : Value) (W0 : World) : Calls Try.prog 23 #[v] W0 fun e W' => e = .returned (.tuple #[]) ∧ W0 = W' := by
  go_enter Try.func23, Try.ntmps23
  go_wp2
  first | exact bodyPost_end (results_none rfl _ _ _) rfl ⟨rfl, rfl⟩ | exact bodyPost_ret (results_none rfl _ _ _) rfl ⟨rfl, rfl⟩

end Go.Proofs.Ytkopdkamhkmefaa
