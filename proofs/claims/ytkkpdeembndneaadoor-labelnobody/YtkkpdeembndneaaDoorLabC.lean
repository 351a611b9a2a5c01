/- Layer 9, label: a map copied; Put and Key of a ring. -/
import Derived.Test.YtkkpdeembndneaaDoorLabB
import Derived.Laws.IdiomRangeMap
namespace Go.Proofs.YtkkpdeembndneaaDoor
set_option maxRecDepth 100000
open Go Go.RowKit Go.Maps
set_option linter.unusedVariables false
set_option linter.unusedSimpArgs false

theorem heldAt_all {o : Option Value} {c : Value} {D : DataW Value} (h : ∀ z, heldAt o z = .held c) : o = some c := by
  cases o with
  | none =>
    exfalso
    have h1 := h .nil
    simp [heldAt] at h1
  | some v =>
    have h1 := h .nil
    simp [heldAt] at h1
    rw [h1]
theorem rf_inv {m : RM} (ok : RingOk m) {kl : Lit} {c : Value} (h : rf m kl = some c) : ∃ l : List UInt8, c = .agg (cb l).toArray ∧ l.length = 32 := by
  cases kl with
  | int q k =>
    cases q
    case i64 =>
      simp only [rf] at h
      obtain ⟨l, hl, rfl⟩ := Option.map_eq_some_iff.1 h
      exact ⟨l, rfl, rfind_len ok hl⟩
    all_goals cases h
  | _ => cases h

theorem rf_nil (kl : Lit) : none = rf [] kl := by
  cases kl with
  | int q k => cases q <;> rfl
  | _ => rfl
/-- What is in the copy while the keys of left are to come. -/
def Part (f f' : Lit → Option Value) (left : Lit → Bool) : Prop := ∀ kl, WideAt.IsKeyLit kl → (left kl = true → f' kl = none) ∧ (left kl = false → f' kl = f kl)

theorem part_step {f f' : Lit → Option Value} {left : Lit → Bool} {kl : Lit} {c : Value} (h : Part f f' left) (hk : WideAt.IsKeyLit kl) (hf : f kl = some c) : Part f (setF f' kl (some c)) (fun z => left z && !z.sameKey kl) := by
  intro z hz
  by_cases e : z = kl
  · subst e
    have hs := sameKey_self hz
    rw [setF_same _ _ hz, hf]
    exact ⟨fun h' => by simp [hs] at h', fun _ => rfl⟩
  · have hs := Maps.sameKey_ne e
    rw [setF_other _ _ e]
    exact ⟨fun h' => (h z hz).1 (by simpa [hs] using h'), fun h' => (h z hz).2 (by simpa [hs] using h')⟩

theorem lcopy_nil (pd : Option Nat) (w : World) :
    Calls Tryd.prog 34 #[.map pd, .map none] w fun e w' => e = .returned (.tuple #[]) ∧ w' = w.alloc (.mapIter none 0 #[] 0) := by
  have hrg := run_range_nilMap (P := Tryd.prog) w 62 _ _ Tryd.underlying62
  have hnx : ∀ ty, (Instr.next (.pointer (some ⟨w.heap.size, 0, none⟩)) false ty).run Tryd.prog (w.alloc (.mapIter none 0 #[] 0)) = _ := fun ty => run_next_nilMap _ ty 0 0 #[]
  go_enter Tryd.func34, Tryd.ntmps34
  go_wp2
  refine wp_loop_rounds 1 ?_
  rw [rounds_succ]
  go_wp2
  go_end0
  exact ⟨rfl, rfl⟩

set_option maxHeartbeats 2000000 in
theorem lcopy_any (m : RM) (ok : RingOk m) (hl : m.length ≤ 1000) (bd bs : Nat) (w : World) (hd : MapF w Tryd.prog 3 bd 0 (fun _ => none)) (hs : MapF w Tryd.prog 3 bs m.length (rf m)) (hne : bd ≠ bs) :
    Calls Tryd.prog 34 #[.map (some bd), .map (some bs)] w fun e w' => e = .returned (.tuple #[]) ∧ MapF w' Tryd.prog 3 bd m.length (rf m) ∧ w.grownBy w' (some bd) := by
  have K := int_keyed (P := Tryd.prog) (k := 3) Tryd.underlying3
  obtain ⟨Ds, hso, hsf⟩ := hs
  have hsz : Maps.size Ds ≤ m.length := by
    obtain ⟨es, clock, _, _, h1, rfl⟩ := hso
    show (List.foldr DataW.insert [] _).length ≤ _
    rw [length_sorted, List.length_map, Array.length_toList]
    exact h1
  have hbd := hd.lt
  have hbs := hso.lt
  have HL := Lib.hid hl
  have HSZ := Lib.hid hsz
  clear hl hsz
  go_enter Tryd.func34, Tryd.ntmps34
  go_wp2_with (first
    | (at_range; refine wpList_range_own _ rfl _ 62 rfl 3 29 K Tryd.underlying62 heldR bs _ _ rfl hso ?_; intro w0 hrg0 hg0 hs0)
    | go_in)
  go_frame
  go_loopw [8] (fun _ wr => ∃ (left : Lit → Bool) (cnt : Nat) (f' : Lit → Option Value), wr.ranges Tryd.prog 3 heldR bs w.heap.size m.length Ds left cnt ∧ cnt ≤ Maps.size Ds ∧
      MapF wr Tryd.prog 3 bd (Maps.size Ds - cnt) f' ∧ Part (rf m) f' left ∧ w.grownBy wr (some bd))
    (fun _ wr => wr.rangeLeft bs w.heap.size)
  case atStart =>
    refine ⟨_, _, fun _ => none, hrg0, Nat.le_refl _, (hd.row hg0 (by simp)).mono (by omega), fun kl hk => ⟨fun _ => rfl, fun h => ?_⟩, hg0.but _⟩
    have := (hsf kl hk).1
    rw [h] at this
    exact (Option.not_isSome_iff_eq_none.1 (by rw [← this]; simp)).symm
  case round =>
    obtain ⟨left, cnt, f', hrg, hcs, hout, hM, hgw⟩ := hrel
    go_wp2_with (first
      | (at_next; refine wpList_next_ranges _ rfl _ rfl 3 K heldR id id (fun key _ _ => ⟨key, rfl⟩) (fun v _ _ => ⟨v, rfl⟩) bs w.heap.size _ _ _ _ rfl hrg ?_ ?_)
      | go_in)
    · intro hc0 hl0
      go_wp2
      go_end0
      subst hc0
      exact ⟨rfl, (hout.congr (fun kl hk => (hM kl hk).2 (hl0 kl))).mono (by have := HSZ.out; omega), hgw⟩
    · intro x c kl yd yp w1 cnt1 hkey hlx hv hat hrg1 hlt hg1 hs1 hen
      have hkk := K.key hkey
      have hfc : rf m kl = some c := by
        have h1 : heldR c = some (yd, yp) := hv
        unfold heldR at h1
        simp at h1
        refine heldAt_all (D := .nil) fun z => ?_
        rw [← (hsf kl hkk).2 z, hat z, ← h1.1]
      obtain ⟨l, rfl, hll⟩ := rf_inv ok hfc
      have HLL := Lib.hid hll
      have hout1 := hout.row hg1 (fun e => by have := Option.some.inj e; omega)
      obtain ⟨pn1, pn2, pn3⟩ := put_new w1 (zeros .u8 32) (cb l) 29 (by rw [cb_len, hll, zeros_len])
      have bz := Bl.new w1 (zeros .u8 32) 29
      have hg2 : w1.grownBy ((w1.alloc (.cells (zeros .u8 32).toArray 29)).setCells w1.heap.size 0 (cb l)) none := by
        refine ⟨pn2.os, pn2.tape, pn2.output, pn2.size, fun i hi _ => pn2.block i hi⟩
      have HG2 := Lib.hid hg2
      have HH := Lib.hid hs1
      clear hs1 hg2 hll
      go_wp2_with (first
        | (refine wpList_alloc_zero rfl 29 rfl (zeros .u8 32) zero_32 ?_)
        | (refine wpList_store_mid rfl 29 _ _ rfl _ _ (cb l).toArray rfl rfl (bz.there_ (by simp [zeros, cb_len, HLL.out])) (by rw [size_32, List.size_toArray, cb_len, HLL.out]) (all_oneCell_toArray (cb_one _)) ?_)
        | (refine wpList_load_mid rfl 29 _ rfl _ _ rfl (cb l) _ pn1.whole Tryd.underlying29 rfl (by rw [size_32, cb_len, HLL.out]) ?_)
        | (refine wpList_mapStore rfl _ _ _ 62 rfl (hout1.row HG2.out (by simp)) K Tryd.underlying62 (by have := HSZ.out; have := HL.out; unfold maxLen; omega) rfl rfl rfl hkey ?_; intro w2 hout2 hg3))
      have hrg2 := (hrg1.kept HG2.out (by simp) (by simp)).kept hg3 (fun e => hne (Option.some.inj e).symm) (fun e => by have := Option.some.inj e; omega)
      go_roundw
      case rel => exact ⟨_, cnt1, hrg2, by omega, _, hout2.mono (by omega), part_step hM hkk hfc, ((hgw.andThen hg1 (fun j hj => .inl (by cases hj; exact Nat.le_refl _))).andThen HG2.out (fun j hj => by cases hj)).andThen hg3 (fun j hj => .inr hj)⟩
      case measure => rw [hrg2.left_eq, hrg.left_eq]; exact hlt

/-- What Put answers. -/
def putE (m : RM) (e : Int) (l : List UInt8) : Int := if epo e = true ∧ l.length = 32 then (if (rfind m e).isSome = true then 19 else 0) else 1
/-- The ring behind a Put. -/
def putM (m : RM) (e : Int) (l : List UInt8) : RM := if epo e = true ∧ l.length = 32 ∧ rfind m e = none then m ++ [(e.toNat, l)] else m
theorem putM_ok {m : RM} (ok : RingOk m) (e : Int) (l : List UInt8) : RingOk (putM m e l) := by
  unfold putM
  split
  · rename_i h
    obtain ⟨h1, h2, h3⟩ := h
    unfold epo at h1
    simp only [Bool.and_eq_true, decide_eq_true_eq] at h1
    exact ring_put ok (by omega) (by omega) h2 (by rw [show ((e.toNat : Nat) : Int) = e by omega]; exact h3)
  · exact ok
theorem putM_len (m : RM) (e : Int) (l : List UInt8) : (putM m e l).length ≤ m.length + 1 := by
  unfold putM
  split
  · simp
  · omega

set_option maxHeartbeats 2000000 in
theorem lput_any (g B : Nat) (m : RM) (hl : m.length ≤ 900) (e : Int) (l : List UInt8) (w : World) (hr : Rg w B g m) (A : Option Addr) (n c : Nat) (h : Sl w w.heap.size A n (cb l)) (hc : n ≤ c) (hB : B ≤ w.heap.size) :
    Calls Tryd.prog 16 #[.pointer (some ⟨g, 0, none⟩), .int .i64 e, .slice A n c] w fun r w' => r = .returned (.int .i64 (putE m e l)) ∧ Rg w' w'.heap.size g (putM m e l) ∧ w.grownBy w' (some g) := by
  have hr0 := hr
  obtain ⟨hg, ok, p, hb, hm⟩ := hr
  have hn : n = l.length := by rw [← h.1, cb_len]
  have ce := isepo_any e
  obtain ⟨R, hR⟩ : ∃ R, R = putE m e l := ⟨_, rfl⟩
  rw [← hR]
  by_cases hf : epo e = true ∧ l.length = 32
  · obtain ⟨he, h32⟩ := hf
    have hw := epo_wf he
    rw [he] at ce
    obtain rfl : n = 32 := by omega
    obtain ⟨ad, rfl, hadl, hcell⟩ := h.2 (by omega)
    have harr : ∀ W, (Instr.arrayAt 29 (.slice (some ad) 32 c)).run Tryd.prog W = .ok (.pointer (some ad)) W := fun W => by
      simp [Instr.arrayAt, run_underlying Tryd.underlying29]
    have hc0 : w.cell? ⟨g, 0, none⟩ = some (.map p) := hb.cell 0
    have hf0 : w.frozen? ⟨g, 0, none⟩ = false := hb.frozen 0
    obtain ⟨v, hlk, hv⟩ : ∃ v : List UInt8, (Instr.lookup 62 (.map p) (.int .i64 e) true).run Tryd.prog w = .ok (.tuple #[.agg (cb v).toArray, .bool (rfind m e).isSome]) w ∧ v.length = 32 := by
      rcases hm with ⟨rfl, rfl⟩ | ⟨b, rfl, _, _, hf⟩
      · exact ⟨List.replicate 32 0, by rw [look_nil w hw, zeros_cb]; rfl, by simp⟩
      · have := hf.look_ok (int_keyed Tryd.underlying3) Tryd.underlying62 (look_zero w) (int_key hw)
        rw [this]
        cases h : rfind m e with
        | none => exact ⟨List.replicate 32 0, by simp only [rf, h]; rw [zeros_cb]; rfl, by simp⟩
        | some l => exact ⟨l, by simp only [rf, h]; rfl, rfind_len ok h⟩
    obtain ⟨pn1, pn2, pn3⟩ := put_new w (zeros .u8 32) (cb v) 29 (by rw [cb_len, hv, zeros_len])
    have bz := Bl.new w (zeros .u8 32) 29
    have HV := Lib.hid hv
    have HC := Lib.hid ce
    cases hfd : (rfind m e).isSome with
    | true =>
      have HR : Hid (R = 19) := by unfold Hid; rw [hR]; unfold putE; rw [if_pos ⟨he, h32⟩, if_pos hfd]
      have HM : Hid (putM m e l = m) := by unfold Hid putM; rw [if_neg (by rintro ⟨_, _, h3⟩; rw [h3] at hfd; cases hfd)]
      rw [hfd] at hlk
      rw [HM.out]
      clear hm hfd hR ce he hn h32
      go_enter Tryd.func16, Tryd.ntmps16
      go_wp2_with (first
        | (go_at_call 26; refine (HC.out _).mono ?_; rintro e w1 ⟨rfl, rfl⟩)
        | (refine wpList_alloc_zero rfl 29 rfl (zeros .u8 32) zero_32 ?_)
        | (refine wpList_store_mid rfl 29 _ _ rfl _ _ (cb v).toArray rfl rfl (bz.there_ (by simp [zeros, cb_len, HV.out])) (by rw [size_32, List.size_toArray, cb_len, HV.out]) (all_oneCell_toArray (cb_one _)) ?_))
      go_ret
      exact ⟨by rw [HR.out]; rfl, (hr0.next pn2).up (Nat.le_trans hB pn2.size), but_below pn2⟩
    | false =>
      have hfn : rfind m e = none := by rw [← Option.not_isSome_iff_eq_none, hfd]; simp
      obtain ⟨en, rfl⟩ : ∃ en : Nat, e = en := ⟨e.toNat, by unfold epo at he; simp only [Bool.and_eq_true, decide_eq_true_eq] at he; omega⟩
      have HR : Hid (R = 0) := by unfold Hid; rw [hR]; unfold putE; rw [if_pos ⟨he, h32⟩, if_neg (by rw [hfd]; simp)]
      have HM : Hid (putM m en l = m ++ [(en, l)]) := by unfold Hid putM; rw [if_pos ⟨he, h32, hfn⟩]; simp
      have ok2 : RingOk (m ++ [(en, l)]) := by rw [← HM.out]; exact putM_ok ok _ _
      rw [hfd] at hlk
      rw [HM.out]
      have hkey := int_key hw
      have K := int_keyed (P := Tryd.prog) (k := 3) Tryd.underlying3
      obtain ⟨W1, hW1⟩ : ∃ W, W = (w.alloc (.cells (zeros .u8 32).toArray 29)).setCells w.heap.size 0 (cb v) := ⟨_, rfl⟩
      rw [← hW1] at pn1 pn2 pn3
      have HW1 := Lib.hid hW1
      have b1 := hb.next pn2
      have hc1 : W1.cell? ⟨g, 0, none⟩ = some (.map p) := b1.cell 0
      -- the new map
      have hd := mapF_made W1 Tryd.prog 3
      have hb2 : Below W1.heap.size W1 (W1.alloc (.map #[] 0)) := (Below.refl _ W1).alloc (Nat.le_refl _) _
      obtain ⟨W2, hW2⟩ : ∃ W, W = W1.alloc (.map #[] 0) := ⟨_, rfl⟩
      rw [← hW2] at hd hb2
      have HW2 := Lib.hid hW2
      have b2 := b1.next hb2
      have hc2 : W2.cell? ⟨g, 0, none⟩ = some (.map p) := b2.cell 0
      have hlow : w.heap.size ≤ W1.heap.size := pn2.size
      have hgd : g < w.heap.size := hb.lt
      have ccopy : Calls Tryd.prog 34 #[.map (some W1.heap.size), .map p] W2 fun e w' => e = .returned (.tuple #[]) ∧ MapF w' Tryd.prog 3 W1.heap.size m.length (rf m) ∧ W2.grownBy w' (some W1.heap.size) := by
        rcases hm with ⟨rfl, rfl⟩ | ⟨b, rfl, hb1, hb2', hf⟩
        · refine (lcopy_nil _ W2).mono ?_
          rintro e w' ⟨rfl, rfl⟩
          refine ⟨rfl, ?_, World.grownBy_alloc W2 _ _⟩
          exact (hd.row (World.grownBy_alloc W2 _ none) (by simp)).congr (fun kl _ => rf_nil kl)
        · have hfl := hf.lt
          refine lcopy_any m ok (by omega) _ _ W2 hd ((hf.next pn2).next hb2) (by omega)
      obtain ⟨hlenr, hlr⟩ : ∃ z : Int, (Builtin.len_ #[62] 3 #[.map p]).run Tryd.prog W1 = .ok (.int .i64 z) W1 := by
        rcases hm with ⟨rfl, rfl⟩ | ⟨b, rfl, hb1, hb2', hf⟩
        · exact ⟨0, run_len_nilMap W1 62 3 Tryd.underlying62⟩
        · obtain ⟨D, ⟨es, clock, hbb, _⟩, _⟩ := hf.next pn2
          exact ⟨_, run_len_map W1 62 3 b es clock Tryd.underlying62 hbb⟩
      have hmk : ∀ x, (Instr.makeMap 62 (some (.int .i64 x))).run Tryd.prog W1 = .ok (.map (some W1.heap.size)) W2 := by
        intro x
        rw [hW2]
        simp [Instr.makeMap, run_underlying Tryd.underlying62, asInt, asIntOf]
      have HCC := Lib.hid ccopy
      have HH1 := Lib.hid pn3
      have H32 := Lib.hid h32
      clear hm hfd hR ce he hn hW1 hW2 ccopy hd pn3 h32 h
      go_enter Tryd.func16, Tryd.ntmps16
      go_wp2_with (first
        | (go_at_call 26; refine (HC.out _).mono ?_; rintro e w1 ⟨rfl, rfl⟩)
        | (refine wpList_alloc_zero rfl 29 rfl (zeros .u8 32) zero_32 ?_)
        | (refine wpList_store_mid rfl 29 _ _ rfl _ _ (cb v).toArray rfl rfl (bz.there_ (by simp [zeros, cb_len, HV.out])) (by rw [size_32, List.size_toArray, cb_len, HV.out]) (all_oneCell_toArray (cb_one _)) ?_; rw [← HW1.out])
        | (go_at_call 34; refine HCC.out.mono ?_; rintro e W3 ⟨rfl, hd3, gr3⟩; have b3 := b2.grown gr3 (by intro e; injection e with e; omega); have s3 : ∀ j v, (cb l)[j]? = some v → W3.cell? (ad.add j) = some v := (by intro j v hv; have hh : ∀ q : Addr, q.block < w.heap.size → W3.cell? q = w.cell? q := (by intro q hq; unfold World.cell?; rw [gr3.block q.block (by have := hb2.size; omega) (by intro e; injection e with e; omega), hb2.block q.block (by omega), pn2.block q.block hq]); rw [hh _ (by rw [add_block]; exact hadl)]; exact hcell j v hv); have HS3 := Lib.hid s3; clear s3)
        | (refine wpList_load_at rfl 29 _ rfl ad rfl (cb l) _ HS3.out Tryd.underlying29 rfl (by rw [size_32, cb_len, H32.out]) ?_)
        | (refine wpList_mapStore rfl _ _ _ 62 rfl hd3 K Tryd.underlying62 (by unfold maxLen; omega) rfl rfl rfl hkey ?_; intro W4 hd4 gr4; have b4 := b3.grown gr4 (by intro e; injection e with e; omega); have hc4 : W4.cell? ⟨g, 0, none⟩ = some (.map p) := b4.cell 0; have hf4 := b4.frozen 0))
      have b5 := b4.set 0 (.map (some W1.heap.size))
      have hgr : w.grownBy (W4.setCell ⟨g, 0, none⟩ (.map (some W1.heap.size))) (some g) :=
        but_setCell (but_row (but_row (but_next (but_below pn2) hb2) gr3 (fun j hj => by injection hj with hj; omega)) gr4 (fun j hj => by injection hj with hj; omega)) 0 _
      go_ret
      refine ⟨by rw [HR.out]; rfl, ⟨?_, ok2, some W1.heap.size, b5, .inr ⟨W1.heap.size, rfl, ?_, by omega, ?_⟩⟩, hgr⟩
      · have := hgr.size; omega
      · have := gr4.size; have := hd4.lt; rw [heap_size_setCell]; omega
      · rw [List.length_append]
        refine (hd4.congr (fun kl _ => rf_put hfn kl)).row (row := some g) (but_setCell (but_refl _ _) 0 _) (by intro e; injection e with e; omega)
  · have HR : Hid (R = 1) := by unfold Hid; rw [hR]; unfold putE; rw [if_neg hf]
    have HM : Hid (putM m e l = m) := by unfold Hid putM; rw [if_neg (fun h => hf ⟨h.1, h.2.1⟩)]
    rw [HM.out]
    have hcase : epo e = false ∨ (epo e = true ∧ ¬ (n : Int) = 32) := by
      cases h1 : epo e with
      | false => exact .inl rfl
      | true => exact .inr ⟨rfl, fun h2 => hf ⟨h1, by omega⟩⟩
    clear hm hf hR hn
    go_enter Tryd.func16, Tryd.ntmps16
    rcases hcase with he | ⟨he, h32⟩
    · rw [he] at ce
      have HC := Lib.hid ce
      clear ce he
      go_wp2_with (go_at_call 26; refine (HC.out _).mono ?_; rintro e w1 ⟨rfl, rfl⟩)
      go_ret
      exact ⟨by rw [HR.out]; rfl, hr0.up hB, but_refl _ _⟩
    · rw [he] at ce
      have HC := Lib.hid ce
      clear ce he
      go_wp2_with (go_at_call 26; refine (HC.out _).mono ?_; rintro e w1 ⟨rfl, rfl⟩)
      go_ret
      exact ⟨by rw [HR.out]; rfl, hr0.up hB, but_refl _ _⟩

end Go.Proofs.YtkkpdeembndneaaDoor
