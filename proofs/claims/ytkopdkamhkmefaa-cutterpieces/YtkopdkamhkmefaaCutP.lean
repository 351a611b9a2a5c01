/- What the law CutterPieces hands to Pieces: one round of it. -/
import Derived.Test.YtkopdkamhkmefaaCutX
import Derived.Test.YtkopdkamhkmefaaCutK
import Derived.Deep.CutRange
namespace Go.Proofs.Ytkopdkamhkmefaa
set_option maxRecDepth 100000
open Go Go.RowKit
set_option linter.unusedVariables false
set_option linter.unusedSimpArgs false

/-- The law's variables, m chunks being over, at_ bytes of them. -/
structure PcI (W : World) (gok gn gw gat gb gl : Nat) (X : Option Addr) (cx : Nat) (L : List Nat) (A1 : Option Addr) (n1 c1 : Nat) (l1 : List UInt8) (lv m at_ : Nat) : Prop where
  bo : Bl W gok [.bool true] 4
  bn : Bl W gn [.int .i64 (m : Int)] 3
  bw : Bl W gw [.slice X L.length cx] 28
  ba : Bl W gat [.int .i64 (at_ : Int)] 3
  bb : Bl W gb [.slice A1 n1 c1] 25
  bl : Bl W gl [.int .u8 (lv : Int)] 5
  sx : Sl W W.heap.size X L.length (is L)
  sb : By W A1 n1 c1 l1
/-- Where they lie. -/
structure PcO (gok gn gw gat gb gl : Nat) (X : Option Addr) (A1 : Option Addr) (n1 : Nat) : Prop where
  o1 : gb < gl
  o2 : gl < gw
  o3 : gw < gn
  o4 : gn < gat
  o5 : gat < gok
  ox : ∀ ad, X = some ad → ad.block < gn
  oa : 0 < n1 → ∀ ad, A1 = some ad → ad.block < gb
section
variable {W W' : World} {gok gn gw gat gb gl : Nat} {X : Option Addr} {cx : Nat} {L : List Nat} {A1 : Option Addr} {n1 c1 : Nat} {l1 : List UInt8} {lv m at_ : Nat}
theorem PcI.next (h : PcI W gok gn gw gat gb gl X cx L A1 n1 c1 l1 lv m at_) (hb : Below W.heap.size W W') : PcI W' gok gn gw gat gb gl X cx L A1 n1 c1 l1 lv m at_ :=
  ⟨h.bo.next hb, h.bn.next hb, h.bw.next hb, h.ba.next hb, h.bb.next hb, h.bl.next hb, h.sx.nx hb, h.sb.nx hb⟩
end
section
variable {W W' : World} {gok gn gw gat gb gl : Nat} {X : Option Addr} {cx : Nat} {L : List Nat} {A1 : Option Addr} {n1 c1 : Nat} {l1 : List UInt8} {lv m at_ : Nat}
theorem pc_off {g n : Nat} {A : Option Addr} (h : 0 < n → ∀ ad, A = some ad → ad.block ≠ g) : Off g n A := h
theorem by_but {A : Option Addr} {n c g : Nat} {l : List UInt8} (h : By W A n c l) (hg : W.grownBy W' (some g)) (ho : Off g n A) : By W' A n c l := ⟨h.sl.nb hg ho, h.len, h.cap, h.none_⟩
theorem PcI.other {g : Nat} (h : PcI W gok gn gw gat gb gl X cx L A1 n1 c1 l1 lv m at_) (ho : PcO gok gn gw gat gb gl X A1 n1) (hg : W.grownBy W' (some g)) (hp : gok < g) : PcI W' gok gn gw gat gb gl X cx L A1 n1 c1 l1 lv m at_ := by
  obtain ⟨o1, o2, o3, o4, o5, ox, oa⟩ := ho
  have e : ∀ k, k ≤ gok → (some g : Option Nat) ≠ some k := fun k hk e => by injection e; omega
  exact ⟨h.bo.grown hg (e _ (by omega)), h.bn.grown hg (e _ (by omega)), h.bw.grown hg (e _ (by omega)), h.ba.grown hg (e _ (by omega)), h.bb.grown hg (e _ (by omega)), h.bl.grown hg (e _ (by omega)),
    h.sx.nb hg (pc_off fun _ ad e => by have := ox ad e; omega), by_but h.sb hg (pc_off fun h0 ad e => by have := oa h0 ad e; omega)⟩
theorem PcI.set_ok (h : PcI W gok gn gw gat gb gl X cx L A1 n1 c1 l1 lv m at_) (ho : PcO gok gn gw gat gb gl X A1 n1) : PcI (W.setCell ⟨gok, 0, none⟩ (.bool true)) gok gn gw gat gb gl X cx L A1 n1 c1 l1 lv m at_ := by
  obtain ⟨o1, o2, o3, o4, o5, ox, oa⟩ := ho
  have hg : W.grownBy (W.setCell ⟨gok, 0, none⟩ (.bool true)) (some gok) := but_setCell (but_refl _ _) 0 _
  exact ⟨h.bo.set 0 _, h.bn.set_other _ _ (by simp; omega), h.bw.set_other _ _ (by simp; omega), h.ba.set_other _ _ (by simp; omega), h.bb.set_other _ _ (by simp; omega), h.bl.set_other _ _ (by simp; omega),
    h.sx.nb hg (pc_off fun _ ad e => by have := ox ad e; omega), by_but h.sb hg (pc_off fun h0 ad e => by have := oa h0 ad e; omega)⟩
theorem PcI.set_n (h : PcI W gok gn gw gat gb gl X cx L A1 n1 c1 l1 lv m at_) (ho : PcO gok gn gw gat gb gl X A1 n1) (m' : Nat) : PcI (W.setCell ⟨gn, 0, none⟩ (.int .i64 (m' : Int))) gok gn gw gat gb gl X cx L A1 n1 c1 l1 lv m' at_ := by
  obtain ⟨o1, o2, o3, o4, o5, ox, oa⟩ := ho
  have hg : W.grownBy (W.setCell ⟨gn, 0, none⟩ (.int .i64 (m' : Int))) (some gn) := but_setCell (but_refl _ _) 0 _
  exact ⟨h.bo.set_other _ _ (by simp; omega), h.bn.set 0 _, h.bw.set_other _ _ (by simp; omega), h.ba.set_other _ _ (by simp; omega), h.bb.set_other _ _ (by simp; omega), h.bl.set_other _ _ (by simp; omega),
    h.sx.nb hg (pc_off fun _ ad e => by have := ox ad e; omega), by_but h.sb hg (pc_off fun h0 ad e => by have := oa h0 ad e; omega)⟩
theorem PcI.set_at (h : PcI W gok gn gw gat gb gl X cx L A1 n1 c1 l1 lv m at_) (ho : PcO gok gn gw gat gb gl X A1 n1) (a' : Nat) : PcI (W.setCell ⟨gat, 0, none⟩ (.int .i64 (a' : Int))) gok gn gw gat gb gl X cx L A1 n1 c1 l1 lv m a' := by
  obtain ⟨o1, o2, o3, o4, o5, ox, oa⟩ := ho
  have hg : W.grownBy (W.setCell ⟨gat, 0, none⟩ (.int .i64 (a' : Int))) (some gat) := but_setCell (but_refl _ _) 0 _
  exact ⟨h.bo.set_other _ _ (by simp; omega), h.bn.set_other _ _ (by simp; omega), h.bw.set_other _ _ (by simp; omega), h.ba.set 0 _, h.bb.set_other _ _ (by simp; omega), h.bl.set_other _ _ (by simp; omega),
    h.sx.nb hg (pc_off fun _ ad e => by have := ox ad e; omega), by_but h.sb hg (pc_off fun h0 ad e => by have := oa h0 ad e; omega)⟩
end
/-- The bytes of a block from off on, f of them, have turned, and nothing else of it. -/
structure Turned (cs cs' : List Value) (off f : Nat) : Prop where
  len : cs'.length = cs.length
  fore : cs'.take off = cs.take off
  aft : cs'.drop (off + f) = cs.drop (off + f)
theorem Turned.refl (cs : List Value) (off f : Nat) : Turned cs cs off f := ⟨rfl, rfl, rfl⟩
theorem Turned.step {cs cs' : List Value} {off j : Nat} (h : Turned cs cs' off j) (v : Value) : Turned cs (cs'.set (off + j) v) off (j + 1) := by
  refine ⟨by rw [List.length_set]; exact h.len, ?_, ?_⟩
  · rw [List.take_set_of_le (by omega)]; exact h.fore
  · rw [List.drop_set_of_lt (by omega), ← Nat.add_assoc, ← List.drop_drop, h.aft, List.drop_drop]
theorem Turned.at_ {cs cs' : List Value} {off j : Nat} (h : Turned cs cs' off j) (i : Nat) (hi : off + j ≤ i) : cs'[i]? = cs[i]? := by
  have h1 : (cs'.drop (off + j))[i - (off + j)]? = (cs.drop (off + j))[i - (off + j)]? := by rw [h.aft]
  rw [List.getElem?_drop, List.getElem?_drop, show off + j + (i - (off + j)) = i by omega] at h1
  exact h1

set_option maxRecDepth 100000 in
set_option maxHeartbeats 4000000 in
theorem pieces1_any (W : World) (gok gn gw gat gb gl : Nat) (X : Option Addr) (cx : Nat) (L : List Nat) (A1 : Option Addr) (n1 c1 : Nat) (l1 : List UInt8) (lv m at_ f : Nat) (bp off cp : Nat) (cs : List Value) (t : TypeId)
    (h : PcI W gok gn gw gat gb gl X cx L A1 n1 c1 l1 lv m at_) (ho : PcO gok gn gw gat gb gl X A1 n1) (hp : gok < bp) (hm : m < L.length) (hLl : L.length ≤ 1000000) (hf : L[m]? = some f) (hf1 : 1 ≤ f) (haf : at_ + f ≤ n1) (hn1 : n1 ≤ 1000000) (hlv : lv < 256)
    (hbp : Bl W bp cs t) (hcs : (cs.drop off).take f = cb ((l1.drop at_).take f)) (hof : off + f ≤ cs.length) :
    Calls Try.prog 16 #[.int .i64 (at_ : Int), .slice (some ⟨bp, off, none⟩) f cp, .pointer (some ⟨gok, 0, none⟩), .pointer (some ⟨gn, 0, none⟩), .pointer (some ⟨gw, 0, none⟩), .pointer (some ⟨gat, 0, none⟩), .pointer (some ⟨gb, 0, none⟩), .pointer (some ⟨gl, 0, none⟩)] W fun e W' =>
      e = .returned (.bool (decide (m + 1 ≤ lv))) ∧ PcI W' gok gn gw gat gb gl X cx L A1 n1 c1 l1 lv (m + 1) (at_ + f) ∧ Turns [gok, gn, gat, bp] W W' ∧ ∃ cs', Bl W' bp cs' t ∧ Turned cs cs' off f := by
  have HO := Lib.hid ho
  obtain ⟨o1, o2, o3, o4, o5, ox, oa⟩ := ho
  obtain ⟨a, rfl, hab, hac⟩ := h.sb.sl.2 (by omega)
  obtain ⟨ax, rfl, hxb, hxc⟩ := h.sx.2 (by omega)
  have oxx := ox ax rfl
  have oaa := oa (by omega) a rfl
  have HL1 := Lib.hid h.sb.len
  have HCP := Lib.hid h.sb.cap
  have HPC := Lib.hid h
  have HCS := Lib.hid hcs
  have HBP := Lib.hid hbp
  have HFO := Lib.hid hf
  have D : Below W.heap.size W W.drew := (Below.refl _ W).drew
  have c_ok : W.drew.cell? ⟨gok, 0, none⟩ = some (.bool true) := (h.bo.next D).cell 0
  have c_n : W.drew.cell? ⟨gn, 0, none⟩ = some (.int .i64 (m : Int)) := (h.bn.next D).cell 0
  have c_w : W.drew.cell? ⟨gw, 0, none⟩ = some (.slice (some ax) L.length cx) := (h.bw.next D).cell 0
  have c_a : W.drew.cell? ⟨gat, 0, none⟩ = some (.int .i64 (at_ : Int)) := (h.ba.next D).cell 0
  have c_b : W.drew.cell? ⟨gb, 0, none⟩ = some (.slice (some a) n1 c1) := (h.bb.next D).cell 0
  have c_x : W.drew.cell? (ax.add m) = some (.int .i64 (f : Int)) := by
    have hLm : L[m] = f := by have := hf; rw [List.getElem?_eq_getElem hm] at this; injection this
    have := hxc m _ (is_at hm)
    rw [hLm] at this
    exact this
  have f_ok := (h.bo.next D).frozen 0
  have hpl : ((l1.drop at_).take f).length = f := by rw [List.length_take, List.length_drop]; have := HL1.out; omega
  obtain ⟨P, hP⟩ : ∃ P, P = (l1.drop at_).take f := ⟨_, rfl⟩
  rw [← hP] at hpl hcs
  have sp : Sl W.drew W.drew.heap.size (some ⟨bp, off, none⟩) f (cb P) := ((hbp.sl (o := off) (n := f) hcs.symm hof).up hbp.lt).nx D
  have sq : Sl W.drew W.drew.heap.size (some (a.add at_)) f (cb P) := by
    refine ⟨by rw [cb_len, hpl], fun _ => ⟨_, rfl, by rw [add_block]; exact hab, fun j u hu => ?_⟩⟩
    rw [add_add]
    refine hac _ u ?_
    have hj : j < f := by
      have := (List.getElem?_eq_some_iff.1 hu).1
      rwa [cb_len, hpl] at this
    rw [← hu, hP]
    simp only [cb, List.getElem?_map, List.getElem?_take_of_lt hj, List.getElem?_drop]
  have k_p := u8_str sp cp
  have k_q := u8_str sq (c1 - at_)
  have HKP := Lib.hid k_p
  have HKQ := Lib.hid k_q
  have HPL := Lib.hid hpl
  have m0 : (0 : Int) ≤ (m : Int) := by omega
  have m1 : (m : Int) < (L.length : Int) := by omega
  have m2 : (m < L.length) = True := eq_true hm
  have HCSP : Hid ((cs.drop off).take f = cb P) := hcs
  clear k_p k_q sp sq hP hpl hcs hbp h hf hac hxc ox oa hab hxb
  go_enter Try.func16, Try.ntmps16
  go_wp2_with fail
  go_still_tail 34, (by kernel_rfl)
  refine wpStill_convert (by kernel_rfl) 25 9 _ rfl _ _ rfl HKP.out ?_
  simp only [Act.put, List.setIfInBounds_toArray, List.set_cons_zero, List.set_cons_succ]
  iterate 6 still_step
  refine wpStill_slice_lh (by kernel_rfl) 25 _ _ _ rfl 5 Try.underlying25 u8_size a n1 c1 at_ (at_ + f) .i64 .i64 _ _ rfl rfl rfl rfl ?eH (by omega) (by have := HCP.out; omega) (by have := HCP.out; omega) ?_
  case eH => rw [IntKind.wrap_i64]; omega
  rw [show at_ + f - at_ = f by omega]
  simp only [Act.put, List.setIfInBounds_toArray, List.set_cons_zero, List.set_cons_succ]
  refine wpStill_convert (by kernel_rfl) 25 9 _ rfl _ _ rfl HKQ.out ?_
  simp only [Act.put, List.setIfInBounds_toArray, List.set_cons_zero, List.set_cons_succ]
  repeat still_step
  refine wpStill_nil ?_
  change wpList _ _ _ _ _ W.drew
  clear c_n c_w c_a c_b c_x
  go_upto_region 2 with fail
  obtain ⟨W2, hW2⟩ : ∃ W2, W2 = (W.setCell ⟨gok, 0, none⟩ (.bool true)).drew := ⟨_, rfl⟩
  have h2 : PcI W2 gok gn gw gat gb gl (some ax) cx L (some a) n1 c1 l1 lv m at_ := by rw [hW2]; exact (HPC.out.set_ok HO.out).next ((Below.refl _ _).drew)
  have t2 : Turns [gok, gn, gat, bp] W W2 := by rw [hW2]; exact Turns.of_but (but_drewN (but_setCell (but_refl _ _) 0 _) 1) (by simp)
  have b2 : Bl W2 bp cs t := by rw [hW2]; exact (HBP.out.set_other _ _ (by simp; omega)).drew
  rw [← hW2]
  clear hW2 c_ok f_ok
  have c_a : W2.cell? ⟨gat, 0, none⟩ = some (.int .i64 (at_ : Int)) := h2.ba.cell 0
  have f_a := h2.ba.frozen 0
  have H2 := Lib.hid h2
  have T2 := Lib.hid t2
  have B2 := Lib.hid b2
  clear h2 t2 b2
  go_upto_region 3 with fail
  have ea : ((at_ + f : Nat) : Int) = (at_ : Int) + (f : Int) := by omega
  obtain ⟨W3, hW3⟩ : ∃ W3, W3 = W2.setCell ⟨gat, 0, none⟩ (.int .i64 ((at_ : Int) + (f : Int))) := ⟨_, rfl⟩
  have h3 : PcI W3 gok gn gw gat gb gl (some ax) cx L (some a) n1 c1 l1 lv m (at_ + f) := by rw [hW3, ← ea]; exact H2.out.set_at HO.out (at_ + f)
  have t3 : Turns [gok, gn, gat, bp] W W3 := by rw [hW3]; exact T2.out.trans (Turns.of_but (but_setCell (but_refl _ _) 0 _) (by simp))
  have b3 : Bl W3 bp cs t := by rw [hW3]; exact B2.out.set_other _ _ (by simp; omega)
  rw [← hW3]
  clear hW3 c_a f_a H2 T2 B2 ea
  have c_n : W3.cell? ⟨gn, 0, none⟩ = some (.int .i64 (m : Int)) := h3.bn.cell 0
  have f_n := h3.bn.frozen 0
  have H3 := Lib.hid h3
  have T3 := Lib.hid t3
  have B3 := Lib.hid b3
  clear h3 t3 b3
  go_upto_region 4 with fail
  have em : ((m + 1 : Nat) : Int) = (m : Int) + 1 := by omega
  obtain ⟨W4, hW4⟩ : ∃ W4, W4 = W3.setCell ⟨gn, 0, none⟩ (.int .i64 ((m : Int) + 1)) := ⟨_, rfl⟩
  have h4 : PcI W4 gok gn gw gat gb gl (some ax) cx L (some a) n1 c1 l1 lv (m + 1) (at_ + f) := by rw [hW4, ← em]; exact H3.out.set_n HO.out (m + 1)
  have t4 : Turns [gok, gn, gat, bp] W W4 := by rw [hW4]; exact T3.out.trans (Turns.of_but (but_setCell (but_refl _ _) 0 _) (by simp))
  have b4 : Bl W4 bp cs t := by rw [hW4]; exact B3.out.set_other _ _ (by simp; omega)
  rw [← hW4]
  clear hW4 c_n f_n H3 T3 B3
  go_wp2
  go_loopw [54] (fun i wr => ∃ (j : Nat) (cs' : List Value), j ≤ f ∧ i = .int .i64 (j : Int) ∧ PcI wr gok gn gw gat gb gl (some ax) cx L (some a) n1 c1 l1 lv (m + 1) (at_ + f) ∧ Turns [gok, gn, gat, bp] W wr ∧ Bl wr bp cs' t ∧ Turned cs cs' off j) (fun i _ => f - (intOf i).toNat)
  case atStart => exact ⟨0, cs, Nat.zero_le _, rfl, h4, t4, b4, Turned.refl _ _ _⟩
  case round =>
    clear h4 t4 b4
    obtain ⟨j, cs', hj, rfl, h5, t5, b5, d5⟩ := hrel
    by_cases hlt : j < f
    · obtain ⟨x, hx⟩ : ∃ x, x = P[j]'(by rw [HPL.out]; exact hlt) := ⟨_, rfl⟩
      have hcx : wr.cell? ⟨bp, off + j, none⟩ = some (.int .u8 (x.toNat : Int)) := by
        rw [b5.cell, d5.at_ _ (Nat.le_refl _)]
        have h1 : ((cs.drop off).take f)[j]? = cs[off + j]? := by rw [List.getElem?_take_of_lt hlt, List.getElem?_drop]
        rw [← h1, HCSP.out, hx]
        rw [cb, List.getElem?_map, List.getElem?_eq_getElem (by rw [HPL.out]; exact hlt)]
        rfl
      have hfx := b5.frozen (off + j)
      have H5 := Lib.hid h5
      have T5 := Lib.hid t5
      have B5 := Lib.hid b5
      have D5 := Lib.hid d5
      have j0 : (0 : Int) ≤ (j : Int) := by omega
      have j1 : (j : Int) < (f : Int) := by omega
      clear h5 t5 b5 d5 hx
      go_wp2
      go_roundw
      case rel => exact ⟨j + 1, _, by omega, by go_num, H5.out.other HO.out (but_setCell (but_refl _ _) (off + j) _) hp, T5.out.trans (Turns.of_but (but_setCell (but_refl _ _) (off + j) _) (by simp)), B5.out.set (off + j) _, D5.out.step _⟩
      case measure => simp [intOf]; omega
    · have hjf : j = f := by omega
      rw [hjf] at d5
      have j1 : ¬ (j : Int) < (f : Int) := by omega
      have c_ok : wr.cell? ⟨gok, 0, none⟩ = some (.bool true) := h5.bo.cell 0
      have c_n : wr.cell? ⟨gn, 0, none⟩ = some (.int .i64 ((m + 1 : Nat) : Int)) := h5.bn.cell 0
      have c_l : wr.cell? ⟨gl, 0, none⟩ = some (.int .u8 (lv : Int)) := h5.bl.cell 0
      have H5 := Lib.hid h5
      clear h5
      go_wp2
      go_ret
      exact ⟨ret_bool (by simp only [decide_eq_decide]; omega), H5.out, t5, cs', b5, d5⟩

end Go.Proofs.Ytkopdkamhkmefaa
