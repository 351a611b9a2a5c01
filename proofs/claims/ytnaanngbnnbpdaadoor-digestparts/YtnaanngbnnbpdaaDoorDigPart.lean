/- The walk of the law DigestParts. -/
import Derived.Test.YtnaanngbnnbpdaaDoorDigAdd
namespace Go.Proofs.YtnaanngbnnbpdaaDoor
open Go.RowKit
set_option linter.unusedVariables false

theorem bytes_info : (Tryd.prog.info? 22).map (fun i => (i.zero, i.size, i.bytes)) = some (some (.slice none 0 0), 1, 24) := by kernel_rfl

theorem sl_row {w w' : World} {row : Option Nat} {A : Option Addr} {n : Nat} {xs : List Value} (h : Sl w w.heap.size A n xs) (hg : w.grownBy w' row) (ho : 0 < n → ∀ ad, A = some ad → row ≠ some ad.block) : Sl w' w'.heap.size A n xs :=
  ⟨h.1, fun hn => by
    obtain ⟨ad, e, hb, hc⟩ := h.2 hn
    refine ⟨ad, e, Nat.lt_of_lt_of_le hb hg.size, fun j u hu => ?_⟩
    rw [World.cell?_of_block (w := w) (hg.block _ (by rw [add_block]; exact hb) (fun e2 => ho hn ad e (by rw [add_block] at e2; exact e2.symm)))]
    exact hc j u hu⟩
/-- The parts that are gathered so far: each reads as it should, and lies apart from the two slices that grow. -/
def PInv (l0 : List (List UInt8)) (w : World) (a p : Option Nat) (k : Nat) (vs : List Value) : Prop :=
  ∀ j (hj : j < l0.length), j < k → ∃ A c, vs[j]? = some (.slice A l0[j].length c) ∧ Sl w w.heap.size A l0[j].length (cb l0[j]) ∧ l0[j].length ≤ c ∧ (A = none → c = 0) ∧ (0 < l0[j].length → ∀ ad, A = some ad → a ≠ some ad.block ∧ p ≠ some ad.block)
section
variable {l0 : List (List UInt8)} {w w' : World} {a a' p p' : Option Nat} {k : Nat} {vs : List Value}
theorem PInv.next (h : PInv l0 w a p k vs) (hb : Below w.heap.size w w') : PInv l0 w' a p k vs := fun j hj hk => by
  obtain ⟨A, c, h1, h2, h3⟩ := h j hj hk
  exact ⟨A, c, h1, h2.nx hb, h3⟩
theorem PInv.turn (h : PInv l0 w a p k vs) (hg : w.grownBy w' a) (ha : a' = a ∨ a' = some w.heap.size) : PInv l0 w' a' p k vs := fun j hj hk => by
  obtain ⟨A, c, h1, h2, h3, h4, h5⟩ := h j hj hk
  refine ⟨A, c, h1, sl_row h2 hg (fun hn ad e => (h5 hn ad e).1), h3, h4, fun hn ad e => ⟨?_, (h5 hn ad e).2⟩⟩
  rcases ha with ha | ha
  · rw [ha]; exact (h5 hn ad e).1
  · rw [ha]
    obtain ⟨ad', e', hb, _⟩ := h2.2 hn
    rw [e] at e'
    injection e' with e'
    subst e'
    intro e2
    injection e2 with e2
    omega
theorem PInv.turn2 (h : PInv l0 w a p k vs) (hg : w.grownBy w' p) (hp : p' = p ∨ p' = some w.heap.size) : PInv l0 w' a p' k vs := fun j hj hk => by
  obtain ⟨A, c, h1, h2, h3, h4, h5⟩ := h j hj hk
  refine ⟨A, c, h1, sl_row h2 hg (fun hn ad e => (h5 hn ad e).2), h3, h4, fun hn ad e => ⟨(h5 hn ad e).1, ?_⟩⟩
  rcases hp with hp | hp
  · rw [hp]; exact (h5 hn ad e).2
  · rw [hp]
    obtain ⟨ad', e', hb, _⟩ := h2.2 hn
    rw [e] at e'
    injection e' with e'
    subst e'
    intro e2
    injection e2 with e2
    omega
theorem PInv.snoc (h : PInv l0 w a p k vs) (hk : k < l0.length) (hv : vs.length = k) {A : Option Addr} {c : Nat} (h2 : Sl w w.heap.size A l0[k].length (cb l0[k])) (h3 : l0[k].length ≤ c) (h4 : A = none → c = 0)
    (h5 : 0 < l0[k].length → ∀ ad, A = some ad → a ≠ some ad.block ∧ p ≠ some ad.block) : PInv l0 w a p (k + 1) (vs ++ [.slice A l0[k].length c]) := fun j hj hjk => by
  rcases (show j < k ∨ j = k by omega) with hlt | rfl
  · obtain ⟨A', c', h1, h⟩ := h j hj hlt
    exact ⟨A', c', by rw [List.getElem?_append_left (by omega)]; exact h1, h⟩
  · exact ⟨A, c, by rw [List.getElem?_append_right (by omega), hv]; simp, h2, h3, h4, h5⟩
theorem PInv.parts {Ap : Option Addr} {cp : Nat} {base : Nat} {e : TypeId} (h : PInv l0 w a p l0.length vs) (ho : w.ownsRow base e 1 (.slice Ap l0.length cp) l0.length vs) : Parts w w.heap.size Ap l0.length l0 := by
  have hs := Sl.own ho
  refine ⟨vs, hs, hs.1, fun j hj => ?_⟩
  obtain ⟨A, c, h1, h2, h3, h4, _⟩ := h j hj hj
  exact ⟨_, h1, A, c, rfl, h2, h3, h4⟩
end

theorem dis_sym {a p : Option Nat} (h : a = none ∨ a ≠ p) : p = none ∨ p ≠ a := by
  rcases h with h | h
  · cases p with
    | none => exact .inl rfl
    | some x => right; rw [h]; intro e; cases e
  · exact .inr (Ne.symm h)
theorem own_where {w : World} {base : Nat} {e : TypeId} {A : Option Addr} {n c : Nat} {xs : List Value} (h : w.ownsRow base e 1 (.slice A n c) n xs) {ad : Addr} (e1 : A = some ad) : base ≤ ad.block ∧ ad.block < w.heap.size := by
  subst e1
  exact h.lt ad.block rfl
theorem dis_new {a p : Option Nat} {g : Nat} (ha : ∀ x, a = some x → x < g) (hp : p = some g) : a = none ∨ a ≠ p := by
  right
  rw [hp]
  intro e
  have := ha g e
  omega

set_option maxHeartbeats 2000000 in
theorem digestParts_walk (A0 : Option Addr) (n0 c0 : Nat) (l0 : List (List UInt8)) (w : World) (hT : Tabs w) (s0 : InParts w A0 n0 c0 l0) :
    Calls Tryd.prog 4 #[.slice A0 n0 c0] w fun e w' => e = .returned (.bool true) ∧ Below w.heap.size w w' := by
  obtain ⟨i0, hi, hz0, hz1, hz2⟩ := info_parts u8_info
  obtain ⟨i1, hj, hy0, hy1, hy2⟩ := info_parts bytes_info
  have hp := s0.parts
  have r0 := s0.room
  have p0 := s0.cap
  have HE := Lib.hid s0.each
  have hpl := hp.len
  clear s0
  subst hpl
  have HT := Lib.hid hT
  have hws := hT.size
  clear hT
  have hm0 : l0.length ≤ maxLen := by omega
  by_cases hfew : fewB l0 = true
  · obtain ⟨h20, h400⟩ := few_true hfew
    have H400 := Lib.hid h400
    have HF := Lib.hid hfew
    clear h400 hfew
    go_enter Tryd.func4, Tryd.ntmps4
    go_wp2_with fail
    refine (few_any l0 _ _ _ _ _ hp hm0 HE.out).mono ?_
    rintro e w' ⟨rfl, rfl⟩
    rw [HF.out]
    unfold maxLen at hm0 r0
    go_wp2
    go_loopw [3, 4, 13] (fun va vp i wr => ∃ (k N : Nat) (F : List UInt8) (vs : List Value), k ≤ l0.length ∧ i = .int .i64 k ∧ Hid (F = (l0.take k).flatten) ∧ Hid (N = F.length) ∧ N ≤ 400 * k ∧ wr.ownsRow w.heap.size 5 1 va N (cb F) ∧ wr.ownsRow w.heap.size 22 1 vp k vs
      ∧ (va.ownBlock = none ∨ va.ownBlock ≠ vp.ownBlock) ∧ PInv l0 wr va.ownBlock vp.ownBlock k vs ∧ Below w.heap.size w wr) (fun _ _ i _ => l0.length - (intOf i).toNat)
    case atStart => exact ⟨0, 0, [], [], by omega, rfl, (rfl : _ = _), (rfl : _ = _), by omega, World.ownsRow_nil _ _ _ _, World.ownsRow_nil _ _ _ _, .inl rfl, fun j _ h => absurd h (by omega), Below.refl _ _⟩
    case round =>
      obtain ⟨k, N, F, vs, hk, rfl, HFk, HN, hN, hown, hpar, hdis, hpi, hb⟩ := hrel
      obtain ⟨Aa, ca, rfl⟩ := own_form hown
      obtain ⟨Ap, cp, rfl⟩ := own_form hpar
      obtain ⟨w0, hw0⟩ : ∃ x, x = wr := ⟨wr, rfl⟩
      subst hw0
      by_cases hlt : k < l0.length
      · have hp2 := hp.below hb
        obtain ⟨ad, A', c', rfl, hcell, hsl, hcc, hnn⟩ := hp2.at_ hlt
        have hl4 : l0[k].length ≤ 400 := H400.out _ (List.getElem_mem hlt)
        have HF1 : Hid (F ++ l0[k] = (l0.take (k + 1)).flatten) := by unfold Hid; rw [flat_take l0 k hlt, HFk.out]
        clear hp2
        have hbs := hb.size
        go_wp2_with (at_builtin; refine wpList_append_sl _ rfl _ _ 22 rfl w.heap.size 5 i0 (.int .u8 0) 1 Tryd.underlying22 hi hz0 hz1 hz2 rfl _ N _ rfl hown _ A' l0[k].length c' (cb l0[k]) rfl hsl hnn (cb_one _) (by unfold maxLen; omega) (by omega) hb.size ?_; intro v1 w1 hown1 hgrow1 hat1)
        have hb1 := below_app hb (Nat.le_refl _) hown hgrow1
        rw [← cb_append] at hown1
        have hpar1 := hpar.kept hgrow1 (dis_sym hdis)
        have hpi1 := hpi.turn hgrow1 hat1
        have hdis1 : v1.ownBlock = none ∨ v1.ownBlock ≠ (Value.slice Ap k cp).ownBlock := by
          rcases hat1 with h | h
          · rw [h]; exact hdis
          · exact dis_sym (dis_new (fun x hx => own_lt hpar hx) h)
        have hv1 : ∀ x, v1.ownBlock = some x → x < w1.heap.size := fun x hx => own_lt hown1 hx
        have hvp : ∀ x, (Value.slice Ap k cp).ownBlock = some x → x < w1.heap.size := fun x hx => own_lt hpar1 hx
        have hsl1 : Sl w1 w.heap.size A' l0[k].length (cb l0[k]) := hsl.map_ fun p hpp => (hb1.cell hpp).trans (hb.cell hpp).symm
        have HV1 := Lib.hid hv1
        have HVP := Lib.hid hvp
        have HD1 := Lib.hid hdis1
        have HPI := Lib.hid hpi1
        clear hgrow1 hat1 hown hpar hdis hpi hsl hb hv1 hvp hdis1 hpi1 hcell
        refine (own_any l0[k] _ _ _ _ _ hsl1 hnn (by omega) hb1.size).mono ?_
        rintro e w2 ⟨A2, c2, rfl, h2⟩
        have hown2 := own_below hown1 h2.below
        have hpar2 := own_below hpar1 h2.below
        have hpi2 := Lib.hid (HPI.out.next h2.below)
        have hb2 := next hb1 h2.below
        have hbs2 := hb2.size
        clear hown1 hpar1 HPI hsl1
        go_wp2_with (at_builtin; refine wpList_append_own_at _ rfl _ _ 30 rfl w.heap.size 22 i1 (.slice none 0 0) 1 24 Tryd.underlying30 hj hy0 hy1 hy2 rfl (by decide) _ _ _ rfl (hpar2.alloc _) ⟨w2.heap.size, 0, none⟩ 1 1 _ rfl rfl (cell_one_new _ _ _) (by simp [Value.oneCell']) (by unfold maxLen; omega) (by omega) (by simp; omega) ?_; intro v3 w3 hpar3 hgrow3 hnil3 hat3)
        have hba : Below w2.heap.size w2 (w2.alloc (.cells #[.slice A2 l0[k].length c2] 22)) := (Below.refl _ w2).alloc (Nat.le_refl _) _
        have hown3 := (hown2.alloc _).kept hgrow3 HD1.out
        have hb3 := below_app1 hb2 (Nat.le_refl _) hpar2 hgrow3
        have hpi3 := (hpi2.out.next hba).turn2 hgrow3 hat3
        have hx3 : Sl w3 w3.heap.size A2 l0[k].length (cb l0[k]) := sl_row (h2.sl.nx hba) hgrow3 (fun hn ad e => by have h6 := (own_where h2.own e).1; intro e2; have := HVP.out _ e2; omega)
        have hdis3 : v1.ownBlock = none ∨ v1.ownBlock ≠ v3.ownBlock := by
          rcases hat3 with h | h
          · rw [h]; exact HD1.out
          · exact dis_new (fun x hx => by have h6 := HV1.out x hx; have h7 := h2.below.size; have h8 := hba.size; omega) h
        have hvl : vs.length = k := by have := hpar2.1; omega
        have hpi4 := hpi3.snoc hlt hvl hx3 (own_cap h2.own) h2.none_ (fun hn ad e => by
          obtain ⟨h6, h7⟩ := own_where h2.own e
          refine ⟨fun e2 => by have := HV1.out _ e2; omega, fun e2 => ?_⟩
          rcases hat3 with h | h
          · rw [h] at e2; have := HVP.out _ e2; omega
          · rw [h] at e2; injection e2 with e2; have h8 := hba.size; omega)
        have HFl : Hid (N + l0[k].length = (F ++ l0[k]).length) := by unfold Hid; rw [List.length_append, HN.out]
        have HP4 := Lib.hid hpi4
        have HPR := Lib.hid hpar3
        clear hgrow3 hnil3 hat3 hpi2 hba hpi3 hx3 hown2 hpar2 h2 hpi4 hpar3 hvl
        go_wp2
        go_roundw
        case rel => exact ⟨k + 1, N + l0[k].length, F ++ l0[k], _, by omega, by go_num, HF1, HFl, by omega, hown3, HPR.out, hdis3, HP4.out, hb3⟩
        case measure => simp [intOf]; omega
      · obtain rfl : k = l0.length := by omega
        have hparts := hpi.parts hpar
        have hFe : F = l0.flatten := by rw [HFk.out, List.take_length]
        have HFe := Lib.hid hFe
        have hFN : l0.flatten.length ≤ 100000000 := by rw [← hFe, ← HN.out]; omega
        rw [hFe] at hown HN
        clear hFe hpi
        go_wp2_with fail
        refine (of_any l0 _ _ _ _ _ hparts (Nat.le_refl _) (by omega) (HT.out.next hb) hFN).mono ?_
        rintro e w1 ⟨rfl, hb1'⟩
        have hown1 := own_below hown hb1'
        have hb1 := next hb hb1'
        clear hown hpar hparts hb hb1'
        go_wp2_with fail
        refine (rof_any l0.flatten _ _ _ _ _ (Sl.own hown1) (own_none hown1) (Nat.le_refl _) (by omega)).mono ?_
        rintro e w2 ⟨A2, c2, rfl, h2⟩
        have hb2 := next hb1 h2.below
        have hsr := h2.sl
        clear hown1 hb1 h2
        go_wp2_with fail
        refine (is_any (sha l0.flatten) (sha l0.flatten) _ _ _ _ _ (sha_len _) hsr (Nat.le_refl _)).mono ?_
        rintro e w3 ⟨rfl, hb3'⟩
        rw [same_self]
        have hb3 := next hb2 hb3'
        clear hb2 hb3' hsr
        go_wp2_with fail
        refine (awake2_any _ (HT.out.next hb3)).mono ?_
        rintro e w4 ⟨rfl, hb4⟩
        go_wp2
        go_ret
        exact ⟨rfl, next hb3 hb4⟩
  · have hff : fewB l0 = false := by simpa using hfew
    have HF := Lib.hid hff
    clear hff hfew
    go_enter Tryd.func4, Tryd.ntmps4
    go_wp2_with fail
    refine (few_any l0 _ _ _ _ _ hp hm0 HE.out).mono ?_
    rintro e w' ⟨rfl, rfl⟩
    rw [HF.out]
    go_wp2_with fail
    refine (awake2_any _ HT.out).mono ?_
    rintro e w1 ⟨rfl, hb⟩
    go_wp2
    go_ret
    exact ⟨rfl, hb⟩

end Go.Proofs.YtnaanngbnnbpdaaDoor

