/- Layer 11, keyfile: the text of a ring, and what a text is read as. No function of the program is walked here. -/
import Derived.Test.YtlnoopmblmkgkaaGreatDoorKefP
import Derived.Test.YtlnoopmblmkgkaaGreatDoorLabE
namespace Go.Proofs.YtlnoopmblmkgkaaGreatDoor
set_option maxRecDepth 100000
open Go Go.RowKit
set_option linter.unusedVariables false
set_option linter.unusedSimpArgs false

/-- An entry of a ring as bytes. -/
def entL (x : Nat × List UInt8) : List UInt8 := UInt8.ofNat x.1 :: x.2
/-- A ring by its epochs. -/
def sortR (m : RM) : RM := (repochs m).map fun e => (e.toNat, (rfind m e).getD [])
/-- The text of a ring. -/
def textR (m : RM) : List UInt8 := (sortR m).flatMap entL

/-- Entries whose epochs rise. -/
structure Rising (s : RM) : Prop where
  each : ∀ x ∈ s, 1 ≤ x.1 ∧ x.1 ≤ 64 ∧ x.2.length = 32
  up : s.Pairwise fun x y => x.1 < y.1
theorem Rising.ok {s : RM} (h : Rising s) : RingOk s := ⟨h.each, by
  rw [List.nodup_iff_pairwise_ne, List.pairwise_map]
  exact h.up.imp fun hlt => Nat.ne_of_lt hlt⟩
theorem rising_nil : Rising [] := ⟨fun x h => absurd h (by simp), List.Pairwise.nil⟩

theorem sortR_rising {m : RM} (ok : RingOk m) : Rising (sortR m) := by
  refine ⟨fun x hx => ?_, ?_⟩
  · obtain ⟨e, he, rfl⟩ := List.mem_map.1 hx
    obtain ⟨y, hy, hye⟩ := (repochs_mem ok e).1 he
    have h1 := ok.each y hy
    have hs : (rfind m e).isSome = true := by unfold repochs at he; exact (List.mem_filter.1 he).2
    obtain ⟨l, hl⟩ := Option.isSome_iff_exists.1 hs
    have h2 := rfind_len ok hl
    simp only [hl, Option.getD_some]
    omega
  · unfold sortR
    rw [List.pairwise_map]
    have hpos : ∀ e ∈ repochs m, 1 ≤ e := fun e he => by
      obtain ⟨y, hy, hye⟩ := (repochs_mem ok e).1 he
      have := ok.each y hy
      omega
    refine (repochs_sorted m).imp_of_mem fun {a b} ha hb hab => ?_
    have h1 := hpos a ha
    have h2 := hpos b hb
    show a.toNat < b.toNat
    omega

theorem find_mem : ∀ {s : RM}, (s.map (·.1)).Nodup → ∀ {x : Nat × List UInt8}, x ∈ s → s.find? (fun y => decide ((y.1 : Int) = (x.1 : Int))) = some x
  | y :: s, hn, x, hx => by
    rw [List.map_cons, List.nodup_cons] at hn
    rw [List.find?_cons]
    rcases List.mem_cons.1 hx with rfl | hx
    · simp
    · have hne : ¬ ((y.1 : Int) = (x.1 : Int)) := fun e => hn.1 (by rw [show y.1 = x.1 by omega]; exact List.mem_map.2 ⟨x, hx, rfl⟩)
      rw [decide_eq_false hne]
      exact find_mem hn.2 hx
theorem rfind_mem {s : RM} (ok : RingOk s) {x : Nat × List UInt8} (hx : x ∈ s) : rfind s x.1 = some x.2 := by
  unfold rfind
  rw [find_mem ok.one hx]; rfl
theorem ring_nodup {s : RM} (ok : RingOk s) : s.Nodup := by
  have := ok.one
  rw [List.nodup_iff_pairwise_ne, List.pairwise_map] at this
  rw [List.nodup_iff_pairwise_ne]
  exact this.imp fun h e => h (by rw [e])
/-- The ring by its epochs has the same masters. -/
theorem rfind_sortR {m : RM} (ok : RingOk m) (e : Int) : rfind (sortR m) e = rfind m e := by
  have hr := sortR_rising ok
  cases h : rfind m e with
  | some l =>
    have hmem : e ∈ repochs m := by
      obtain ⟨x, hx, he, _⟩ := rfind_some h
      exact (repochs_mem ok e).2 ⟨x, hx, he⟩
    have he := rfind_epo ok h
    have hx : (e.toNat, l) ∈ sortR m := List.mem_map.2 ⟨e, hmem, by rw [h]; rfl⟩
    have := rfind_mem hr.ok hx
    simp only at this
    rw [Int.toNat_of_nonneg (by omega)] at this
    exact this
  | none =>
    cases h2 : rfind (sortR m) e with
    | none => rfl
    | some l =>
      obtain ⟨x, hx, he, _⟩ := rfind_some h2
      obtain ⟨e', he', rfl⟩ := List.mem_map.1 hx
      obtain ⟨y, hy, hye⟩ := (repochs_mem ok e').1 he'
      have h1 := ok.each y hy
      have : (e'.toNat : Int) = e' := by omega
      simp only [this] at he
      subst he
      exact absurd hye (rfind_none h y hy)
theorem sortR_len {m : RM} : (sortR m).length = (repochs m).length := by unfold sortR; rw [List.length_map]
theorem repochs_count {m : RM} (ok : RingOk m) : (repochs m).length = m.length := by
  have hp : (repochs m).Perm (m.map fun x => (x.1 : Int)) := by
    refine (List.perm_ext_iff_of_nodup ((repochs_sorted m).imp (fun h => Int.ne_of_lt h)) ?_).2 fun e => ?_
    · have := ok.one
      rw [List.nodup_iff_pairwise_ne, List.pairwise_map] at this ⊢
      exact this.imp fun h => by omega
    · rw [repochs_mem ok, List.mem_map]
  rw [hp.length_eq, List.length_map]
theorem flat_len {s : RM} (h : ∀ x ∈ s, x.2.length = 32) : (s.flatMap entL).length = 33 * s.length := by
  induction s with
  | nil => rfl
  | cons x s ih =>
    rw [List.flatMap_cons, List.length_append, ih (fun y hy => h y (List.mem_cons_of_mem _ hy)), List.length_cons]
    have := h x (List.mem_cons_self ..)
    simp only [entL, List.length_cons]
    omega
theorem textR_len {m : RM} (ok : RingOk m) : (textR m).length = 33 * m.length := by
  unfold textR
  rw [flat_len (fun x hx => ((sortR_rising ok).each x hx).2.2), sortR_len, repochs_count ok]

/-- The last epoch. -/
def lastE (s : RM) : Nat := (s.getLast?.map (·.1)).getD 0
/-- The k-th entry of a text. -/
def entAt (t : List UInt8) (k : Nat) : Nat × List UInt8 := ((t.getD (33 * k) 0).toNat, (t.drop (33 * k + 1)).take 32)
/-- What the first k entries of a text are read as. -/
def ringOf (t : List UInt8) : Nat → Option RM
  | 0 => some []
  | k + 1 => (ringOf t k).bind fun s => if lastE s < (entAt t k).1 ∧ (entAt t k).1 ≤ 64 then some (s ++ [entAt t k]) else none
theorem ringOf_stop {t : List UInt8} {k : Nat} (h : ringOf t k = none) : ∀ j, k ≤ j → ringOf t j = none
  | 0, hj => by rw [show k = 0 by omega] at h; exact h
  | j + 1, hj => by
    by_cases e : k = j + 1
    · rw [← e]; exact h
    · rw [ringOf, ringOf_stop h j (by omega)]; rfl
theorem lastE_mem {s : RM} (h : Rising s) : ∀ x ∈ s, x.1 ≤ lastE s := by
  intro x hx
  unfold lastE
  rcases List.eq_nil_or_concat s with rfl | ⟨r, y, rfl⟩
  · cases hx
  · simp only [List.concat_eq_append] at h hx ⊢
    rw [List.getLast?_concat]
    simp only [Option.map_some, Option.getD_some]
    rcases List.mem_append.1 hx with hx | hx
    · have := (List.pairwise_append.1 h.up).2.2 x hx y (by simp)
      omega
    · rw [List.mem_singleton.1 hx]; exact Nat.le_refl _
theorem ringOf_rising {t : List UInt8} : ∀ {k : Nat} {s : RM}, 33 * k ≤ t.length → ringOf t k = some s → Rising s ∧ s.length = k
  | 0, s, _, h => by injection h with h; subst h; exact ⟨rising_nil, rfl⟩
  | k + 1, s, hl, h => by
    rw [ringOf] at h
    obtain ⟨s', hs', h⟩ := Option.bind_eq_some_iff.1 h
    obtain ⟨r, hr⟩ := ringOf_rising (by omega) hs'
    split at h
    · rename_i hc
      injection h with h
      subst h
      refine ⟨⟨fun x hx => ?_, ?_⟩, by simp [hr]⟩
      · rcases List.mem_append.1 hx with hx | hx
        · exact r.each x hx
        · rw [List.mem_singleton.1 hx]
          refine ⟨by omega, hc.2, ?_⟩
          unfold entAt
          simp only [List.length_take, List.length_drop]
          omega
      · rw [List.pairwise_append]
        refine ⟨r.up, by simp, fun x hx y hy => ?_⟩
        rw [List.mem_singleton.1 hy]
        have := lastE_mem r x hx
        omega
    · cases h
/-- A ring behind one more entry. -/
theorem put_rising {s : RM} (h : Rising s) {x : Nat × List UInt8} (h1 : lastE s < x.1) (h2 : x.1 ≤ 64) (h3 : x.2.length = 32) : putM s x.1 x.2 = s ++ [x] ∧ putE s x.1 x.2 = 0 ∧ Rising (s ++ [x]) := by
  have hn : rfind s x.1 = none := by
    cases hf : rfind s x.1 with
    | none => rfl
    | some l =>
      obtain ⟨y, hy, he, _⟩ := rfind_some hf
      have := lastE_mem h y hy
      omega
  have he : epo x.1 = true := by unfold epo; simp; omega
  refine ⟨?_, ?_, ⟨fun y hy => ?_, ?_⟩⟩
  · unfold putM; rw [if_pos ⟨he, h3, hn⟩]; rfl
  · unfold putE; rw [if_pos ⟨he, h3⟩, hn]; rfl
  · rcases List.mem_append.1 hy with hy | hy
    · exact h.each y hy
    · rw [List.mem_singleton.1 hy]; exact ⟨by omega, h2, h3⟩
  · rw [List.pairwise_append]
    refine ⟨h.up, by simp, fun a ha y hy => ?_⟩
    rw [List.mem_singleton.1 hy]
    have := lastE_mem h a ha
    omega
theorem entAt_flat : ∀ {s : RM} (h : ∀ x ∈ s, x.2.length = 32 ∧ x.1 < 256) (r : List UInt8) {k : Nat} (hk : k < s.length), entAt (s.flatMap entL ++ r) k = s[k]
  | x :: s, h, r, k, hk => by
    have hx := h x (List.mem_cons_self ..)
    have e0 : (x :: s).flatMap entL ++ r = entL x ++ (s.flatMap entL ++ r) := by rw [List.flatMap_cons, List.append_assoc]
    have hel : (entL x).length = 33 := by simp [entL, hx.1]
    rw [e0]
    cases k with
    | zero =>
      unfold entAt
      have h1 : (entL x ++ (s.flatMap entL ++ r)).getD (33 * 0) 0 = UInt8.ofNat x.1 := rfl
      have h2 : ((entL x ++ (s.flatMap entL ++ r)).drop (33 * 0 + 1)).take 32 = x.2 := by
        show ((x.2 ++ (s.flatMap entL ++ r)).drop 0).take 32 = x.2
        rw [List.drop_zero, take_cut _ _ _ hx.1]
      rw [h1, h2]
      simp only [List.getElem_cons_zero]
      have : (UInt8.ofNat x.1).toNat = x.1 := by simp; omega
      rw [this]
    | succ k =>
      have hk2 : k < s.length := by simpa using hk
      rw [List.getElem_cons_succ, ← entAt_flat (fun y hy => h y (List.mem_cons_of_mem _ hy)) r hk2]
      unfold entAt
      rw [show 33 * (k + 1) + 1 = 33 + (33 * k + 1) by omega, drop_cut _ _ 33 _ hel]
      congr 2
      rw [List.getD_eq_getElem?_getD, List.getD_eq_getElem?_getD, List.getElem?_append_right (by omega), hel]
      congr 2
theorem ringOf_flat {s : RM} (h : Rising s) : ∀ k, k ≤ s.length → ringOf (s.flatMap entL) k = some (s.take k)
  | 0, _ => by simp [ringOf]
  | k + 1, hk => by
    have he : entAt (s.flatMap entL) k = s[k] := by
      have := entAt_flat (s := s) (fun x hx => ⟨(h.each x hx).2.2, by have := (h.each x hx).2.1; omega⟩) [] (k := k) (by omega)
      rwa [List.append_nil] at this
    rw [ringOf, ringOf_flat h k (by omega), Option.bind_some, he]
    have h1 := h.each _ (List.getElem_mem (show k < s.length by omega))
    have hlast : lastE (s.take k) < s[k].1 := by
      unfold lastE
      rcases List.eq_nil_or_concat (s.take k) with e | ⟨r, y, e⟩
      · rw [e]; show 0 < _; omega
      · rw [List.concat_eq_append] at e
        rw [e, List.getLast?_concat]
        simp only [Option.map_some, Option.getD_some]
        have hy : y ∈ s.take k := by rw [e]; simp
        obtain ⟨i, hi, rfl⟩ := List.mem_iff_getElem.1 hy
        rw [List.length_take] at hi
        rw [List.getElem_take]
        exact List.pairwise_iff_getElem.1 h.up i k (by omega) (by omega) (by omega)
    rw [if_pos ⟨hlast, h1.2.1⟩, List.take_succ_eq_append_getElem (by omega)]
/-- The text of a ring is read as the ring by its epochs. -/
theorem ringOf_text {m : RM} (ok : RingOk m) : ringOf (textR m) m.length = some (sortR m) := by
  have h := ringOf_flat (sortR_rising ok) (sortR m).length (Nat.le_refl _)
  rw [List.take_of_length_le (Nat.le_refl _), sortR_len, repochs_count ok] at h
  exact h

/-- The document's way: of each epoch all entries. -/
def rowT (m : RM) (e : Nat) : List UInt8 := (m.filter fun x => decide (x.1 = e)).flatMap fun x => UInt8.ofNat e :: x.2
def outT (m : RM) (k : Nat) : List UInt8 := (List.range k).flatMap fun i => rowT m (i + 1)
theorem rowT_succ (m : RM) (e k : Nat) (hk : k < m.length) : rowT (m.take (k + 1)) e = rowT (m.take k) e ++ (if m[k].1 = e then UInt8.ofNat e :: m[k].2 else []) := by
  unfold rowT
  rw [List.take_succ_eq_append_getElem hk, List.filter_append, List.flatMap_append]
  congr 1
  by_cases h : m[k].1 = e
  · simp [h]
  · simp [h]
theorem outT_succ (m : RM) (k : Nat) : outT m (k + 1) = outT m k ++ rowT m (k + 1) := by
  unfold outT
  rw [List.range_succ, List.flatMap_append]
  simp
theorem rowT_find {m : RM} (ok : RingOk m) (e : Nat) : rowT m e = match rfind m e with | some l => UInt8.ofNat e :: l | none => [] := by
  unfold rowT
  cases h : rfind m e with
  | none =>
    have : m.filter (fun x => decide (x.1 = e)) = [] := by
      rw [List.filter_eq_nil_iff]
      intro x hx
      have := rfind_none h x hx
      simp; omega
    rw [this]; rfl
  | some l =>
    obtain ⟨x, hx, he, rfl⟩ := rfind_some h
    have he2 : x.1 = e := by omega
    have : m.filter (fun x => decide (x.1 = e)) = [x] := by
      have hnd : (m.filter (fun x => decide (x.1 = e))).Nodup := List.Nodup.sublist List.filter_sublist (ring_nodup ok)
      have hmem : ∀ y, y ∈ m.filter (fun x => decide (x.1 = e)) ↔ y ∈ [x] := by
        intro y
        rw [List.mem_filter, List.mem_singleton, decide_eq_true_eq]
        constructor
        · rintro ⟨hy, hye⟩
          have h1 := rfind_mem ok hy
          have h2 := rfind_mem ok hx
          rw [hye] at h1
          rw [he2, h1] at h2
          injection h2 with h2
          exact Prod.ext (by omega) h2
        · rintro rfl
          exact ⟨hx, he2⟩
      exact List.perm_singleton.1 ((List.perm_ext_iff_of_nodup hnd (by simp)).2 hmem)
    rw [this]; simp
theorem outT_all {m : RM} (ok : RingOk m) : outT m 64 = textR m := by
  have gen : ∀ k, outT m k = ((((List.range k).map fun i : Nat => (i : Int) + 1).filter fun e => (rfind m e).isSome).map fun e => ((e.toNat, (rfind m e).getD []) : Nat × List UInt8)).flatMap entL := by
    intro k
    induction k with
    | zero => rfl
    | succ k ih =>
      rw [outT_succ, ih, List.range_succ, List.map_append, List.filter_append, List.map_append, List.flatMap_append, rowT_find ok]
      congr 1
      rw [show ((k + 1 : Nat) : Int) = (k : Int) + 1 by omega]
      cases h : rfind m ((k : Int) + 1) with
      | none => simp [h]
      | some l =>
        simp [h, entL]
  exact gen 64

end Go.Proofs.YtlnoopmblmkgkaaGreatDoor
