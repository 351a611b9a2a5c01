/- Layer 11, keyfile: what a file is, in bytes; the text of a ring, and what a text is read as. No function of the program is walked here. -/
import Derived.Test.YtlnoopmblmkgkaaGreatDoorLX
import Derived.Test.YtlnoopmblmkgkaaGreatDoorLabE
import Derived.Test.YtlnoopmblmkgkaaGreatDoorLJ
import Derived.Test.YtlnoopmblmkgkaaGreatDoorLB
import Derived.Test.YtlnoopmblmkgkaaGreatDoorLS
import Derived.Test.YtlnoopmblmkgkaaGreatDoorLA
namespace Go.Proofs.YtlnoopmblmkgkaaGreatDoor
set_option maxRecDepth 100000
open Go Go.RowKit
set_option linter.unusedVariables false
set_option linter.unusedSimpArgs false

/-- May a box have n bytes? -/
def boxn (n : Int) : Bool := decide (49 ≤ n) && (decide (n ≤ 2128) && decide ((n - 16) % 33 = 0))
/-- The same, over the first k sizes. -/
def sizeTo (n : Int) (k : Nat) : Bool := (List.range k).any fun j => decide (n = 16 + 33 * ((j : Int) + 1))
theorem sizeTo_succ (n : Int) (k : Nat) : sizeTo n (k + 1) = (sizeTo n k || decide (n = 16 + 33 * ((k : Int) + 1))) := by
  unfold sizeTo
  rw [List.range_succ, List.any_append]
  simp
theorem sizeTo_all (n : Int) : sizeTo n 64 = boxn n := by
  rw [Bool.eq_iff_iff]
  unfold sizeTo boxn
  simp only [List.any_eq_true, List.mem_range, decide_eq_true_eq, Bool.and_eq_true]
  constructor
  · rintro ⟨j, hj, rfl⟩
    omega
  · rintro ⟨h1, h2, h3⟩
    exact ⟨((n - 49) / 33).toNat, by omega, by omega⟩
/-- May a file be of that salt, rounds, number, whose box has n bytes? -/
def kfit (sl : Nat) (r nu n : Int) : Bool := boxn n && (decide (sl = 16) && (decide (1 ≤ r) && (decide (r ≤ 4096) && (decide (1 ≤ nu) && decide (nu ≤ 1099511627776)))))
theorem kfit_iff (sl : Nat) (r nu n : Int) : kfit sl r nu n = true ↔ (49 ≤ n ∧ n ≤ 2128 ∧ (n - 16) % 33 = 0) ∧ sl = 16 ∧ 1 ≤ r ∧ r ≤ 4096 ∧ 1 ≤ nu ∧ nu ≤ 1099511627776 := by unfold kfit boxn; simp [and_assoc]

/-- The header. -/
def headL (salt : List UInt8) (r nu n : Nat) : List UInt8 := 117 :: (salt ++ (stored r false ++ (told8 nu ++ stored n false)))
theorem headL_len {salt : List UInt8} (h : salt.length = 16) (r nu n : Nat) : (headL salt r nu n).length = 33 := by unfold headL; simp [stored_len, told8_len, h]
/-- A file's bytes. -/
def putL (salt : List UInt8) (r nu : Int) (box : List UInt8) : List UInt8 := if kfit salt.length r nu box.length = true then headL salt r.toNat nu.toNat box.length ++ box else []

theorem drop_cut {α : Type} (a b : List α) (n k : Nat) (h : a.length = n) : (a ++ b).drop (n + k) = b.drop k := by
  subst h
  rw [List.drop_append, List.drop_of_length_le (by omega), List.nil_append]
  congr 1; omega
theorem take_cut {α : Type} (a b : List α) (n : Nat) (h : a.length = n) : (a ++ b).take n = a := by
  subst h; simp

end Go.Proofs.YtlnoopmblmkgkaaGreatDoor

namespace Go.Proofs.YtlnoopmblmkgkaaGreatDoor
set_option maxRecDepth 100000
open Go Go.RowKit
set_option linter.unusedVariables false
set_option linter.unusedSimpArgs false

/-- An entry of a ring as bytes. -/
def entL (x : Nat × List UInt8) : List UInt8 := UInt8.ofNat x.1 :: x.2
/-- A ring by its epochs. -/
def sortR (m : RM) : RM := (repochs m).map fun e => (e.toNat, (rfind m e).getD [])
/-- The text of a ring. -/
def textR (m : RM) : List UInt8 := (sortR m).flatMap entL

/-- Entries whose epochs rise. -/
structure Rising (s : RM) : Prop where
  each : ∀ x ∈ s, 1 ≤ x.1 ∧ x.1 ≤ 64 ∧ x.2.length = 32
  up : s.Pairwise fun x y => x.1 < y.1
theorem Rising.ok {s : RM} (h : Rising s) : RingOk s := ⟨h.each, by
  rw [List.nodup_iff_pairwise_ne, List.pairwise_map]
  exact h.up.imp fun hlt => Nat.ne_of_lt hlt⟩
theorem rising_nil : Rising [] := ⟨fun x h => absurd h (by simp), List.Pairwise.nil⟩

theorem sortR_rising {m : RM} (ok : RingOk m) : Rising (sortR m) := by
  refine ⟨fun x hx => ?_, ?_⟩
  · obtain ⟨e, he, rfl⟩ := List.mem_map.1 hx
    obtain ⟨y, hy, hye⟩ := (repochs_mem ok e).1 he
    have h1 := ok.each y hy
    have hs : (rfind m e).isSome = true := by unfold repochs at he; exact (List.mem_filter.1 he).2
    obtain ⟨l, hl⟩ := Option.isSome_iff_exists.1 hs
    have h2 := rfind_len ok hl
    simp only [hl, Option.getD_some]
    omega
  · unfold sortR
    rw [List.pairwise_map]
    have hpos : ∀ e ∈ repochs m, 1 ≤ e := fun e he => by
      obtain ⟨y, hy, hye⟩ := (repochs_mem ok e).1 he
      have := ok.each y hy
      omega
    refine (repochs_sorted m).imp_of_mem fun {a b} ha hb hab => ?_
    have h1 := hpos a ha
    have h2 := hpos b hb
    show a.toNat < b.toNat
    omega

theorem find_mem : ∀ {s : RM}, (s.map (·.1)).Nodup → ∀ {x : Nat × List UInt8}, x ∈ s → s.find? (fun y => decide ((y.1 : Int) = (x.1 : Int))) = some x
  | y :: s, hn, x, hx => by
    rw [List.map_cons, List.nodup_cons] at hn
    rw [List.find?_cons]
    rcases List.mem_cons.1 hx with rfl | hx
    · simp
    · have hne : ¬ ((y.1 : Int) = (x.1 : Int)) := fun e => hn.1 (by rw [show y.1 = x.1 by omega]; exact List.mem_map.2 ⟨x, hx, rfl⟩)
      rw [decide_eq_false hne]
      exact find_mem hn.2 hx
theorem rfind_mem {s : RM} (ok : RingOk s) {x : Nat × List UInt8} (hx : x ∈ s) : rfind s x.1 = some x.2 := by
  unfold rfind
  rw [find_mem ok.one hx]; rfl
theorem ring_nodup {s : RM} (ok : RingOk s) : s.Nodup := by
  have := ok.one
  rw [List.nodup_iff_pairwise_ne, List.pairwise_map] at this
  rw [List.nodup_iff_pairwise_ne]
  exact this.imp fun h e => h (by rw [e])
/-- The ring by its epochs has the same masters. -/
theorem rfind_sortR {m : RM} (ok : RingOk m) (e : Int) : rfind (sortR m) e = rfind m e := by
  have hr := sortR_rising ok
  cases h : rfind m e with
  | some l =>
    have hmem : e ∈ repochs m := by
      obtain ⟨x, hx, he, _⟩ := rfind_some h
      exact (repochs_mem ok e).2 ⟨x, hx, he⟩
    have he := rfind_epo ok h
    have hx : (e.toNat, l) ∈ sortR m := List.mem_map.2 ⟨e, hmem, by rw [h]; rfl⟩
    have := rfind_mem hr.ok hx
    simp only at this
    rw [Int.toNat_of_nonneg (by omega)] at this
    exact this
  | none =>
    cases h2 : rfind (sortR m) e with
    | none => rfl
    | some l =>
      obtain ⟨x, hx, he, _⟩ := rfind_some h2
      obtain ⟨e', he', rfl⟩ := List.mem_map.1 hx
      obtain ⟨y, hy, hye⟩ := (repochs_mem ok e').1 he'
      have h1 := ok.each y hy
      have : (e'.toNat : Int) = e' := by omega
      simp only [this] at he
      subst he
      exact absurd hye (rfind_none h y hy)
theorem sortR_len {m : RM} : (sortR m).length = (repochs m).length := by unfold sortR; rw [List.length_map]
theorem repochs_count {m : RM} (ok : RingOk m) : (repochs m).length = m.length := by
  have hp : (repochs m).Perm (m.map fun x => (x.1 : Int)) := by
    refine (List.perm_ext_iff_of_nodup ((repochs_sorted m).imp (fun h => Int.ne_of_lt h)) ?_).2 fun e => ?_
    · have := ok.one
      rw [List.nodup_iff_pairwise_ne, List.pairwise_map] at this ⊢
      exact this.imp fun h => by omega
    · rw [repochs_mem ok, List.mem_map]
  rw [hp.length_eq, List.length_map]
theorem flat_len {s : RM} (h : ∀ x ∈ s, x.2.length = 32) : (s.flatMap entL).length = 33 * s.length := by
  induction s with
  | nil => rfl
  | cons x s ih =>
    rw [List.flatMap_cons, List.length_append, ih (fun y hy => h y (List.mem_cons_of_mem _ hy)), List.length_cons]
    have := h x (List.mem_cons_self ..)
    simp only [entL, List.length_cons]
    omega
theorem textR_len {m : RM} (ok : RingOk m) : (textR m).length = 33 * m.length := by
  unfold textR
  rw [flat_len (fun x hx => ((sortR_rising ok).each x hx).2.2), sortR_len, repochs_count ok]

/-- The last epoch. -/
def lastE (s : RM) : Nat := (s.getLast?.map (·.1)).getD 0
/-- The k-th entry of a text. -/
def entAt (t : List UInt8) (k : Nat) : Nat × List UInt8 := ((t.getD (33 * k) 0).toNat, (t.drop (33 * k + 1)).take 32)
/-- What the first k entries of a text are read as. -/
def ringOf (t : List UInt8) : Nat → Option RM
  | 0 => some []
  | k + 1 => (ringOf t k).bind fun s => if lastE s < (entAt t k).1 ∧ (entAt t k).1 ≤ 64 then some (s ++ [entAt t k]) else none
theorem ringOf_stop {t : List UInt8} {k : Nat} (h : ringOf t k = none) : ∀ j, k ≤ j → ringOf t j = none
  | 0, hj => by rw [show k = 0 by omega] at h; exact h
  | j + 1, hj => by
    by_cases e : k = j + 1
    · rw [← e]; exact h
    · rw [ringOf, ringOf_stop h j (by omega)]; rfl
theorem lastE_mem {s : RM} (h : Rising s) : ∀ x ∈ s, x.1 ≤ lastE s := by
  intro x hx
  unfold lastE
  rcases List.eq_nil_or_concat s with rfl | ⟨r, y, rfl⟩
  · cases hx
  · simp only [List.concat_eq_append] at h hx ⊢
    rw [List.getLast?_concat]
    simp only [Option.map_some, Option.getD_some]
    rcases List.mem_append.1 hx with hx | hx
    · have := (List.pairwise_append.1 h.up).2.2 x hx y (by simp)
      omega
    · rw [List.mem_singleton.1 hx]; exact Nat.le_refl _
theorem ringOf_rising {t : List UInt8} : ∀ {k : Nat} {s : RM}, 33 * k ≤ t.length → ringOf t k = some s → Rising s ∧ s.length = k
  | 0, s, _, h => by injection h with h; subst h; exact ⟨rising_nil, rfl⟩
  | k + 1, s, hl, h => by
    rw [ringOf] at h
    obtain ⟨s', hs', h⟩ := Option.bind_eq_some_iff.1 h
    obtain ⟨r, hr⟩ := ringOf_rising (by omega) hs'
    split at h
    · rename_i hc
      injection h with h
      subst h
      refine ⟨⟨fun x hx => ?_, ?_⟩, by simp [hr]⟩
      · rcases List.mem_append.1 hx with hx | hx
        · exact r.each x hx
        · rw [List.mem_singleton.1 hx]
          refine ⟨by omega, hc.2, ?_⟩
          unfold entAt
          simp only [List.length_take, List.length_drop]
          omega
      · rw [List.pairwise_append]
        refine ⟨r.up, by simp, fun x hx y hy => ?_⟩
        rw [List.mem_singleton.1 hy]
        have := lastE_mem r x hx
        omega
    · cases h
/-- A ring behind one more entry. -/
theorem put_rising {s : RM} (h : Rising s) {x : Nat × List UInt8} (h1 : lastE s < x.1) (h2 : x.1 ≤ 64) (h3 : x.2.length = 32) : putM s x.1 x.2 = s ++ [x] ∧ putE s x.1 x.2 = 0 ∧ Rising (s ++ [x]) := by
  have hn : rfind s x.1 = none := by
    cases hf : rfind s x.1 with
    | none => rfl
    | some l =>
      obtain ⟨y, hy, he, _⟩ := rfind_some hf
      have := lastE_mem h y hy
      omega
  have he : epo x.1 = true := by unfold epo; simp; omega
  refine ⟨?_, ?_, ⟨fun y hy => ?_, ?_⟩⟩
  · unfold putM; rw [if_pos ⟨he, h3, hn⟩]; rfl
  · unfold putE; rw [if_pos ⟨he, h3⟩, hn]; rfl
  · rcases List.mem_append.1 hy with hy | hy
    · exact h.each y hy
    · rw [List.mem_singleton.1 hy]; exact ⟨by omega, h2, h3⟩
  · rw [List.pairwise_append]
    refine ⟨h.up, by simp, fun a ha y hy => ?_⟩
    rw [List.mem_singleton.1 hy]
    have := lastE_mem h a ha
    omega
theorem entAt_flat : ∀ {s : RM} (h : ∀ x ∈ s, x.2.length = 32 ∧ x.1 < 256) (r : List UInt8) {k : Nat} (hk : k < s.length), entAt (s.flatMap entL ++ r) k = s[k]
  | x :: s, h, r, k, hk => by
    have hx := h x (List.mem_cons_self ..)
    have e0 : (x :: s).flatMap entL ++ r = entL x ++ (s.flatMap entL ++ r) := by rw [List.flatMap_cons, List.append_assoc]
    have hel : (entL x).length = 33 := by simp [entL, hx.1]
    rw [e0]
    cases k with
    | zero =>
      unfold entAt
      have h1 : (entL x ++ (s.flatMap entL ++ r)).getD (33 * 0) 0 = UInt8.ofNat x.1 := rfl
      have h2 : ((entL x ++ (s.flatMap entL ++ r)).drop (33 * 0 + 1)).take 32 = x.2 := by
        show ((x.2 ++ (s.flatMap entL ++ r)).drop 0).take 32 = x.2
        rw [List.drop_zero, take_cut _ _ _ hx.1]
      rw [h1, h2]
      simp only [List.getElem_cons_zero]
      have : (UInt8.ofNat x.1).toNat = x.1 := by simp; omega
      rw [this]
    | succ k =>
      have hk2 : k < s.length := by simpa using hk
      rw [List.getElem_cons_succ, ← entAt_flat (fun y hy => h y (List.mem_cons_of_mem _ hy)) r hk2]
      unfold entAt
      rw [show 33 * (k + 1) + 1 = 33 + (33 * k + 1) by omega, drop_cut _ _ 33 _ hel]
      congr 2
      rw [List.getD_eq_getElem?_getD, List.getD_eq_getElem?_getD, List.getElem?_append_right (by omega), hel]
      congr 2
theorem ringOf_flat {s : RM} (h : Rising s) : ∀ k, k ≤ s.length → ringOf (s.flatMap entL) k = some (s.take k)
  | 0, _ => by simp [ringOf]
  | k + 1, hk => by
    have he : entAt (s.flatMap entL) k = s[k] := by
      have := entAt_flat (s := s) (fun x hx => ⟨(h.each x hx).2.2, by have := (h.each x hx).2.1; omega⟩) [] (k := k) (by omega)
      rwa [List.append_nil] at this
    rw [ringOf, ringOf_flat h k (by omega), Option.bind_some, he]
    have h1 := h.each _ (List.getElem_mem (show k < s.length by omega))
    have hlast : lastE (s.take k) < s[k].1 := by
      unfold lastE
      rcases List.eq_nil_or_concat (s.take k) with e | ⟨r, y, e⟩
      · rw [e]; show 0 < _; omega
      · rw [List.concat_eq_append] at e
        rw [e, List.getLast?_concat]
        simp only [Option.map_some, Option.getD_some]
        have hy : y ∈ s.take k := by rw [e]; simp
        obtain ⟨i, hi, rfl⟩ := List.mem_iff_getElem.1 hy
        rw [List.length_take] at hi
        rw [List.getElem_take]
        exact List.pairwise_iff_getElem.1 h.up i k (by omega) (by omega) (by omega)
    rw [if_pos ⟨hlast, h1.2.1⟩, List.take_succ_eq_append_getElem (by omega)]
/-- The text of a ring is read as the ring by its epochs. -/
theorem ringOf_text {m : RM} (ok : RingOk m) : ringOf (textR m) m.length = some (sortR m) := by
  have h := ringOf_flat (sortR_rising ok) (sortR m).length (Nat.le_refl _)
  rw [List.take_of_length_le (Nat.le_refl _), sortR_len, repochs_count ok] at h
  exact h

/-- The document's way: of each epoch all entries. -/
def rowT (m : RM) (e : Nat) : List UInt8 := (m.filter fun x => decide (x.1 = e)).flatMap fun x => UInt8.ofNat e :: x.2
def outT (m : RM) (k : Nat) : List UInt8 := (List.range k).flatMap fun i => rowT m (i + 1)
theorem rowT_succ (m : RM) (e k : Nat) (hk : k < m.length) : rowT (m.take (k + 1)) e = rowT (m.take k) e ++ (if m[k].1 = e then UInt8.ofNat e :: m[k].2 else []) := by
  unfold rowT
  rw [List.take_succ_eq_append_getElem hk, List.filter_append, List.flatMap_append]
  congr 1
  by_cases h : m[k].1 = e
  · simp [h]
  · simp [h]
theorem outT_succ (m : RM) (k : Nat) : outT m (k + 1) = outT m k ++ rowT m (k + 1) := by
  unfold outT
  rw [List.range_succ, List.flatMap_append]
  simp
theorem rowT_find {m : RM} (ok : RingOk m) (e : Nat) : rowT m e = match rfind m e with | some l => UInt8.ofNat e :: l | none => [] := by
  unfold rowT
  cases h : rfind m e with
  | none =>
    have : m.filter (fun x => decide (x.1 = e)) = [] := by
      rw [List.filter_eq_nil_iff]
      intro x hx
      have := rfind_none h x hx
      simp; omega
    rw [this]; rfl
  | some l =>
    obtain ⟨x, hx, he, rfl⟩ := rfind_some h
    have he2 : x.1 = e := by omega
    have : m.filter (fun x => decide (x.1 = e)) = [x] := by
      have hnd : (m.filter (fun x => decide (x.1 = e))).Nodup := List.Nodup.sublist List.filter_sublist (ring_nodup ok)
      have hmem : ∀ y, y ∈ m.filter (fun x => decide (x.1 = e)) ↔ y ∈ [x] := by
        intro y
        rw [List.mem_filter, List.mem_singleton, decide_eq_true_eq]
        constructor
        · rintro ⟨hy, hye⟩
          have h1 := rfind_mem ok hy
          have h2 := rfind_mem ok hx
          rw [hye] at h1
          rw [he2, h1] at h2
          injection h2 with h2
          exact Prod.ext (by omega) h2
        · rintro rfl
          exact ⟨hx, he2⟩
      exact List.perm_singleton.1 ((List.perm_ext_iff_of_nodup hnd (by simp)).2 hmem)
    rw [this]; simp
theorem outT_all {m : RM} (ok : RingOk m) : outT m 64 = textR m := by
  have gen : ∀ k, outT m k = ((((List.range k).map fun i : Nat => (i : Int) + 1).filter fun e => (rfind m e).isSome).map fun e => ((e.toNat, (rfind m e).getD []) : Nat × List UInt8)).flatMap entL := by
    intro k
    induction k with
    | zero => rfl
    | succ k ih =>
      rw [outT_succ, ih, List.range_succ, List.map_append, List.filter_append, List.map_append, List.flatMap_append, rowT_find ok]
      congr 1
      rw [show ((k + 1 : Nat) : Int) = (k : Int) + 1 by omega]
      cases h : rfind m ((k : Int) + 1) with
      | none => simp [h]
      | some l =>
        simp [h, entL]
  exact gen 64

end Go.Proofs.YtlnoopmblmkgkaaGreatDoor

namespace Go.Proofs.YtlnoopmblmkgkaaGreatDoor
set_option maxRecDepth 100000
open Go Go.RowKit
set_option linter.unusedVariables false
set_option linter.unusedSimpArgs false

/-- Two rings have the same masters. -/
def SameR (m m' : RM) : Prop := ∀ e, rfind m e = rfind m' e
theorem SameR.symm {m m' : RM} (h : SameR m m') : SameR m' m := fun e => (h e).symm
theorem sortR_same {m : RM} (ok : RingOk m) : SameR (sortR m) m := rfind_sortR ok
theorem same_mem {m m' : RM} (ok : RingOk m) (h : SameR m m') {x : Nat × List UInt8} (hx : x ∈ m) : ∃ y ∈ m', y.1 = x.1 := by
  have h1 := rfind_mem ok hx
  rw [h] at h1
  obtain ⟨y, hy, he, _⟩ := rfind_some h1
  exact ⟨y, hy, by omega⟩
theorem same_last {m m' : RM} (ok : RingOk m) (ok' : RingOk m') (h : SameR m m') {L L' : Int} (hL : IsLast m L) (hL' : IsLast m' L') : L = L' := by
  refine last_one hL ⟨fun x hx => ?_, ?_⟩
  · obtain ⟨y, hy, e⟩ := same_mem ok h hx
    rw [← e]; exact hL'.1 y hy
  · rcases hL'.2 with h0 | ⟨y, hy, e⟩
    · exact .inl h0
    · obtain ⟨x, hx, e2⟩ := same_mem ok' h.symm hy
      exact .inr ⟨x, hx, by rw [e2]; exact e⟩
/-- The key of a file. -/
def fkey (pass salt : List UInt8) (r : Int) : List UInt8 := keyL pass salt r 32
theorem fkey_len (pass salt : List UInt8) {r : Int} (h1 : 1 ≤ r) (h2 : r ≤ 4096) : (fkey pass salt r).length = 32 ∧ keyE r 32 = 0 := by
  have h := keyE_ok (r := r) (n := 32) ⟨h1, h2⟩ ⟨by decide, by decide⟩
  refine ⟨?_, h⟩
  unfold fkey keyL
  rw [if_pos h]
  exact pbk_len _ _ _ _
theorem fkey_fit (pass salt : List UInt8) {r : Int} (nu : Nat) (h1 : 1 ≤ r) (h2 : r ≤ 4096) : fitK (fkey pass salt r) (nonceL 0 nu) = true := by
  unfold fitK
  rw [(fkey_len pass salt h1 h2).1, nonceL_len]
  rfl
/-- What Make tells: an error, the box. -/
def mkE (salt : List UInt8) (r nu : Int) (m : RM) : Int := if kfit salt.length r nu ((textR m).length + 16 : Nat) = true then 0 else 1
def mkB (pass salt : List UInt8) (r nu : Int) (m : RM) : List UInt8 := boxL (fkey pass salt r) (nonceL 0 nu.toNat) (headL salt r.toNat nu.toNat ((textR m).length + 16)) (textR m)
theorem mkB_len (pass salt : List UInt8) (r nu : Int) (m : RM) : (mkB pass salt r nu m).length = (textR m).length + 16 := boxL_len _ _ _ _
/-- What a box has: its text, if its tag holds. -/
def opT (pass salt : List UInt8) (r nu : Int) (box : List UInt8) : List UInt8 := openR (fkey pass salt r) (nonceL 0 nu.toNat) (headL salt r.toNat nu.toNat box.length) box
def opB (pass salt : List UInt8) (r nu : Int) (box : List UInt8) : Int := openE (fkey pass salt r) (nonceL 0 nu.toNat) (headL salt r.toNat nu.toNat box.length) box
/-- What Open tells: an error, the ring. -/
def opE (pass salt : List UInt8) (r nu : Int) (box : List UInt8) : Int := if kfit salt.length r nu box.length = true then (if opB pass salt r nu box = 0 then (match ringOf (opT pass salt r nu box) ((opT pass salt r nu box).length / 33) with | some _ => 0 | none => 5) else 8) else 1
def opM (pass salt : List UInt8) (r nu : Int) (box : List UInt8) : RM := (ringOf (opT pass salt r nu box) ((opT pass salt r nu box).length / 33)).getD []

/-- What is made is opened: the ring by its epochs. -/
theorem made_back {pass salt : List UInt8} {r nu : Int} {m : RM} (ok : RingOk m) (hk : mkE salt r nu m = 0) :
    kfit salt.length r nu (mkB pass salt r nu m).length = true ∧ opE pass salt r nu (mkB pass salt r nu m) = 0 ∧ opM pass salt r nu (mkB pass salt r nu m) = sortR m := by
  have hf : kfit salt.length r nu ((textR m).length + 16 : Nat) = true := by
    unfold mkE at hk
    split at hk
    · assumption
    · cases hk
  have hf2 : kfit salt.length r nu (mkB pass salt r nu m).length = true := by rw [mkB_len]; exact hf
  obtain ⟨_, _, k1, k2, _⟩ := (kfit_iff _ _ _ _).1 hf
  have hfit := fkey_fit pass salt nu.toNat k1 k2
  obtain ⟨o1, o2⟩ := open_box (fkey pass salt r) (nonceL 0 nu.toNat) (headL salt r.toNat nu.toNat ((textR m).length + 16)) (textR m) hfit
  have eT : opT pass salt r nu (mkB pass salt r nu m) = textR m := by unfold opT; rw [mkB_len]; exact o1
  have eB : opB pass salt r nu (mkB pass salt r nu m) = 0 := by unfold opB; rw [mkB_len]; exact o2
  have eR : ringOf (textR m) ((textR m).length / 33) = some (sortR m) := by
    rw [textR_len ok, show 33 * m.length / 33 = m.length by omega]
    exact ringOf_text ok
  refine ⟨hf2, ?_, ?_⟩
  · unfold opE; rw [if_pos hf2, if_pos eB, eT, eR]
  · unfold opM; rw [eT, eR]; rfl

end Go.Proofs.YtlnoopmblmkgkaaGreatDoor

namespace Go.Proofs.YtlnoopmblmkgkaaGreatDoor
set_option maxRecDepth 100000
open Go.ChangeShapes Go.WideShapes Go.ChangeAt Go.RowKit
set_option linter.unusedVariables false
set_option linter.unusedSimpArgs false

theorem InBytes.nx {w w' : World} {A : Option Addr} {n c : Nat} {l : List UInt8} (h : InBytes w A n c l) (hb : Below w.heap.size w w') : InBytes w' A n c l := ⟨h.sl.nx hb, h.len, h.cap, h.none_, h.room⟩

/-- The cells of a file. -/
def fC (A : Option Addr) (n c : Nat) (r nu : Int) (B : Option Addr) (m d : Nat) : List Value := [.slice A n c, .int .i64 r, .int .i64 nu, .slice B m d]
theorem fC_one (A : Option Addr) (n c : Nat) (r nu : Int) (B : Option Addr) (m d : Nat) : ∀ v ∈ fC A n c r nu B m d, v.oneCell' = true := by
  intro v hv
  simp only [fC, List.mem_cons, List.not_mem_nil, or_false] at hv
  rcases hv with rfl | rfl | rfl | rfl <;> rfl
def nilF : List Value := fC none 0 0 0 0 none 0 0
theorem nilF_one : ∀ v ∈ nilF, v.oneCell' = true := fC_one _ _ _ _ _ _ _ _
theorem f_cells {w : World} {g : Nat} {t : TypeId} {A : Option Addr} {n c : Nat} {r nu : Int} {B : Option Addr} {m d : Nat} (h : Bl w g (fC A n c r nu B m d) t) :
    w.cell? ⟨g, 0, none⟩ = some (.slice A n c) ∧ w.cell? ⟨g, 1, none⟩ = some (.int .i64 r) ∧ w.cell? ⟨g, 2, none⟩ = some (.int .i64 nu) ∧ w.cell? ⟨g, 3, none⟩ = some (.slice B m d) :=
  ⟨h.cell 0, h.cell 1, h.cell 2, h.cell 3⟩

theorem size_kf : (Tryz.prog.info? 35).map (·.size) = some 4 := by kernel_rfl

theorem zero_kf : (Tryz.prog.info? 35).map (·.zero) = some (some (.agg nilF.toArray)) := by kernel_rfl

theorem built_kf (A : Option Addr) (n c : Nat) (r nu : Int) (B : Option Addr) (m d : Nat) :
    Tryz.prog.built 35 [(0, .slice A n c), (1, .int .i64 r), (2, .int .i64 nu), (3, .slice B m d)] = some (fC A n c r nu B m d).toArray := by kernel_rfl

theorem built_kf0 : Tryz.prog.built 35 [] = some nilF.toArray := by kernel_rfl

theorem size_rf : (Tryz.prog.info? 39).map (·.size) = some 4 := by kernel_rfl

theorem zero_rf : (Tryz.prog.info? 39).map (·.zero) = some (some (.agg nilF.toArray)) := by kernel_rfl

theorem built_rf (A : Option Addr) (n c : Nat) (r nu : Int) (B : Option Addr) (m d : Nat) :
    Tryz.prog.built 39 [(0, .slice A n c), (1, .int .i64 r), (2, .int .i64 nu), (3, .slice B m d)] = some (fC A n c r nu B m d).toArray := by kernel_rfl

theorem built_rf3 (A : Option Addr) (n c : Nat) (r nu : Int) :
    Tryz.prog.built 39 [(0, .slice A n c), (1, .int .i64 r), (2, .int .i64 nu)] = some (fC A n c r nu none 0 0).toArray := by kernel_rfl

theorem built_rf0 : Tryz.prog.built 39 [] = some nilF.toArray := by kernel_rfl

/-- A file in a new variable: the world behind it under a name. -/
theorem put_f (w : World) (cs : List Value) (T : TypeId) : ∃ W, Hid (w.alloc (.cells cs.toArray T) = W) ∧ Bl W w.heap.size cs T ∧ Below w.heap.size w W ∧ W.heap.size = w.heap.size + 1 := by
  exact ⟨_, (rfl : _ = _), Bl.new w cs T, (Below.refl _ w).alloc (Nat.le_refl _) _, alloc_size w _⟩

/-- Bytes in memory. -/
structure By (w : World) (A : Option Addr) (n c : Nat) (l : List UInt8) : Prop where
  sl : Sl w w.heap.size A n (cb l)
  len : n = l.length
  cap : n ≤ c
  none_ : A = none → c = 0
theorem By.nx {w w' : World} {A : Option Addr} {n c : Nat} {l : List UInt8} (h : By w A n c l) (hb : Below w.heap.size w w') : By w' A n c l := ⟨h.sl.nx hb, h.len, h.cap, h.none_⟩
theorem by_nil (w : World) : By w none 0 0 [] := ⟨Sl.nil_, rfl, Nat.le_refl _, fun _ => rfl⟩
theorem InBytes.bys {w : World} {A : Option Addr} {n c : Nat} {l : List UInt8} (h : InBytes w A n c l) : By w A n c l := ⟨h.sl, h.len, h.cap, h.none_⟩
theorem NewBytes.bys {E : TypeId} {w w' : World} {n : Nat} {l : List UInt8} {A : Option Addr} {c : Nat} (h : NewBytes E w n l A c w') : By w' A n c l := ⟨h.sl, by rw [← cb_len l, h.sl.1], own_cap h.own, h.none_⟩
theorem By.nb {w w' : World} {g : Nat} {A : Option Addr} {n c : Nat} {l : List UInt8} (h : By w A n c l) (hb : w.grownBy w' (some g)) (ho : Off g n A) : By w' A n c l := ⟨h.sl.nb hb ho, h.len, h.cap, h.none_⟩

/-- What a file has, in memory: its salt, its box. -/
structure Fil (w : World) (A : Option Addr) (n c : Nat) (S : List UInt8) (B : Option Addr) (m d : Nat) (X : List UInt8) : Prop where
  salt : By w A n c S
  box : By w B m d X
theorem Fil.nx {w w' : World} {A B : Option Addr} {n c m d : Nat} {S X : List UInt8} (h : Fil w A n c S B m d X) (hb : Below w.heap.size w w') : Fil w' A n c S B m d X := ⟨h.salt.nx hb, h.box.nx hb⟩
theorem Fil.nb {w w' : World} {A B : Option Addr} {n c m d g : Nat} {S X : List UInt8} (h : Fil w A n c S B m d X) (hb : w.grownBy w' (some g)) (o1 : Off g n A) (o2 : Off g m B) : Fil w' A n c S B m d X := ⟨h.salt.nb hb o1, h.box.nb hb o2⟩
theorem fil_nil (w : World) : Fil w none 0 0 [] none 0 0 [] := ⟨by_nil w, by_nil w⟩

/-- A file as a value. -/
structure FV where
  S : List UInt8
  r : Int
  nu : Int
  X : List UInt8
def nilV : FV := ⟨[], 0, 0, []⟩
/-- What a call that tells a file and an error tells. -/
def RetFile (w : World) (v : FV) (err : Int) (e : Ending) (w' : World) : Prop := ∃ A n c B m d, e = .returned (.tuple #[.agg (fC A n c v.r v.nu B m d).toArray, .int .i64 err]) ∧ Fil w' A n c v.S B m d v.X ∧ Below w.heap.size w w'
theorem retFile_nil {w w' : World} {v : FV} {err : Int} (hv : v = nilV) (hb : Below w.heap.size w w') : RetFile w v err (.returned (.tuple #[.agg nilF.toArray, .int .i64 err])) w' := by
  subst hv
  exact ⟨none, 0, 0, none, 0, 0, rfl, fil_nil _, hb⟩

end Go.Proofs.YtlnoopmblmkgkaaGreatDoor
