/- Add of package digest. -/
import Derived.Test.YtfmbilnbbpbpeaaDoorDigD
namespace Go.Proofs.YtfmbilnbbpbpeaaDoor
open Go.RowKit

/-! What a step of Add does to a State, as lists. -/
theorem splice_len {α : Type} (l : List α) (o : Nat) (r : List α) (h : o + r.length ≤ l.length) : (splice l o r).length = l.length := by simp [splice]; omega
theorem splice_mid {α : Type} (p l r s : List α) (o : Nat) (h : o + s.length ≤ l.length) : splice (p ++ (l ++ r)) (p.length + o) s = p ++ (splice l o s ++ r) := by
  unfold splice
  rw [List.take_append, List.take_of_length_le (by omega), show p.length + o - p.length = o by omega, List.take_append_of_le_length (by omega),
    List.drop_append, List.drop_of_length_le (show p.length ≤ p.length + o + s.length by omega), show p.length + o + s.length - p.length = o + s.length by omega, List.drop_append_of_le_length (by omega)]
  simp
theorem cb_splice (l r : List UInt8) (o : Nat) : cb (splice l o r) = splice (cb l) o (cb r) := by simp [splice, cb]
theorem stc_splice (s : W8) (buf r : List UInt8) (n a : Nat) (hb : buf.length = 64) (ha : a + r.length ≤ 64) : splice (stc s buf n) (8 + a) (cb r) = stc s (splice buf a r) n := by
  unfold stc
  have := splice_mid (us s.list) (cb buf) [.int .u64 (n : Int)] (cb r) a (by rw [cb_len, cb_len, hb]; exact ha)
  rw [us_len, list_len] at this
  rw [this, cb_splice]
theorem stc_set (s : W8) (buf : List UInt8) (n k : Nat) (hb : buf.length = 64) : (stc s buf n).set 72 (.int .u64 (k : Int)) = stc s buf k := by
  unfold stc
  rw [List.set_append_right _ _ (by rw [us_len, list_len]; omega), us_len, list_len, List.set_append_right _ _ (by rw [cb_len, hb]; omega), cb_len, hb]
  rfl
theorem stc_over (s r : W8) (buf : List UInt8) (n : Nat) : splice (stc s buf n) 0 (us r.list) = stc r buf n := by
  unfold stc splice
  rw [List.take_zero, List.nil_append, Nat.zero_add, us_len, list_len, List.drop_append_of_le_length (by rw [us_len, list_len]; omega), List.drop_of_length_le (by rw [us_len, list_len]; omega), List.nil_append]

theorem step_part (q r buf : List UInt8) (t : Nat) (hb : buf.length = 64) (hbuf : buf.take (q.length % 64) = q.drop (64 * (q.length / 64))) (ht : t = Nat.min r.length (64 - q.length % 64)) (hlt : q.length % 64 + t < 64) :
    hs (q ++ r.take t) ((q ++ r.take t).length / 64) = hs q (q.length / 64) ∧
    (splice buf (q.length % 64) (r.take t)).take ((q ++ r.take t).length % 64) = (q ++ r.take t).drop (64 * ((q ++ r.take t).length / 64)) := by
  have htr : t ≤ r.length := by rw [ht]; exact Nat.min_le_left ..
  have hl : (q ++ r.take t).length = q.length + t := by simp; omega
  have hd : (q.length + t) / 64 = q.length / 64 := by omega
  have hm : (q.length + t) % 64 = q.length % 64 + t := by omega
  rw [hl, hd, hm]
  refine ⟨hs_append q _ _ (by omega), ?_⟩
  rw [List.drop_append_of_le_length (by omega), ← hbuf]
  unfold splice
  rw [← List.append_assoc, List.take_append_of_le_length (by simp; omega), List.take_of_length_le (by simp; omega)]
theorem step_full (q r buf : List UInt8) (t : Nat) (hb : buf.length = 64) (hbuf : buf.take (q.length % 64) = q.drop (64 * (q.length / 64))) (ht : t = Nat.min r.length (64 - q.length % 64)) (heq : q.length % 64 + t = 64) :
    hs (q ++ r.take t) ((q ++ r.take t).length / 64) = blk (hs q (q.length / 64)) (splice buf (q.length % 64) (r.take t)) ∧
    (splice buf (q.length % 64) (r.take t)).take ((q ++ r.take t).length % 64) = (q ++ r.take t).drop (64 * ((q ++ r.take t).length / 64)) := by
  have htr : t ≤ r.length := by rw [ht]; exact Nat.min_le_left ..
  have hl : (q ++ r.take t).length = q.length + t := by simp; omega
  have hd : (q.length + t) / 64 = q.length / 64 + 1 := by omega
  have hm : (q.length + t) % 64 = 0 := by omega
  rw [hl, hd, hm]
  have hw : splice buf (q.length % 64) (r.take t) = ((q ++ r.take t).drop (64 * (q.length / 64))).take 64 := by
    rw [List.drop_append_of_le_length (by omega), ← hbuf]
    unfold splice
    rw [List.drop_of_length_le (show buf.length ≤ q.length % 64 + (r.take t).length by simp; omega), List.append_nil]
    exact (List.take_of_length_le (by simp; omega)).symm
  constructor
  · rw [hs, hs_append q _ _ (by omega), ← hw]
  · rw [List.take_zero, List.drop_of_length_le (by rw [hl]; omega)]

/-- What Add gives: nothing; the State has the bytes. -/
def AddPost (w : World) (g : Nat) (m : List UInt8) (e : Ending) (w' : World) : Prop := e = .returned (.tuple #[]) ∧ St w' g m ∧ w.grownBy w' (some g) ∧ Tabs w'
theorem Tabs.but {w w' : World} {g : Nat} (h : Tabs w) (hb : w.grownBy w' (some g)) (hg : 2 ≤ g) : Tabs w' := h.keep fun b hb2 => hb.block b (by have := h.size; omega) (fun e => by injection e; omega)

/-- A round of Add: how the State stands behind it. -/
theorem add_next {w3 : World} {g k t a N : Nat} {m l q buf buf2 : List UInt8} {s s' : W8} (hq : q = m ++ l.take k) (hN : N = q.length) (ha : a = q.length % 64) (ht : t = Nat.min (l.length - k) (64 - a)) (hs1 : s = hs q (q.length / 64))
    (hb64 : buf.length = 64) (hbuf : buf.take (q.length % 64) = q.drop (64 * (q.length / 64))) (hbuf2 : buf2 = splice buf a ((l.drop k).take t)) (hb2 : buf2.length = 64)
    (hs' : (a + t < 64 ∧ s' = s) ∨ (a + t = 64 ∧ s' = blk s buf2)) (hbl : Bl w3 g (stc s' buf2 (N + t)) 45) : St w3 g (m ++ l.take (k + t)) := by
  have e : m ++ l.take (k + t) = q ++ (l.drop k).take t := by rw [hq, List.take_add, List.append_assoc]
  have hr : (l.drop k).length = l.length - k := by simp
  have htr : t ≤ l.length - k := by rw [ht]; exact Nat.min_le_left ..
  have hl : (q ++ (l.drop k).take t).length = N + t := by simp; omega
  subst ha
  rw [e]
  rcases hs' with ⟨h1, h2⟩ | ⟨h1, h2⟩
  · obtain ⟨e1, e2⟩ := step_part q (l.drop k) buf t hb64 hbuf (by rw [hr]; exact ht) h1
    refine ⟨buf2, hb2, by rw [hbuf2]; exact e2, ?_⟩
    rw [e1, hl, ← hs1, ← h2]
    exact hbl
  · obtain ⟨e1, e2⟩ := step_full q (l.drop k) buf t hb64 hbuf (by rw [hr]; exact ht) h1
    refine ⟨buf2, hb2, by rw [hbuf2]; exact e2, ?_⟩
    rw [e1, hl, ← hs1, ← hbuf2, ← h2]
    exact hbl
/-- What a round of Add's loop begins with. -/
def AddR (w : World) (g B : Nat) (m l : List UInt8) (v : Value) (wr : World) : Prop :=
  ∃ (k : Nat) (A' : Option Addr) (c' : Nat), k ≤ l.length ∧ v = .slice A' (l.length - k) c' ∧ Sl wr B A' (l.length - k) (cb (l.drop k)) ∧ Off g (l.length - k) A' ∧ l.length - k ≤ c' ∧ (A' = none → c' = 0) ∧ St wr g (m ++ l.take k) ∧ w.grownBy wr (some g) ∧ Tabs wr
theorem addR_next {w w2 w3 : World} {g B k t c' : Nat} {m l : List UInt8} {A' A2 : Option Addr} (ht : t ≤ l.length - k) (hk : k ≤ l.length) (hA2 : A2 = if c' = t then A' else A'.map (·.add t)) (hsl : Sl w2 B A' (l.length - k) (cb (l.drop k))) (hB : B ≤ w2.heap.size) (hoff : Off g (l.length - k) A')
    (hcc : l.length - k ≤ c') (hnn : A' = none → c' = 0) (hg2 : w2.grownBy w3 (some g)) (hgr : w.grownBy w3 (some g)) (hT : Tabs w3) (hst : St w3 g (m ++ l.take (k + t))) : AddR w g B m l (.slice A2 (l.length - k - t) (c' - t)) w3 := by
  have h1 := sl_cut (k := t) (sl_off hsl hg2 hB hoff) ht hcc
  rw [← hA2, show (cb (l.drop k)).drop t = cb (l.drop (k + t)) by simp [cb, List.drop_drop]] at h1
  have e : l.length - k - t = l.length - (k + t) := by omega
  have h2 : Off g (l.length - k - t) A2 := by rw [hA2]; exact off_cut hoff
  rw [e] at h1 h2 ⊢
  refine ⟨k + t, A2, c' - t, by omega, rfl, h1, h2, by omega, ?_, hst, hgr, hT⟩
  intro h
  rw [h] at hA2
  split at hA2
  · rename_i hc; omega
  · rcases A' with _ | x
    · rw [hnn rfl]; omega
    · cases hA2

theorem Tabs.drew {w : World} (h : Tabs w) : Tabs w.drew := h.keep fun _ _ => rfl
theorem heap_size_setCell (w : World) (a : Addr) (v : Value) : (w.setCell a v).heap.size = w.heap.size := by simp [World.setCell]

set_option linter.unusedSimpArgs false in
set_option maxRecDepth 100000 in
set_option maxHeartbeats 1000000 in
theorem add_any (g : Nat) (m l : List UInt8) (w : World) (B : Nat) (A : Option Addr) (n c : Nat) (hst : St w g m) (h : Sl w B A n (cb l)) (hB : B ≤ w.heap.size) (ho : Off g n A) (hc : n ≤ c) (hA : A = none → c = 0)
    (hT : Tabs w) (hg : 2 ≤ g) (hm : m.length + l.length ≤ 1000000000) :
    Calls Tryd.prog 27 #[.pointer (some ⟨g, 0, none⟩), .slice A n c] w (AddPost w g (m ++ l)) := by
  have hn : n = l.length := by rw [← h.1, cb_len]
  subst hn
  go_enter Tryd.func27, Tryd.ntmps27
  go_wp2
  go_loopw [1] (fun v wr => AddR w g B m l v wr) (fun v _ => lenOf v)
  case atStart => exact ⟨0, A, c, Nat.zero_le _, rfl, h, ho, hc, hA, by simpa using hst, but_refl w g, hT⟩
  case round =>
    obtain ⟨k, A', c', hk, rfl, hsl, hoff, hcc, hnn, hst', hgr, hT'⟩ := hrel
    clear h ho hc hA hst hT
    by_cases hlt : k < l.length
    · obtain ⟨buf, hb64, hbuf, hbl⟩ := hst'
      obtain ⟨q, hq⟩ : ∃ q, q = m ++ l.take k := ⟨_, rfl⟩
      rw [← hq] at hbuf hbl
      have hql : q.length = m.length + k := by rw [hq]; simp; omega
      obtain ⟨N, hN⟩ : ∃ N, N = q.length := ⟨_, rfl⟩
      obtain ⟨a, ha⟩ : ∃ a, a = q.length % 64 := ⟨_, rfl⟩
      obtain ⟨t, ht⟩ : ∃ t, t = Nat.min (l.length - k) (64 - a) := ⟨_, rfl⟩
      obtain ⟨s, hs1⟩ : ∃ s, s = hs q (q.length / 64) := ⟨_, rfl⟩
      rw [← hs1, ← hN] at hbl
      have ha64 : a < 64 := by rw [ha]; omega
      have htl : t ≤ l.length - k := by rw [ht]; exact Nat.min_le_left ..
      have hta : t ≤ 64 - a := by rw [ht]; exact Nat.min_le_right ..
      have htm : t = l.length - k ∨ t = 64 - a := by rw [ht]; unfold Nat.min; omega
      have hNb : N ≤ 1000000000 := by omega
      have htp : 1 ≤ t := by omega
      have hcnt : wr.cell? ⟨g, 72, none⟩ = some (.int .u64 (N : Int)) := by rw [hbl.cell, stc_count _ _ _ hb64]
      have hmod : (N : Int) % 64 = (a : Int) := by omega
      obtain ⟨w2, hcp, hbl2, hgr2⟩ := run_copy_but (P := Tryd.prog) wr 22 22 3 5 Tryd.underlying22 u8_size g (8 + a) (64 - a) (64 - a) B A' (l.length - k) c' (cb (l.drop k)) hsl _ _ hbl (by rw [stc_len _ _ _ hb64]; omega) (cb_one _)
      rw [← ht] at hcp
      have htk : (cb (l.drop k)).take (64 - a) = cb ((l.drop k).take t) := by
        rw [show (cb (l.drop k)).take (64 - a) = cb ((l.drop k).take (64 - a)) by simp [cb]]
        congr 1
        rcases htm with e | e
        · rw [List.take_of_length_le (by simp; omega), List.take_of_length_le (by simp; omega)]
        · rw [e]
      rw [htk, stc_splice s buf _ N a hb64 (by simp; omega)] at hbl2
      obtain ⟨buf2, hbuf2⟩ : ∃ b, b = splice buf a ((l.drop k).take t) := ⟨_, rfl⟩
      have hb2l : buf2.length = 64 := by rw [hbuf2, splice_len _ _ _ (by simp; omega), hb64]
      rw [← hbuf2] at hbl2
      have hcnt2 : w2.cell? ⟨g, 72, none⟩ = some (.int .u64 (N : Int)) := by rw [hbl2.cell, stc_count _ _ _ hb2l]
      have hfr2 := hbl2.frozen 72
      have hbl3 := hbl2.set 72 (.int .u64 ((N + t : Nat) : Int))
      rw [stc_set s buf2 N (N + t) hb2l] at hbl3
      have hgr3 := but_setCell (but_trans hgr hgr2) 72 (.int .u64 ((N + t : Nat) : Int))
      have hsl2 := (sl_off hsl hgr2 (Nat.le_trans hB hgr.size) hoff)
      have HQ := Lib.hid hq
      have HN := Lib.hid hN
      have HAa := Lib.hid ha
      have HTt := Lib.hid ht
      have HS1 := Lib.hid hs1
      have HB64 := Lib.hid hb64
      have HBUF := Lib.hid hbuf
      have HBUF2 := Lib.hid hbuf2
      have HB2 := Lib.hid hb2l
      have HQL := Lib.hid hql
      have HCP := Lib.hid hcp
      clear hq hN ha ht hs1 hb64 hbuf hbuf2 hb2l htk hbl hbl2 hsl hql hcp
      go_wp2_with fail
      rw [run_slice_arr_from wr 41 5 g 8 64 Tryd.underlying41 u8_size .i64 _ a rfl ha64]
      go_wp2_with fail
      rw [HCP.out]
      have hcast : ((N + t : Nat) : Int) = (N : Int) + (t : Int) := by omega
      rw [hcast] at hbl3 hgr3
      clear hcast
      have hTabs3 : Tabs (w2.setCell ⟨g, 72, none⟩ (.int .u64 ((N : Int) + (t : Int)))) := hT'.but (but_setCell hgr2 72 _) hg
      have hBw2 : B ≤ w2.heap.size := Nat.le_trans (Nat.le_trans hB hgr.size) hgr2.size
      clear hgr hgr2
      by_cases hfull : a + t = 64
      · have hq64 : ((a : Int) + (t : Int) == 64) = true := by simp; omega
        have HF := Lib.hid hfull
        clear hfull
        go_wp2_with (refine wpList_slice_from rfl 22 _ _ rfl 5 Tryd.underlying22 u8_size A' (l.length - k) c' t .i64 _ rfl rfl rfl htl hcc hnn ?_; intro A2 HA2)
        obtain ⟨W3, hW3⟩ : ∃ W3, W3 = w2.setCell ⟨g, 72, none⟩ (.int .u64 ((N : Int) + (t : Int))) := ⟨_, rfl⟩
        rw [← hW3] at hTabs3 hbl3 hgr3 ⊢
        have hg23 : w2.grownBy W3 (some g) := by rw [hW3]; exact but_setCell (but_refl w2 g) 72 _
        have hwords : W3.rangeAt g 0 (us s.list) := by have := hbl3.range 0 8; rwa [stc_words] at this
        have hblock : W3.rangeAt g 8 (cb buf2) := by have := hbl3.range 8 64; rwa [stc_block _ _ _ HB2.out] at this
        have hsok : s.ok := by rw [HS1.out]; exact hs_ok _ _
        clear hW3
        refine wp_region_any (by kernel_rfl) ?_
        change wpAny _ _ _ _ _ _ _ (World.drew _)
        refine wpAny_take (i := 0) (v := (.pointer (some ⟨g, 0, none⟩))) rfl (by kernel_rfl) (by kernel_rfl) (by kernel_rfl) (fun _ _ _ h => h) (Or.inl ⟨by rfl, fun _ => by go_simp⟩) ?_
        simp only [List.getElem_toArray, List.getElem_cons_succ, List.getElem_cons_zero, Act.put, List.setIfInBounds_toArray, List.set_cons_zero, List.set_cons_succ]
        refine wpAny_take (i := 1) (v := (.pointer (some ⟨g, 0, none⟩))) rfl (by kernel_rfl) (by kernel_rfl) (by kernel_rfl) (fun _ _ _ h => h) (Or.inl ⟨by rfl, fun _ => by go_simp⟩) ?_
        simp only [List.getElem_toArray, List.getElem_cons_succ, List.getElem_cons_zero, Act.put, List.setIfInBounds_toArray, List.set_cons_zero, List.set_cons_succ]
        refine wpAny_take (i := 2) (v := (.pointer (some ⟨g, 0, none⟩))) rfl (by kernel_rfl) (by kernel_rfl) (by kernel_rfl) (fun _ _ _ h => h) (Or.inl ⟨by rfl, fun _ => by go_simp⟩) ?_
        simp only [List.getElem_toArray, List.getElem_cons_succ, List.getElem_cons_zero, Act.put, List.setIfInBounds_toArray, List.set_cons_zero, List.set_cons_succ]
        refine wpAny_take (i := 3) (v := (.pointer (some ⟨g, 0, none⟩))) rfl (by kernel_rfl) (by kernel_rfl) (by kernel_rfl) (fun _ _ _ h => h) (Or.inl ⟨by rfl, fun _ => by go_simp⟩) ?_
        simp only [List.getElem_toArray, List.getElem_cons_succ, List.getElem_cons_zero, Act.put, List.setIfInBounds_toArray, List.set_cons_zero, List.set_cons_succ]
        refine wpAny_take (i := 5) (v := (.pointer (some ⟨g, 0, none⟩))) rfl (by kernel_rfl) (by kernel_rfl) (by kernel_rfl) (fun _ _ _ h => h) (Or.inl ⟨by rfl, fun _ => by go_simp⟩) ?_
        simp only [List.getElem_toArray, List.getElem_cons_succ, List.getElem_cons_zero, Act.put, List.setIfInBounds_toArray, List.set_cons_zero, List.set_cons_succ]
        refine wpAny_take (i := 6) (v := (.pointer (some ⟨g, 0, none⟩))) rfl (by kernel_rfl) (by kernel_rfl) (by kernel_rfl) (fun _ _ _ h => h) (Or.inl ⟨by rfl, fun _ => by go_simp⟩) ?_
        simp only [List.getElem_toArray, List.getElem_cons_succ, List.getElem_cons_zero, Act.put, List.setIfInBounds_toArray, List.set_cons_zero, List.set_cons_succ]
        refine wpAny_take (i := 7) (v := (.pointer (some ⟨g, 8, none⟩))) rfl (by kernel_rfl) (by kernel_rfl) (by kernel_rfl) (fun _ _ _ h => h) (Or.inl ⟨by rfl, fun _ => by go_simp⟩) ?_
        simp only [List.getElem_toArray, List.getElem_cons_succ, List.getElem_cons_zero, Act.put, List.setIfInBounds_toArray, List.set_cons_zero, List.set_cons_succ]
        have hwords' : W3.drew.rangeAt g 0 (us s.list) := hwords
        have hblock' : W3.drew.rangeAt g 8 (cb buf2) := hblock
        clear hwords hblock
        refine wpAny_ready (rs := [4, 8]) (by kernel_rfl) (by simp) (AllReady.cons rfl (fun K hK => ?_) (AllReady.cons rfl (fun K hK => ?_) AllReady.nil))
        · simp only [List.getElem_toArray, List.getElem_cons_succ, List.getElem_cons_zero, Act.put, List.setIfInBounds_toArray, List.set_cons_zero, List.set_cons_succ]
          rw [if_pos (by rfl)]
          refine wp_load_mid 43 _ rfl g 0 rfl (us s.list) _ hwords' Tryd.underlying43 rfl size_state8 ?_
          refine hK _ _ ?_
          clear hK K
          simp only [List.getElem_toArray, List.getElem_cons_succ, List.getElem_cons_zero, Act.put, List.setIfInBounds_toArray, List.set_cons_zero, List.set_cons_succ]
          refine wpAny_ready (rs := [8]) (by kernel_rfl) (by simp) (AllReady.cons rfl (fun K hK => ?_) AllReady.nil)
          simp only [List.getElem_toArray, List.getElem_cons_succ, List.getElem_cons_zero, Act.put, List.setIfInBounds_toArray, List.set_cons_zero, List.set_cons_succ]
          rw [if_pos (by rfl)]
          refine wp_load_mid 41 _ rfl g 8 rfl (cb buf2) _ hblock' Tryd.underlying41 rfl (by rw [size_block, cb_len, HB2.out]) ?_
          refine hK _ _ ?_
          clear hK K
          simp only [List.getElem_toArray, List.getElem_cons_succ, List.getElem_cons_zero, Act.put, List.setIfInBounds_toArray, List.set_cons_zero, List.set_cons_succ]
          refine wpAny_ready (rs := [9]) (by kernel_rfl) (by simp) (AllReady.cons rfl (fun K hK => ?_) AllReady.nil)
          simp only [List.getElem_toArray, List.getElem_cons_succ, List.getElem_cons_zero, Act.put, List.setIfInBounds_toArray, List.set_cons_zero, List.set_cons_succ]
          go_simp
          refine (after_any s buf2 _ hsok HB2.out hTabs3.drew).mono ?_
          rintro e w4 ⟨rfl, hb4⟩
          refine hK _ _ ?_
          clear hK K
          have hbl4 := hbl3.drew.next hb4
          have hg34 : W3.grownBy w4 (some g) := but_trans (but_drewN (but_refl W3 g) 1) (but_below hb4)
          have hth : w4.there g 0 (us (blk s buf2).list).toArray.size := hbl4.there_ (by rw [List.size_toArray, us_len, list_len, stc_len _ _ _ HB2.out]; omega)
          have hg35 := Lib.hid (but_setCells hg34 0 (us (blk s buf2).list))
          have hbl5 := Lib.hid (stc_over s (blk s buf2) buf2 (N + t) ▸ Bl.sets g 45 (us (blk s buf2).list) 0 _ _ hbl4 (by rw [us_len, list_len, stc_len _ _ _ HB2.out]; omega))
          clear hwords' hblock' hbl4 hb4 hg34
          refine wpAny_take (i := 10) (v := (.pointer (some ⟨g, 0, none⟩))) rfl (by kernel_rfl) (by kernel_rfl) (by kernel_rfl) (fun _ _ _ h => h) (Or.inl ⟨by rfl, fun _ => by go_simp⟩) ?_
          simp only [List.getElem_toArray, List.getElem_cons_succ, List.getElem_cons_zero, Act.put, List.setIfInBounds_toArray, List.set_cons_zero, List.set_cons_succ]
          refine wpAny_take (i := 11) (v := (.pointer (some ⟨g, 0, none⟩))) rfl (by kernel_rfl) (by kernel_rfl) (by kernel_rfl) (fun _ _ _ h => h) (Or.inl ⟨by rfl, fun _ => by go_simp⟩) ?_
          simp only [List.getElem_toArray, List.getElem_cons_succ, List.getElem_cons_zero, Act.put, List.setIfInBounds_toArray, List.set_cons_zero, List.set_cons_succ]
          refine wpAny_ready (rs := [12]) (by kernel_rfl) (by simp) (AllReady.cons rfl (fun K hK => ?_) AllReady.nil)
          simp only [List.getElem_toArray, List.getElem_cons_succ, List.getElem_cons_zero, Act.put, List.setIfInBounds_toArray, List.set_cons_zero, List.set_cons_succ]
          rw [if_pos (by rfl)]
          refine wp_store_mid 43 _ _ rfl g 0 (us (blk s buf2).list).toArray rfl rfl hth size_state8 (all_oneCell_toArray (us_one _)) ?_
          refine hK _ _ ?_
          clear hK K
          refine wpAny_done (by kernel_rfl) ?_ _
          simp only [List.getElem_toArray, List.getElem_cons_succ, List.getElem_cons_zero, Act.put, List.setIfInBounds_toArray, List.set_cons_zero, List.set_cons_succ]
          go_wp2
          go_roundw
          case rel =>
            have hfin := addR_next htl hk HA2.out hsl2 hBw2 hoff hcc hnn (but_trans hg23 hg35.out) (but_trans hgr3 hg35.out) (hTabs3.but hg35.out hg) (add_next HQ.out HN.out HAa.out HTt.out HS1.out HB64.out HBUF.out HBUF2.out HB2.out (.inr ⟨HF.out, rfl⟩) hbl5.out)
            first | exact hfin | ((repeat apply Exists.intro); exact ⟨hfin, rfl⟩)
          case measure => simp [lenOf]; omega
        · simp only [List.getElem_toArray, List.getElem_cons_succ, List.getElem_cons_zero, Act.put, List.setIfInBounds_toArray, List.set_cons_zero, List.set_cons_succ]
          rw [if_pos (by rfl)]
          refine wp_load_mid 41 _ rfl g 8 rfl (cb buf2) _ hblock' Tryd.underlying41 rfl (by rw [size_block, cb_len, HB2.out]) ?_
          refine hK _ _ ?_
          clear hK K
          simp only [List.getElem_toArray, List.getElem_cons_succ, List.getElem_cons_zero, Act.put, List.setIfInBounds_toArray, List.set_cons_zero, List.set_cons_succ]
          refine wpAny_ready (rs := [4]) (by kernel_rfl) (by simp) (AllReady.cons rfl (fun K hK => ?_) AllReady.nil)
          simp only [List.getElem_toArray, List.getElem_cons_succ, List.getElem_cons_zero, Act.put, List.setIfInBounds_toArray, List.set_cons_zero, List.set_cons_succ]
          rw [if_pos (by rfl)]
          refine wp_load_mid 43 _ rfl g 0 rfl (us s.list) _ hwords' Tryd.underlying43 rfl size_state8 ?_
          refine hK _ _ ?_
          clear hK K
          simp only [List.getElem_toArray, List.getElem_cons_succ, List.getElem_cons_zero, Act.put, List.setIfInBounds_toArray, List.set_cons_zero, List.set_cons_succ]
          refine wpAny_ready (rs := [9]) (by kernel_rfl) (by simp) (AllReady.cons rfl (fun K hK => ?_) AllReady.nil)
          simp only [List.getElem_toArray, List.getElem_cons_succ, List.getElem_cons_zero, Act.put, List.setIfInBounds_toArray, List.set_cons_zero, List.set_cons_succ]
          go_simp
          refine (after_any s buf2 _ hsok HB2.out hTabs3.drew).mono ?_
          rintro e w4 ⟨rfl, hb4⟩
          refine hK _ _ ?_
          clear hK K
          have hbl4 := hbl3.drew.next hb4
          have hg34 : W3.grownBy w4 (some g) := but_trans (but_drewN (but_refl W3 g) 1) (but_below hb4)
          have hth : w4.there g 0 (us (blk s buf2).list).toArray.size := hbl4.there_ (by rw [List.size_toArray, us_len, list_len, stc_len _ _ _ HB2.out]; omega)
          have hg35 := Lib.hid (but_setCells hg34 0 (us (blk s buf2).list))
          have hbl5 := Lib.hid (stc_over s (blk s buf2) buf2 (N + t) ▸ Bl.sets g 45 (us (blk s buf2).list) 0 _ _ hbl4 (by rw [us_len, list_len, stc_len _ _ _ HB2.out]; omega))
          clear hwords' hblock' hbl4 hb4 hg34
          refine wpAny_take (i := 10) (v := (.pointer (some ⟨g, 0, none⟩))) rfl (by kernel_rfl) (by kernel_rfl) (by kernel_rfl) (fun _ _ _ h => h) (Or.inl ⟨by rfl, fun _ => by go_simp⟩) ?_
          simp only [List.getElem_toArray, List.getElem_cons_succ, List.getElem_cons_zero, Act.put, List.setIfInBounds_toArray, List.set_cons_zero, List.set_cons_succ]
          refine wpAny_take (i := 11) (v := (.pointer (some ⟨g, 0, none⟩))) rfl (by kernel_rfl) (by kernel_rfl) (by kernel_rfl) (fun _ _ _ h => h) (Or.inl ⟨by rfl, fun _ => by go_simp⟩) ?_
          simp only [List.getElem_toArray, List.getElem_cons_succ, List.getElem_cons_zero, Act.put, List.setIfInBounds_toArray, List.set_cons_zero, List.set_cons_succ]
          refine wpAny_ready (rs := [12]) (by kernel_rfl) (by simp) (AllReady.cons rfl (fun K hK => ?_) AllReady.nil)
          simp only [List.getElem_toArray, List.getElem_cons_succ, List.getElem_cons_zero, Act.put, List.setIfInBounds_toArray, List.set_cons_zero, List.set_cons_succ]
          rw [if_pos (by rfl)]
          refine wp_store_mid 43 _ _ rfl g 0 (us (blk s buf2).list).toArray rfl rfl hth size_state8 (all_oneCell_toArray (us_one _)) ?_
          refine hK _ _ ?_
          clear hK K
          refine wpAny_done (by kernel_rfl) ?_ _
          simp only [List.getElem_toArray, List.getElem_cons_succ, List.getElem_cons_zero, Act.put, List.setIfInBounds_toArray, List.set_cons_zero, List.set_cons_succ]
          go_wp2
          go_roundw
          case rel =>
            have hfin := addR_next htl hk HA2.out hsl2 hBw2 hoff hcc hnn (but_trans hg23 hg35.out) (but_trans hgr3 hg35.out) (hTabs3.but hg35.out hg) (add_next HQ.out HN.out HAa.out HTt.out HS1.out HB64.out HBUF.out HBUF2.out HB2.out (.inr ⟨HF.out, rfl⟩) hbl5.out)
            first | exact hfin | ((repeat apply Exists.intro); exact ⟨hfin, rfl⟩)
          case measure => simp [lenOf]; omega
      · have hq64 : ((a : Int) + (t : Int) == 64) = false := by simp; omega
        have hte : t = l.length - k := by omega
        have HTE := Lib.hid hte
        have HF : Hid (a + t < 64) := (by omega : a + t < 64)
        clear hfull hte
        go_wp2_with (refine wpList_slice_from rfl 22 _ _ rfl 5 Tryd.underlying22 u8_size A' (l.length - k) c' t .i64 _ rfl rfl rfl htl hcc hnn ?_; intro A2 HA2)
        go_roundw
        case rel => exact addR_next htl hk HA2.out hsl2 hBw2 hoff hcc hnn (but_setCell (but_refl w2 g) 72 _) hgr3 hTabs3 (add_next HQ.out HN.out HAa.out HTt.out HS1.out HB64.out HBUF.out HBUF2.out HB2.out (.inl ⟨HF.out, rfl⟩) hbl3)
        case measure => simp [lenOf]; omega
    · have HK : Hid (k = l.length) := (by omega : k = l.length)
      have hz : l.length - k = 0 := by omega
      rw [hz]
      go_wp2
      go_end0
      refine ⟨rfl, ?_, hgr, hT'⟩
      rw [HK.out, List.take_length] at hst'
      exact hst'

end Go.Proofs.YtfmbilnbbpbpeaaDoor

