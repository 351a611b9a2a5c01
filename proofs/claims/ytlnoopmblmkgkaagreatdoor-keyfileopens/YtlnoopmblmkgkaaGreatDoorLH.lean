/- Layer 9, label: purposes, epochs, keys and ids as lists of bytes; isPurpose, isEpoch. -/
import Derived.Test.YtlnoopmblmkgkaaGreatDoorLN
import Derived.Test.YtlnoopmblmkgkaaGreatDoorLM
import Derived.Test.YtlnoopmblmkgkaaGreatDoorLG
import Derived.Test.YtlnoopmblmkgkaaGreatDoorLV
import Derived.Laws.Strings
import Derived.WalkMore
import Derived.Lib.ConvBytes
import Derived.ArgAppend
import Derived.Deep.MidRow
import Derived.Maps.OwnSet
import Derived.Maps.RangeWalk
import Derived.Lib.SlKeysI
import Derived.Laws.IdiomRangeMap
namespace Go.Proofs.YtlnoopmblmkgkaaGreatDoor
set_option maxRecDepth 100000
open Go.RowKit
set_option linter.unusedVariables false
set_option linter.unusedSimpArgs false

/-- A letter. -/
def lett (c : UInt8) : Bool := decide (97 ≤ c.toNat) && decide (c.toNat ≤ 122)
/-- Is it a purpose? -/
def purp (p : List UInt8) : Bool := decide (1 ≤ p.length) && (decide (p.length ≤ 16) && p.all lett)
/-- Is it an epoch? -/
def epo (e : Int) : Bool := decide (1 ≤ e) && decide (e ≤ 64)
/-- What is tagged for a purpose and an epoch. -/
def lmsg (p : List UInt8) (e : Int) : List UInt8 := p ++ (0 :: told8 e.toNat)
def lfit (k p : List UInt8) (e : Int) : Bool := decide (k.length = 32) && (purp p && epo e)
def lkeyR (k p : List UInt8) (e : Int) : List UInt8 := if lfit k p e = true then hmac k (lmsg p e) else []
def lkeyE (k p : List UInt8) (e : Int) : Int := if lfit k p e = true then 0 else 1
def ifit (k : List UInt8) (kind : Int) : Bool := decide (k.length = 32) && (decide (0 ≤ kind) && decide (kind ≤ 255))
def lidR (k : List UInt8) (kind : Int) (t : List UInt8) : List UInt8 := if ifit k kind = true then hmac k (UInt8.ofNat kind.toNat :: t) else List.replicate 32 0
def lidE (k : List UInt8) (kind : Int) : Int := if ifit k kind = true then 0 else 1
theorem lidR_len (k : List UInt8) (kind : Int) (t : List UInt8) : (lidR k kind t).length = 32 := by
  unfold lidR
  split
  · exact hmac_len _ _
  · simp
theorem lkeyR_len (k p : List UInt8) (e : Int) : (lkeyR k p e).length ≤ 32 := by
  unfold lkeyR
  split
  · rw [hmac_len]; omega
  · simp
theorem lmsg_len (p : List UInt8) (e : Int) : (lmsg p e).length = p.length + 9 := by unfold lmsg; simp [told8_len]

/-- The first k bytes are letters. -/
def letts (p : List UInt8) (k : Nat) : Prop := ∀ j (h : j < p.length), j < k → lett p[j] = true
theorem letts_zero (p : List UInt8) : letts p 0 := fun j h hj => absurd hj (by omega)
theorem letts_next {p : List UInt8} {k : Nat} (h : letts p k) (hk : k < p.length) (hl : lett p[k] = true) : letts p (k + 1) := by
  intro j hj hjk
  by_cases e : j = k
  · subst e; exact hl
  · exact h j hj (by omega)
theorem purp_of {p : List UInt8} (h : letts p p.length) (h1 : 1 ≤ p.length) (h16 : p.length ≤ 16) : purp p = true := by
  unfold purp
  simp only [Bool.and_eq_true, decide_eq_true_eq, List.all_eq_true]
  refine ⟨h1, h16, fun c hc => ?_⟩
  obtain ⟨j, hj, e⟩ := List.mem_iff_getElem.1 hc
  rw [← e]
  exact h j hj hj
theorem purp_no {p : List UInt8} {k : Nat} (hk : k < p.length) (hl : lett p[k] = false) : purp p = false := by
  unfold purp
  have : p.all lett = false := by
    rw [← Bool.not_eq_true]
    intro ha
    rw [List.all_eq_true] at ha
    rw [ha _ (List.getElem_mem hk)] at hl
    cases hl
  rw [this]; simp
theorem purp_long {p : List UInt8} (h : 16 < p.length) : purp p = false := by
  unfold purp
  rw [decide_eq_false (by omega : ¬ p.length ≤ 16)]; simp
theorem purp_none : purp [] = false := by decide
theorem lett_lo {c : UInt8} (h : (c.toNat : Int) < 97) : lett c = false := by
  unfold lett
  rw [decide_eq_false (by omega)]; rfl
theorem lett_hi {c : UInt8} (h : (122 : Int) < (c.toNat : Int)) : lett c = false := by
  unfold lett
  rw [decide_eq_false (by omega : ¬ c.toNat ≤ 122)]; simp
theorem lett_in {c : UInt8} (h : ¬ (c.toNat : Int) < 97) (h' : ¬ (122 : Int) < (c.toNat : Int)) : lett c = true := by
  unfold lett
  simp only [Bool.and_eq_true, decide_eq_true_eq]
  omega

/-- 's[i]' of a string. -/
theorem str_at (w : World) (p : List UInt8) (k : Nat) (h : k < p.length) : (Instr.index 9 (.string ⟨p.toArray⟩) (.int .i64 (k : Int))).run Tryz.prog w = .ok (.int .u8 (p[k].toNat : Int)) w := by
  rw [run_index_string w 9 ⟨p.toArray⟩ .i64 k Tryz.underlying9]
  rw [dif_pos ⟨by omega, by show (k : Int) < ((p.toArray.size : Nat) : Int); simp; omega⟩]
  rfl

set_option maxHeartbeats 1000000 in
theorem ispurp_any (p : List UInt8) (w : World) :
    Calls Tryz.prog 77 #[.string ⟨p.toArray⟩] w fun e w' => e = .returned (.bool (purp p)) ∧ w = w' := by
  obtain ⟨r, hr⟩ : ∃ r, r = purp p := ⟨_, rfl⟩
  rw [← hr]
  have HR := Lib.hid hr
  clear hr
  have hlen : (ByteArray.mk p.toArray).size = p.length := by show p.toArray.size = _; simp
  go_enter Tryz.func77, Tryz.ntmps77
  go_wp2
  go_step3
  go_wp2
  go_step3
  go_wp2
  rename_i KK hKK
  go_loopw [3] (fun i wr => ∃ k : Nat, k ≤ p.length ∧ k ≤ 16 ∧ i = .int .i64 k ∧ letts p k ∧ w = wr) (fun i _ => p.length - (Go.RowKit.intOf i).toNat)
  case atStart => exact ⟨0, by omega, by omega, rfl, letts_zero p, rfl⟩
  case round =>
    obtain ⟨k, hk, h16, rfl, hL, rfl⟩ := hrel
    by_cases hlt : k < p.length
    · have hi := str_at w p k hlt
      have hne : ((k : Int) == (p.length : Int)) = false := by simp; omega
      rcases Nat.lt_or_ge k 16 with h17 | h17
      · have h16' : ¬ (k : Int) = 16 := by omega
        by_cases hlo : (p[k].toNat : Int) < 97
        · have HB := Lib.hid (purp_no hlt (lett_lo hlo))
          go_wp2
          all_goals
            try simp only [Exit.noGoto_ret]
            go_ret
            exact ⟨ret_bool (by rw [HR.out, HB.out] <;> first | rfl | (simp; omega)), rfl⟩
        · by_cases hhi : (122 : Int) < (p[k].toNat : Int)
          · have HB := Lib.hid (purp_no hlt (lett_hi hhi))
            go_wp2
            all_goals
              try simp only [Exit.noGoto_ret]
              go_ret
              exact ⟨ret_bool (by rw [HR.out, HB.out] <;> first | rfl | (simp; omega)), rfl⟩
          · have hL2 := letts_next hL hlt (lett_in hlo hhi)
            go_wp2
            go_roundw
            case rel => exact ⟨k + 1, by omega, by omega, by simp, hL2, by trivial⟩
            case measure => simp [Go.RowKit.intOf]; omega
      · have h16' : (k : Int) = 16 := by omega
        have HB := Lib.hid (purp_long (p := p) (by omega))
        go_wp2
        all_goals
          try simp only [Exit.noGoto_ret]
          go_ret
          exact ⟨ret_bool (by rw [HR.out, HB.out] <;> first | rfl | (simp; omega)), rfl⟩
    · have hkl : k = p.length := by omega
      have HB : Hid (purp p = decide (0 < k)) := by
        unfold Hid
        rcases Nat.eq_zero_or_pos k with h0 | h0
        · rw [decide_eq_false (by omega)]; unfold purp; rw [decide_eq_false (by omega)]; rfl
        · rw [decide_eq_true h0]; rw [hkl] at hL; exact purp_of hL (by omega) (by omega)
      have hne : ((k : Int) == (p.length : Int)) = true := by simp; omega
      clear hkl
      rcases Nat.eq_zero_or_pos k with h0 | h0
      · have h0' : ¬ (0 : Int) < (k : Int) := by omega
        go_wp2
        all_goals
          try simp only [Exit.noGoto_ret]
          go_ret
          exact ⟨ret_bool (by rw [HR.out, HB.out]; simp <;> omega), rfl⟩
      · have h0' : (0 : Int) < (k : Int) := by omega
        go_wp2
        all_goals
          try simp only [Exit.noGoto_ret]
          go_ret
          exact ⟨ret_bool (by rw [HR.out, HB.out]; simp <;> omega), rfl⟩

theorem isepo_any (e : Int) (w : World) :
    Calls Tryz.prog 56 #[.int .i64 e] w fun r w' => r = .returned (.bool (epo e)) ∧ w = w' := by
  obtain ⟨r, hr⟩ : ∃ r, r = epo e := ⟨_, rfl⟩
  rw [← hr]
  have HR := Lib.hid hr
  clear hr
  go_enter Tryz.func56, Tryz.ntmps56
  by_cases h1 : 1 ≤ e
  · go_wp2
    go_ret
    refine ⟨ret_bool ?_, rfl⟩
    rw [HR.out]; unfold epo; rw [decide_eq_true h1]; simp
  · go_wp2
    go_ret
    refine ⟨ret_bool ?_, rfl⟩
    rw [HR.out]; unfold epo; rw [decide_eq_false (by omega)]; simp

end Go.Proofs.YtlnoopmblmkgkaaGreatDoor

namespace Go.Proofs.YtlnoopmblmkgkaaGreatDoor
set_option maxRecDepth 100000
open Go Go.RowKit
set_option linter.unusedVariables false
set_option linter.unusedSimpArgs false

/-- A slice in memory of the call's own, told by its cells, whatever mark its row bears. -/
structure OwnC (w : World) (base g : Nat) (n cap : Nat) (xs : List Value) : Prop where
  len : xs.length = n
  low : base ≤ g
  lt : g < w.heap.size
  cap_ : n ≤ cap
  at_ : w.rangeAt g 0 xs
  there_ : w.there g 0 cap

section
variable {w w' : World} {base g n cap : Nat} {xs : List Value}
theorem OwnC.keep (h : OwnC w base g n cap xs) (hb : w'.heap[g]? = w.heap[g]?) (hs : w.heap.size ≤ w'.heap.size) : OwnC w' base g n cap xs := by
  have hc : ∀ o, w'.cell? ⟨g, o, none⟩ = w.cell? ⟨g, o, none⟩ := fun o => by unfold World.cell?; rw [hb]
  have hf : ∀ o, w'.frozen? ⟨g, o, none⟩ = w.frozen? ⟨g, o, none⟩ := fun o => by unfold World.frozen?; rw [hb]
  exact ⟨h.len, h.low, Nat.lt_of_lt_of_le h.lt hs, h.cap_, fun j v hv => by rw [hc]; exact h.at_ j v hv, fun j hj => by rw [hc, hf]; exact h.there_ j hj⟩
theorem OwnC.next (h : OwnC w base g n cap xs) (hb : Below w.heap.size w w') : OwnC w' base g n cap xs := h.keep (hb.block g h.lt) hb.size
theorem OwnC.alloc (h : OwnC w base g n cap xs) (o : Obj) : OwnC (w.alloc o) base g n cap xs := h.keep (Below.heap_alloc w o g h.lt) (by simp)
theorem OwnC.sl (h : OwnC w base g n cap xs) : Sl w w.heap.size (some ⟨g, 0, none⟩) n xs := by
  refine ⟨h.len, fun _ => ⟨_, rfl, h.lt, fun j u hu => ?_⟩⟩
  rw [Addr.add_mid]
  exact h.at_ j u hu
theorem OwnC.own {e : TypeId} (h : w.ownsRow base e 1 (.slice (some ⟨g, 0, none⟩) n cap) n xs) : OwnC w base g n cap xs := by
  rcases h with ⟨h1, ⟨hv, _⟩ | ⟨g', cap', cur, hv, hb, hg, r1, r2, r3, r4⟩⟩
  · cases hv
  · injection hv with ha _ hc
    injection ha with ha
    injection ha with ha
    subst ha; subst hc
    refine ⟨by omega, hb, (Array.getElem?_eq_some_iff.1 hg).1, r1, fun j v hv => ?_, fun j hj => ?_⟩
    · rw [cell_of_row w g _ cur e _ hg]
      rw [← r4, List.getElem?_take] at hv
      split at hv
      · simpa using hv
      · cases hv
    · rw [cell_of_row w g _ cur e _ hg]
      exact ⟨by rw [Array.getElem?_eq_getElem (by omega)]; rfl, frozen_of_row w g _ cur e hg⟩
end

/-- '[]byte(s)'. -/
theorem run_bytes_of {P : Program} (w : World) (src dst e : TypeId) (l : List UInt8) {u : TypeDesc} (hs : P.underlying src = some u) (hd : P.underlying dst = some (.slice e)) (he : P.underlying e = some (.int .u8)) :
    ∃ cap w', (convert src dst (.string ⟨l.toArray⟩)).run P w = .ok (.slice (some ⟨w.heap.size, 0, none⟩) l.length cap) w' ∧ OwnC w' w.heap.size w.heap.size l.length cap (cb l) ∧ Below w.heap.size w w' := by
  have hr := Lib.run_convert_string_bytes (P := P) w src dst e ⟨l.toArray⟩ hs hd he
  have hsz : (ByteArray.mk l.toArray).size = l.length := by show l.toArray.size = _; simp
  have hge := grownCap_ge w l.length 0 e
  rw [hsz] at hr
  refine ⟨_, _, hr, ⟨cb_len l, Nat.le_refl _, by rw [Lib.bytesWorld_size]; omega, hge, fun j v hv => ?_, fun j hj => ?_⟩, ?_⟩
  · have hj : j < l.length := by have := (List.getElem?_eq_some_iff.1 hv).1; rwa [cb_len] at this
    rw [Nat.zero_add, Lib.bytesWorld_cell w e _ j (by rw [hsz]; exact hj)]
    rw [cb_at hj] at hv
    rw [← hv]
    simp [List.getD, List.getElem?_eq_getElem hj]
  · have hnew := Lib.bytesWorld_at_new w e ⟨l.toArray⟩
    have hcs : (Lib.bytesCells w e ⟨l.toArray⟩).size = grownCap w l.length 0 e := by
      simp only [Lib.bytesCells, Array.size_append, Array.size_map, Array.size_replicate, hsz]
      show l.toArray.size + _ = _
      simp; omega
    rw [Nat.zero_add]
    refine ⟨by rw [cell_of_row _ _ _ _ _ _ hnew, Array.getElem?_eq_getElem (by omega)]; rfl, ?_⟩
    simp only [World.frozen?, hnew, Bool.and_eq_false_iff, decide_eq_false_iff_not]
    left
    omega
  · have hg : w.grownBy (Lib.bytesWorld w e ⟨l.toArray⟩) none := ⟨rfl, rfl, rfl, by rw [Lib.bytesWorld_size]; omega, fun k hk _ => Lib.bytesWorld_at_old w e _ k hk⟩
    exact (Below.refl _ w).grown hg (Nat.le_refl _) (by simp)

/-- 'append(s, x...)' onto such a slice. -/
theorem run_append_C {P : Program} (w : World) (base : Nat) (t ty e : TypeId) (i : TypeInfo) (z : Value) (bytes : Nat) (ht : P.underlying t = some (.slice e)) (hi : P.info? e = some i) (hz : i.zero = some z)
    (hsize : i.size = 1) (hby : i.bytes = bytes) (hzs : z.cells.size = 1) (g n cap : Nat) (xs : List Value) (hown : OwnC w base g n cap xs)
    (B : Nat) (A : Addr) (m c : Nat) (news : List Value) (hr : Sl w B (some A) m news) (h1 : ∀ u ∈ news, u.oneCell' = true) (h63 : n + m ≤ maxLen) (hbytes : (n + m) * bytes ≤ 140737488355328) (hbase : base ≤ w.heap.size) :
    ∃ g' cap' w', (Builtin.append_ #[t, t] ty #[.slice (some ⟨g, 0, none⟩) n cap, .slice (some A) m c]).run P w = .ok (.slice (some ⟨g', 0, none⟩) (n + m) cap') w' ∧ OwnC w' base g' (n + m) cap' (xs ++ news) ∧ w.grownBy w' (some g) := by
  have hcells : ∀ j u, news[j]? = some u → w.cell? (A.add j) = some u := by
    intro j u hu
    obtain ⟨ad', h, _, hc⟩ := hr.2 (by have := (List.getElem?_eq_some_iff.1 hu).1; rw [hr.1] at this; omega)
    injection h with h
    subst h
    exact hc j u hu
  have hlen : (xs ++ news).length = n + m := by rw [List.length_append, hown.len, hr.1]
  by_cases hroom : n + m ≤ cap
  · have hth : w.there g n news.length := fun j hj => by
      have := hown.there_ (n + j) (by rw [hr.1] at hj; omega)
      rwa [Nat.zero_add] at this
    have hrun := run_append_room_cells (P := P) w t ty e i ht hi g 0 n cap A m c news (by rw [hsize, hr.1]; omega) hcells h1 hroom (by rw [hsize]; simpa using fun j hj => (hth j hj).1) (by rw [hsize]; simpa using fun j hj => (hth j hj).2)
    rw [hsize, Nat.mul_one, Nat.zero_add] at hrun
    refine ⟨g, cap, _, hrun, ⟨hlen, hown.low, by rw [size_setCells]; exact hown.lt, hroom, fun j v hv => ?_, World.there_setCells hown.there_ g n news⟩, but_setCells (but_refl w g) n news⟩
    by_cases hj : j < n
    · rw [World.cell?_setCells_out g news n w _ (fun _ _ => Or.inl (by simp; exact hj))]
      rw [List.getElem?_append_left (by rw [hown.len]; exact hj)] at hv
      exact hown.at_ j v hv
    · rw [List.getElem?_append_right (by rw [hown.len]; omega), hown.len] at hv
      have hj2 := (List.getElem?_eq_some_iff.1 hv).1
      have hcc := World.cell?_setCells_in g news n w (fun i hi => (hth i hi).1) (j - n) hj2
      rw [show n + (j - n) = 0 + j by omega] at hcc
      rw [hcc, ← hv, List.getElem?_eq_getElem hj2]
  · obtain ⟨v', w', hrun, o1, o2⟩ := run_append_arg_grows (P := P) w t ty e i z 1 bytes ht hi hz hsize hby hzs (by decide) ⟨g, 0, none⟩ n cap xs (by rw [hown.len]; omega) (fun j u hu => by rw [Addr.add_mid]; exact hown.at_ j u hu) A m c news (by rw [hr.1]; omega) hcells (by omega) h63 hbytes
    obtain ⟨A', c', rfl⟩ := own_form o1
    rcases A' with _ | ad
    · exfalso
      have := own_none o1 rfl
      have := own_cap o1
      omega
    · have hz0 : ad = ⟨ad.block, 0, none⟩ := by
        rcases o1.2 with ⟨hv, _⟩ | ⟨g', cap', cur, hv, _⟩
        · cases hv
        · injection hv with ha _ _
          injection ha with ha
          rw [ha]
      rw [hz0] at hrun o1
      have oc := OwnC.own o1
      exact ⟨ad.block, c', w', hrun, ⟨oc.len, Nat.le_trans hbase oc.low, oc.lt, oc.cap_, oc.at_, oc.there_⟩, o2.but (some g)⟩

section
variable {P : Program} {ops : Array Oper} {rest : List Oper} {o : Oper} {a : Act} {w : World} {Q : Exit → Act → World → Prop}
theorem wpList_bytes_of (hgd : o.guard = none) (src dst e : TypeId) (x : Operand) (ho : o.op = .convert src dst x) (l : List UInt8) (hx : a.eval x = .string ⟨l.toArray⟩) {u : TypeDesc} (hs : P.underlying src = some u) (hd : P.underlying dst = some (.slice e)) (he : P.underlying e = some (.int .u8))
    (h : ∀ cap w', OwnC w' w.heap.size w.heap.size l.length cap (cb l) → Below w.heap.size w w' → wpList P ops Q rest (a.put o.dst (.slice (some ⟨w.heap.size, 0, none⟩) l.length cap)) w') : wpList P ops Q (o :: rest) a w := by
  refine wpList_plain hgd fun K hK => ?_
  obtain ⟨cap, w', hrun, r1, r2⟩ := run_bytes_of (P := P) w src dst e l hs hd he
  unfold Oper.wp execOp
  simp only [ho, hx, hrun, Sem.run_bind, Sem.run_pure, Result.andThen_ok]
  exact hK _ _ (h cap w' r1 r2)
theorem wpList_append_C (hgd : o.guard = none) (s x : Operand) (t : TypeId) (ho : o.op = .call { callee := .builtin .append, args := #[s, x], argTypes := #[t, t] })
    (base : Nat) (e : TypeId) (i : TypeInfo) (z : Value) (bytes : Nat) (ht : P.underlying t = some (.slice e)) (hi : P.info? e = some i) (hz : i.zero = some z)
    (hsize : i.size = 1) (hby : i.bytes = bytes) (hzs : z.cells.size = 1) (g n cap : Nat) (xs : List Value) (hs : a.eval s = .slice (some ⟨g, 0, none⟩) n cap) (hown : OwnC w base g n cap xs)
    (B : Nat) (A : Addr) (m c : Nat) (news : List Value) (hx : a.eval x = .slice (some A) m c) (hr : Sl w B (some A) m news) (h1 : ∀ u ∈ news, u.oneCell' = true) (h63 : n + m ≤ maxLen) (hbytes : (n + m) * bytes ≤ 140737488355328) (hbase : base ≤ w.heap.size)
    (h : ∀ g' cap' w', OwnC w' base g' (n + m) cap' (xs ++ news) → w.grownBy w' (some g) → wpList P ops Q rest (a.put o.dst (.slice (some ⟨g', 0, none⟩) (n + m) cap')) w') : wpList P ops Q (o :: rest) a w := by
  refine wpList_plain hgd fun K hK => ?_
  obtain ⟨g', cap', w', hrun, r1, r2⟩ := run_append_C (P := P) w base t o.type e i z bytes ht hi hz hsize hby hzs g n cap xs hown B A m c news hr h1 h63 hbytes hbase
  unfold Oper.wp execOp
  simp only [ho, resolve, invoke, builtin, Sem.run_bind, Sem.run_pure, Result.andThen_ok, List.map_toArray, List.map_cons, List.map_nil, hs, hx, hrun]
  exact hK _ _ (h g' cap' w' r1 r2)
end

end Go.Proofs.YtlnoopmblmkgkaaGreatDoor

namespace Go.Proofs.YtlnoopmblmkgkaaGreatDoor
set_option maxRecDepth 100000
open Go.RowKit
set_option linter.unusedVariables false
set_option linter.unusedSimpArgs false

theorem list_three_n {w : World} {A A' A2 : Option Addr} {n n' n2 c c' c2 : Nat} {l l' l2 : List UInt8} (t : TypeId) (hn : n = l.length) (hn' : n' = l'.length) (hn2 : n2 = l2.length) (hs : Sl w w.heap.size A n (cb l)) (hc : n ≤ c) (hz : A = none → c = 0)
    (hs' : Sl w w.heap.size A' n' (cb l')) (hc' : n' ≤ c') (hz' : A' = none → c' = 0) (hs2 : Sl w w.heap.size A2 n2 (cb l2)) (hc2 : n2 ≤ c2) (hz2 : A2 = none → c2 = 0) :
    Parts (w.alloc (.cells #[.slice A n c, .slice A' n' c', .slice A2 n2 c2] t)) (w.alloc (.cells #[.slice A n c, .slice A' n' c', .slice A2 n2 c2] t)).heap.size (some ⟨w.heap.size, 0, none⟩) 3 [l, l', l2] ∧ Below w.heap.size w (w.alloc (.cells #[.slice A n c, .slice A' n' c', .slice A2 n2 c2] t)) := by
  subst hn; subst hn'; subst hn2
  have hb : Below w.heap.size w (w.alloc (.cells #[.slice A l.length c, .slice A' l'.length c', .slice A2 l2.length c2] t)) := (Below.refl _ w).alloc (Nat.le_refl _) _
  have hbl := Bl.newA w #[.slice A l.length c, .slice A' l'.length c', .slice A2 l2.length c2] t
  refine ⟨⟨[.slice A l.length c, .slice A' l'.length c', .slice A2 l2.length c2], ⟨rfl, fun _ => ⟨_, rfl, by simp, fun j u hu => ?_⟩⟩, rfl, fun j hj => ?_⟩, hb⟩
  · rw [Addr.add_mid, Nat.zero_add, hbl.cell]; exact hu
  · have : j = 0 ∨ j = 1 ∨ j = 2 := by simp at hj; omega
    rcases this with rfl | rfl | rfl
    · exact ⟨_, rfl, A, c, rfl, hs.nx hb, hc, hz⟩
    · exact ⟨_, rfl, A', c', rfl, hs'.nx hb, hc', hz'⟩
    · exact ⟨_, rfl, A2, c2, rfl, hs2.nx hb, hc2, hz2⟩

set_option maxHeartbeats 1000000 in
theorem lkey_any (k p : List UInt8) (e : Int) (w : World) (A : Option Addr) (n c : Nat) (h : Sl w w.heap.size A n (cb k)) (hc : n ≤ c) (hA : A = none → c = 0) (hT : Tabs w) :
    Calls Tryz.prog 78 #[.slice A n c, .string ⟨p.toArray⟩, .int .i64 e] w (RetFill 143 w (lkeyR k p e) (lkeyE k p e)) := by
  have hn : n = k.length := by rw [← h.1, cb_len]
  by_cases hf : lfit k p e = true
  · have HF := Lib.hid hf
    unfold lfit at hf
    simp only [Bool.and_eq_true, decide_eq_true_eq] at hf
    obtain ⟨h32, hp, he⟩ := hf
    have hpl : p.length ≤ 16 := by unfold purp at hp; simp only [Bool.and_eq_true, decide_eq_true_eq] at hp; exact hp.2.1
    have he2 := he
    unfold epo at he2
    simp only [Bool.and_eq_true, decide_eq_true_eq] at he2
    obtain ⟨en, rfl⟩ : ∃ en : Nat, e = en := ⟨e.toNat, by omega⟩
    obtain rfl : n = 32 := by omega
    have HE := Lib.hid he2
    have hwr : IntKind.u64.wrap (en : Int) = (en : Int) := by simp only [IntKind.wrap_u64]; omega
    have HM : Hid (([p, [0], told8 en] : List (List UInt8)).flatten = lmsg p en) := by unfold Hid lmsg; simp
    have HR : Hid (lkeyR k p en = hmac k (lmsg p en) ∧ lkeyE k p en = 0) := by unfold Hid lkeyR lkeyE; rw [if_pos HF.out, if_pos HF.out]; exact ⟨rfl, rfl⟩
    have cp := ispurp_any p
    have ce := isepo_any en
    rw [hp] at cp
    rw [he] at ce
    have HP := Lib.hid cp
    have HC := Lib.hid ce
    have HN := Lib.hid hn
    have HPL := Lib.hid hpl
    have HT := Lib.hid hT
    clear hp he he2 h32 cp ce hn hpl hT HF
    go_enter Tryz.func78, Tryz.ntmps78
    go_wp2_with (first
      | (go_at_call 77; refine (HP.out _).mono ?_; rintro e w1 ⟨rfl, rfl⟩)
      | (go_at_call 56; refine (HC.out _).mono ?_; rintro e w1 ⟨rfl, rfl⟩)
      | (refine wpList_bytes_of rfl 9 22 5 _ rfl p rfl Tryz.underlying9 Tryz.underlying22 Tryz.underlying5 ?_; intro cap w1 oc hb1)
      | fail)
    have hz1 := Sl.new w1 #[.int .u8 0] 5
    have hb2 : Below w1.heap.size w1 (w1.alloc (.cells #[.int .u8 0] 5)) := (Below.refl _ w1).alloc (Nat.le_refl _) _
    obtain ⟨W2, hW2⟩ : ∃ W, W = w1.alloc (.cells #[.int .u8 0] 5) := ⟨_, rfl⟩
    have hsz : W2.heap.size = w1.heap.size + 1 := by rw [hW2, alloc_size]
    rw [← hW2, ← hsz] at hz1
    rw [← hW2] at hb2 ⊢
    have z1 : Sl W2 W2.heap.size (some ⟨w1.heap.size, 0, none⟩) 1 (cb [0]) := hz1
    have o2 := oc.next hb2
    have h2 := (h.nx hb1).nx hb2
    replace hb1 := next hb1 hb2
    obtain ⟨gz, hgz⟩ : ∃ gz, gz = w1.heap.size := ⟨_, rfl⟩
    rw [← hgz] at z1 ⊢
    clear hW2 hz1 hb2 oc hsz hgz h
    refine (tell_any en W2).mono ?_
    rintro e w3 ⟨A3, c3, rfl, hn3⟩
    have h3 := h2.nx hn3.below
    have z3 := z1.nx hn3.below
    have o3 := o2.next hn3.below
    replace hb1 := next hb1 hn3.below
    obtain ⟨p3, hb3⟩ := list_three_n (l := p) (l' := [0]) (l2 := told8 en) 22 rfl rfl (told8_len en).symm o3.sl o3.cap_ (by intro h; cases h) z3 (Nat.le_refl 1) (by intro h; cases h) hn3.sl (own_cap hn3.own) hn3.none_
    have h4 := h3.nx hb3
    replace hb1 := next hb1 hb3
    go_wp2_with fail
    have hb4 : Below w.heap.size w _ := hb1
    refine (tag_any k [p, [0], told8 en] _ _ _ _ _ 32 c 3 3 h4 hc hA (Nat.le_refl _) (by omega) p3 (Nat.le_refl _) (by omega) (HT.out.next hb1) (by rw [HM.out, lmsg_len]; have := HPL.out; omega)).mono ?_
    rintro e w4 ⟨rfl, hb5⟩
    rw [HM.out]
    replace hb4 := next hb4 hb5
    obtain ⟨R, hR⟩ : ∃ R, R = hmac k (lmsg p en) := ⟨_, rfl⟩
    have HRL : Hid (R.length = 32) := by unfold Hid; rw [hR, hmac_len]
    rw [← hR] at HR ⊢
    have HRR := Lib.hid hR
    obtain ⟨pn1, pn2, pn3⟩ := put_new w4 (zeros .u8 32) (cb R) 143 (by rw [cb_len, HRL.out, zeros_len])
    have bz := Bl.new w4 (zeros .u8 32) 143
    clear hb1 hb5 h2 h3 h4 z1 z3 o2 o3 hn3 p3 hb3 hR
    go_wp2_with (first
      | (refine wpList_alloc_zero rfl 143 rfl (zeros .u8 32) zero_sum ?_)
      | (refine wpList_store_mid rfl 143 _ _ rfl _ _ (cb R).toArray rfl rfl (bz.there_ (by simp [zeros, cb_len, HRL.out])) (by rw [size_sum, List.size_toArray, cb_len, HRL.out]) (all_oneCell_toArray (cb_one _)) ?_))
    go_ret2
    exact retFill HR.out.1.symm HR.out.2.symm (own_of_block pn1 hb4.size (by rw [cb_len, HRL.out]) (by decide)) (next hb4 pn2)
  · have HR : Hid (lkeyR k p e = [] ∧ lkeyE k p e = 1) := by unfold Hid lkeyR lkeyE; rw [if_neg hf, if_neg hf]; exact ⟨rfl, rfl⟩
    obtain ⟨r1, hr1⟩ : ∃ r, r = lkeyR k p e := ⟨_, rfl⟩
    obtain ⟨r2, hr2⟩ : ∃ r, r = lkeyE k p e := ⟨_, rfl⟩
    rw [← hr1, ← hr2] at HR ⊢
    rw [HR.out.1, HR.out.2]
    clear hr1 hr2 HR
    have cp := ispurp_any p
    have ce := isepo_any e
    have hres : RetFill 143 w [] 1 (.returned (.tuple #[.slice none 0 0, .int .i64 1])) w := ⟨none, 0, 0, rfl, ⟨rfl, .inl ⟨rfl, rfl⟩⟩, Below.refl _ _⟩
    by_cases h32 : n = 32
    · obtain rfl := h32
      by_cases hp : purp p = true
      · have he : epo e = false := by
          rw [← Bool.not_eq_true]
          intro he
          exact hf (by unfold lfit; rw [hp, he, decide_eq_true hn.symm]; rfl)
        rw [hp] at cp
        rw [he] at ce
        have HP := Lib.hid cp
        have HC := Lib.hid ce
        clear hn hf hp he cp ce
        go_enter Tryz.func78, Tryz.ntmps78
        go_wp2_with (first
          | (go_at_call 77; refine (HP.out _).mono ?_; rintro e w1 ⟨rfl, rfl⟩)
          | (go_at_call 56; refine (HC.out _).mono ?_; rintro e w1 ⟨rfl, rfl⟩))
        go_ret2
        exact hres
      · rw [Bool.not_eq_true] at hp
        rw [hp] at cp
        have HP := Lib.hid cp
        clear hn hf hp cp ce
        go_enter Tryz.func78, Tryz.ntmps78
        go_wp2_with (go_at_call 77; refine (HP.out _).mono ?_; rintro e w1 ⟨rfl, rfl⟩)
        go_ret2
        exact hres
    · have h32' : ¬ (n : Int) = 32 := by omega
      clear hn hf h32 cp ce
      go_enter Tryz.func78, Tryz.ntmps78
      go_wp2
      go_ret2
      exact hres

/-- What ID gives. -/
def RetId (w : World) (l : List UInt8) (err : Int) (e : Ending) (w' : World) : Prop := e = .returned (.tuple #[.agg (cb l).toArray, .int .i64 err]) ∧ Below w.heap.size w w'

end Go.Proofs.YtlnoopmblmkgkaaGreatDoor

namespace Go.Proofs.YtlnoopmblmkgkaaGreatDoor
set_option maxRecDepth 100000
open Go.RowKit
set_option linter.unusedVariables false
set_option linter.unusedSimpArgs false

set_option maxHeartbeats 1000000 in
theorem rright_any (p : List UInt8) (e : Int) (w : World) (hm : p.length ≤ 9223372036854775807) :
    Calls Tryz.prog 79 #[.string ⟨p.toArray⟩, .int .i64 e] w fun r w' => r = .returned (.bool (purp p && epo e)) ∧ w = w' := by
  obtain ⟨r, hr⟩ : ∃ r, r = (purp p && epo e) := ⟨_, rfl⟩
  rw [← hr]
  have HR := Lib.hid hr
  clear hr
  have hlen : (ByteArray.mk p.toArray).size = p.length := by show p.toArray.size = _; simp
  go_enter Tryz.func79, Tryz.ntmps79
  go_wp2
  go_loopw [5] (fun i wr => ∃ k : Nat, k ≤ p.length ∧ i = .int .i64 k ∧ letts p k ∧ w = wr) (fun i _ => p.length - (Go.RowKit.intOf i).toNat)
  case atStart => exact ⟨0, by omega, rfl, letts_zero p, rfl⟩
  case round =>
    obtain ⟨k, hk, rfl, hL, rfl⟩ := hrel
    by_cases hlt : k < p.length
    · have hi := str_at w p k hlt
      by_cases hlo : (p[k].toNat : Int) < 97
      · have HB := Lib.hid (purp_no hlt (lett_lo hlo))
        go_wp2
        go_ret
        exact ⟨ret_bool (by rw [HR.out, HB.out]; rfl), rfl⟩
      · by_cases hhi : (122 : Int) < (p[k].toNat : Int)
        · have HB := Lib.hid (purp_no hlt (lett_hi hhi))
          go_wp2
          go_ret
          exact ⟨ret_bool (by rw [HR.out, HB.out]; rfl), rfl⟩
        · have hL2 := letts_next hL hlt (lett_in hlo hhi)
          have hw1 : wrap64 ((k : Int) + 1) = (k : Int) + 1 := by unfold wrap64; omega
          go_wp2
          go_roundw
          case rel => exact ⟨k + 1, by omega, by simp, hL2, by trivial⟩
          case measure => simp [Go.RowKit.intOf]; omega
    · have hkl : k = p.length := by omega
      rw [hkl] at hL
      have HB : Hid (purp p = (decide (1 ≤ p.length) && decide (p.length ≤ 16))) := by
        unfold Hid
        by_cases h1 : 1 ≤ p.length
        · by_cases h2 : p.length ≤ 16
          · rw [purp_of hL h1 h2, decide_eq_true h1, decide_eq_true h2]; rfl
          · rw [purp_long (by omega), decide_eq_false h2]; simp
        · unfold purp; rw [decide_eq_false h1]; rfl
      clear hkl hL
      by_cases h1 : (1 : Int) ≤ (p.length : Int)
      · by_cases h2 : (p.length : Int) ≤ 16
        · by_cases h3 : 1 ≤ e
          · go_wp2
            go_ret
            refine ⟨ret_bool ?_, rfl⟩
            rw [HR.out, HB.out]; unfold epo; rw [decide_eq_true (by omega : 1 ≤ p.length), decide_eq_true (by omega : p.length ≤ 16), decide_eq_true h3]; simp
          · go_wp2
            go_ret
            refine ⟨ret_bool ?_, rfl⟩
            rw [HR.out]; unfold epo; rw [decide_eq_false (by omega : ¬ 1 ≤ e)]; simp
        · go_wp2
          go_ret
          refine ⟨ret_bool ?_, rfl⟩
          rw [HR.out, HB.out, decide_eq_false (by omega : ¬ p.length ≤ 16)]; simp
      · go_wp2
        go_ret
        refine ⟨ret_bool ?_, rfl⟩
        rw [HR.out, HB.out, decide_eq_false (by omega : ¬ 1 ≤ p.length)]; simp

set_option maxHeartbeats 1000000 in
theorem rtext_any (p : List UInt8) (en : Nat) (w : World) (hp : p.length ≤ 16) (he : en ≤ 64) :
    Calls Tryz.prog 119 #[.string ⟨p.toArray⟩, .int .i64 (en : Int)] w fun r w' => ∃ A c, r = .returned (.slice A (p.length + 9) c) ∧ NewSl w (p.length + 9) (lmsg p en) A c w' := by
  obtain ⟨i0, hi, hz0, hz1, hz2⟩ := info_parts u8_info
  have hwr : IntKind.u64.wrap (en : Int) = (en : Int) := by simp only [IntKind.wrap_u64]; omega
  have HP := Lib.hid hp
  have HE := Lib.hid he
  clear hp he
  go_enter Tryz.func119, Tryz.ntmps119
  go_wp2_with (first
    | (refine wpList_bytes_of rfl 9 22 5 _ rfl p rfl Tryz.underlying9 Tryz.underlying22 Tryz.underlying5 ?_; intro cap w1 oc hb1
       have hz1' := Sl.new w1 #[.int .u8 0] 5
       have oc1 := oc.alloc (.cells #[.int .u8 0] 5)
       have hb2 : Below w.heap.size w (w1.alloc (.cells #[.int .u8 0] 5)) := hb1.alloc hb1.size _)
    | (at_builtin; refine wpList_append_C rfl _ _ 22 rfl w.heap.size 5 i0 (.int .u8 0) 1 Tryz.underlying22 hi hz0 hz1 hz2 rfl w.heap.size p.length cap (cb p) rfl oc1 _ ⟨w1.heap.size, 0, none⟩ 1 1 (cb [0]) rfl hz1' (cb_one _) (by have := HP.out; unfold maxLen; omega) (by have := HP.out; omega) hb2.size ?_; intro g2 cap2 w2 oc2 gr2; have hb3 := below_but hb2 gr2 hb2.size (Nat.le_refl _); clear oc1 hz1' oc hb1 hb2 gr2)
    | (go_at_call 67; refine (told_any en 8 _ (by have := HE.out; omega) (by omega)).mono ?_; rintro e w3 ⟨A3, c3, rfl, hn3⟩; rw [told8_rev] at hn3; obtain ⟨ad3, rfl, _⟩ := hn3.sl.2 (by decide); have oc3 := oc2.next hn3.below; have hb4 := next hb3 hn3.below)
    | (at_builtin; refine wpList_append_C rfl _ _ 22 rfl w.heap.size 5 i0 (.int .u8 0) 1 Tryz.underlying22 hi hz0 hz1 hz2 rfl g2 (p.length + 1) cap2 (cb p ++ cb [0]) rfl oc3 _ ad3 8 c3 (cb (told8 en)) rfl hn3.sl (cb_one _) (by have := HP.out; unfold maxLen; omega) (by have := HP.out; omega) hb4.size ?_; intro g4 cap4 w4 oc4 gr4; have hb5 := below_but hb4 gr4 hb4.size oc3.low; clear oc3 hn3 hb3 hb4 gr4 oc2))
  go_ret
  have hl : cb p ++ cb [0] ++ cb (told8 en) = cb (lmsg p en) := by unfold lmsg; rw [← cb_append, ← cb_append]; simp
  rw [hl] at oc4
  exact ⟨_, cap4, rfl, oc4.sl, (lmsg_len p en).symm, oc4.cap_, (by intro h; cases h), (by intro ad h; injection h with h; subst h; exact oc4.low), hb5⟩

set_option maxHeartbeats 1000000 in
theorem rlkey_any (k p : List UInt8) (e : Int) (w : World) (A : Option Addr) (n c : Nat) (h : Sl w w.heap.size A n (cb k)) (hA : A = none → c = 0) (hm : p.length ≤ 9223372036854775807) :
    Calls Tryz.prog 80 #[.slice A n c, .string ⟨p.toArray⟩, .int .i64 e] w (RetFill 5 w (lkeyR k p e) (lkeyE k p e)) := by
  have hn : n = k.length := by rw [← h.1, cb_len]
  have cr := rright_any p e w hm
  by_cases hf : lfit k p e = true
  · have HF := Lib.hid hf
    unfold lfit at hf
    simp only [Bool.and_eq_true, decide_eq_true_eq] at hf
    obtain ⟨h32, hp, he⟩ := hf
    have hpl : p.length ≤ 16 := by unfold purp at hp; simp only [Bool.and_eq_true, decide_eq_true_eq] at hp; exact hp.2.1
    rw [hp, he] at cr
    unfold epo at he
    simp only [Bool.and_eq_true, decide_eq_true_eq] at he
    obtain ⟨en, rfl⟩ : ∃ en : Nat, e = en := ⟨e.toNat, by omega⟩
    obtain rfl : n = 32 := by omega
    have HR : Hid (lkeyR k p en = hmac k (lmsg p en) ∧ lkeyE k p en = 0) := by unfold Hid lkeyR lkeyE; rw [if_pos HF.out, if_pos HF.out]; exact ⟨rfl, rfl⟩
    have ct := rtext_any p en w hpl (by omega)
    have HPL := Lib.hid hpl
    have HC := Lib.hid cr
    have HT := Lib.hid ct
    clear hp he h32 cr hn hpl ct HF
    go_enter Tryz.func80, Tryz.ntmps80
    go_wp2_with (first
      | (go_at_call 79; refine HC.out.mono ?_; rintro e w1 ⟨rfl, rfl⟩)
      | (go_at_call 119; refine HT.out.mono ?_; rintro e w2 ⟨A2, c2, rfl, x2⟩)
      | (go_at_call 65; refine (rtag_any k (lmsg p en) w2 w2.heap.size A A2 32 c (p.length + 9) c2 (h.nx x2.below) hA (by omega) x2.sl x2.none_ (by have := HPL.out; omega) (Nat.le_refl _)).mono ?_; rintro e w3 ⟨A3, c3, rfl, x3⟩))
    go_ret2
    exact retFill HR.out.1.symm HR.out.2.symm (x3.down x2.below).own (next x2.below x3.below)
  · have HR : Hid (lkeyR k p e = [] ∧ lkeyE k p e = 1) := by unfold Hid lkeyR lkeyE; rw [if_neg hf, if_neg hf]; exact ⟨rfl, rfl⟩
    obtain ⟨r1, hr1⟩ : ∃ r, r = lkeyR k p e := ⟨_, rfl⟩
    obtain ⟨r2, hr2⟩ : ∃ r, r = lkeyE k p e := ⟨_, rfl⟩
    rw [← hr1, ← hr2] at HR ⊢
    rw [HR.out.1, HR.out.2]
    clear hr1 hr2 HR
    have hres : RetFill 5 w [] 1 (.returned (.tuple #[.slice none 0 0, .int .i64 1])) w := ⟨none, 0, 0, rfl, ⟨rfl, .inl ⟨rfl, rfl⟩⟩, Below.refl _ _⟩
    by_cases h32 : n = 32
    · obtain rfl := h32
      have he : (purp p && epo e) = false := by
        rw [← Bool.not_eq_true]
        intro he
        exact hf (by unfold lfit; rw [he, decide_eq_true hn.symm]; rfl)
      rw [he] at cr
      have HC := Lib.hid cr
      clear hn hf he cr
      go_enter Tryz.func80, Tryz.ntmps80
      go_wp2_with (go_at_call 79; refine HC.out.mono ?_; rintro e w1 ⟨rfl, rfl⟩)
      go_ret2
      exact hres
    · have h32' : ¬ (n : Int) = 32 := by omega
      clear hn hf h32 cr
      go_enter Tryz.func80, Tryz.ntmps80
      go_wp2
      go_ret2
      exact hres

/-- The first k of l, noughts behind. -/
def ofK (l : List UInt8) (k : Nat) : List UInt8 := l.take k ++ List.replicate (32 - k) 0
theorem ofK_len {l : List UInt8} {k : Nat} (hl : l.length = 32) (hk : k ≤ 32) : (ofK l k).length = 32 := by unfold ofK; simp; omega
theorem ofK_next {l : List UInt8} {k : Nat} (hl : l.length = 32) (hk : k < 32) : (cb (ofK l k)).set k (.int .u8 ((l[k]'(by omega)).toNat : Int)) = cb (ofK l (k + 1)) := by
  have e1 : (ofK l k).set k (l[k]'(by omega)) = ofK l (k + 1) := by
    unfold ofK
    have e2 : List.replicate (32 - k) (0 : UInt8) = 0 :: List.replicate (32 - (k + 1)) 0 := by rw [← List.replicate_succ]; congr 1; omega
    rw [e2, List.set_append_right _ _ (by simp; omega)]
    rw [List.length_take, Nat.min_eq_left (by omega), Nat.sub_self, List.set_cons_zero, ← List.take_append_getElem (by omega : k < l.length), List.append_assoc]
    rfl
  rw [← e1]
  simp [cb, List.map_set, bc]

end Go.Proofs.YtlnoopmblmkgkaaGreatDoor

namespace Go.Proofs.YtlnoopmblmkgkaaGreatDoor
set_option maxRecDepth 100000
open Go Go.RowKit Go.Maps
set_option linter.unusedVariables false
set_option linter.unusedSimpArgs false

/-- An element is read as the value that it is. -/
def heldR (v : Value) : Option (DataW Value × List MemPlace) := some (.held v, [])
/-- What a map has at a key. -/
def heldAt (o : Option Value) (z : DataW Value) : DataW Value := match o with
  | some v => .held v
  | none => z

/-- Block b is a map of at most n entries that has, at each key, what f says. -/
def MapF (w : World) (P : Program) (k : TypeId) (b n : Nat) (f : Lit → Option Value) : Prop :=
  ∃ D : DataW Value, w.ownsMap P k heldR b n D ∧ ∀ kl, WideAt.IsKeyLit kl → Maps.has D kl = (f kl).isSome ∧ ∀ z, D.atKey kl z = heldAt (f kl) z

/-- A function with one place changed. -/
def setF (f : Lit → Option Value) (kl : Lit) (o : Option Value) : Lit → Option Value := fun x => if x.sameKey kl = true then o else f x
theorem sameKey_self {kl : Lit} (h : WideAt.IsKeyLit kl) : kl.sameKey kl = true := by cases kl <;> simp_all [Lit.sameKey, WideAt.IsKeyLit]
theorem setF_same (f : Lit → Option Value) {kl : Lit} (o : Option Value) (h : WideAt.IsKeyLit kl) : setF f kl o kl = o := if_pos (sameKey_self h)
theorem setF_other (f : Lit → Option Value) {kl x : Lit} (o : Option Value) (h : x ≠ kl) : setF f kl o x = f x := if_neg (by rw [Maps.sameKey_ne h]; decide)

section
variable {w w' : World} {P : Program} {k : TypeId} {b n : Nat} {f : Lit → Option Value}
theorem mapF_made (w : World) (P : Program) (k : TypeId) : MapF (w.alloc (.map #[] 0)) P k w.heap.size 0 (fun _ => none) :=
  ⟨_, World.ownsMap_made w P k heldR, fun kl _ => ⟨rfl, fun z => rfl⟩⟩
theorem MapF.lt (h : MapF w P k b n f) : b < w.heap.size := by obtain ⟨D, h1, _⟩ := h; exact h1.lt
theorem MapF.mono (h : MapF w P k b n f) {n' : Nat} (hn : n ≤ n') : MapF w P k b n' f := by obtain ⟨D, h1, h2⟩ := h; exact ⟨D, h1.mono hn, h2⟩
theorem MapF.row {row : Option Nat} (h : MapF w P k b n f) (hg : w.grownBy w' row) (hne : row ≠ some b) : MapF w' P k b n f := by obtain ⟨D, h1, h2⟩ := h; exact ⟨D, h1.kept hg (Ne.symm hne), h2⟩
theorem MapF.keep (h : MapF w P k b n f) (hk : w'.heap[b]? = w.heap[b]?) : MapF w' P k b n f := by
  obtain ⟨D, ⟨es, clock, hb, F, hs, hD⟩, h2⟩ := h
  exact ⟨D, ⟨es, clock, hk.trans hb, F, hs, hD⟩, h2⟩
theorem MapF.below (h : MapF w P k b n f) {B : Nat} (hb : Below B w w') (hB : b < B) : MapF w' P k b n f := h.keep (hb.block b hB)
theorem MapF.next (h : MapF w P k b n f) (hb : Below w.heap.size w w') : MapF w' P k b n f := h.below hb h.lt

theorem heldAt_inj {o : Option Value} {v z : Value} (h : heldR v = some (heldAt o (.held z), [])) : v = o.getD z := by
  unfold heldR at h
  cases o with
  | none => simpa [heldAt] using h
  | some x => simpa [heldAt] using h

/-- 'm[k]'. -/
theorem MapF.look {t e : TypeId} (h : MapF w P k b n f) (K : Keyed P k) (ht : P.underlying t = some (.map k e)) {z : Value} (hz : (zeroValue e).run P w = .ok z w) {key : Value} {kl : Lit} (hkey : keyOf P k key = some kl) :
    (Instr.lookup t (.map (some b)) key false).run P w = .ok ((f kl).getD z) w := by
  obtain ⟨D, h1, h2⟩ := h
  obtain ⟨v, ps, hrun, hv⟩ := h1.lookup K ht hz (zd := .held z) (zp := []) rfl hkey
  rw [(h2 kl (K.key hkey)).2] at hv
  have hp : ps = [] := by unfold heldR at hv; simp at hv; exact hv.2
  subst hp
  rw [hrun, heldAt_inj hv]
/-- 'v, ok := m[k]'. -/
theorem MapF.look_ok {t e : TypeId} (h : MapF w P k b n f) (K : Keyed P k) (ht : P.underlying t = some (.map k e)) {z : Value} (hz : (zeroValue e).run P w = .ok z w) {key : Value} {kl : Lit} (hkey : keyOf P k key = some kl) :
    (Instr.lookup t (.map (some b)) key true).run P w = .ok (.tuple #[(f kl).getD z, .bool (f kl).isSome]) w := by
  obtain ⟨D, h1, h2⟩ := h
  obtain ⟨v, ps, hrun, hv⟩ := h1.look_ok K ht hz (zd := .held z) (zp := []) rfl hkey
  rw [(h2 kl (K.key hkey)).2] at hv
  have hp : ps = [] := by unfold heldR at hv; simp at hv; exact hv.2
  subst hp
  rw [hrun, heldAt_inj hv, (h2 kl (K.key hkey)).1]
/-- 'm[k] = v'. -/
theorem MapF.store {t e : TypeId} (h : MapF w P k b n f) (K : Keyed P k) (ht : P.underlying t = some (.map k e)) (hn : n < maxLen) {key : Value} {kl : Lit} (hkey : keyOf P k key = some kl) (v : Value) :
    ∃ w', (Instr.mapUpdate t (.map (some b)) key v).run P w = .ok () w' ∧ MapF w' P k b (n + 1) (setF f kl (some v)) ∧ w.grownBy w' (some b) := by
  obtain ⟨D, h1, h2⟩ := h
  obtain ⟨w', hrun, h3, h4⟩ := h1.update K ht hn hkey (val := v) (d := .held v) (ps := []) rfl
  refine ⟨w', hrun, ⟨_, h3, fun x hx => ?_⟩, h4⟩
  by_cases hxk : x = kl
  · subst hxk
    rw [setF_same _ _ hx]
    exact ⟨Maps.has_put_same h1.isMap hx _, fun z => Maps.atKey_put_same h1.isMap hx _ z⟩
  · rw [setF_other f _ hxk]
    exact ⟨by rw [Maps.has_put_other hxk]; exact (h2 x hx).1, fun z => by rw [Maps.atKey_put_other hxk]; exact (h2 x hx).2 z⟩
/-- 'delete(m, k)'. -/
theorem MapF.drop {t e : TypeId} (h : MapF w P k b n f) (K : Keyed P k) (ht : P.underlying t = some (.map k e)) {key : Value} {kl : Lit} (hkey : keyOf P k key = some kl) (ty : TypeId) :
    ∃ w', (Builtin.delete_ #[t, k] ty #[.map (some b), key]).run P w = .ok (.tuple #[]) w' ∧ MapF w' P k b n (setF f kl none) ∧ w.grownBy w' (some b) := by
  obtain ⟨D, h1, h2⟩ := h
  obtain ⟨w', hrun, h3, h4⟩ := h1.drop K ht hkey ty
  refine ⟨w', hrun, ⟨_, h3, fun x hx => ?_⟩, h4.grown⟩
  by_cases hxk : x = kl
  · subst hxk
    rw [setF_same _ _ hx]
    exact ⟨Maps.has_del_same, fun z => Maps.atKey_del_same z⟩
  · rw [setF_other f _ hxk]
    exact ⟨by rw [Maps.has_del_other hxk]; exact (h2 x hx).1, fun z => by rw [Maps.atKey_del_other hxk]; exact (h2 x hx).2 z⟩
end

section
variable {P : Program} {ops : Array Oper} {rest : List Oper} {o : Oper} {a : Act} {w : World} {Q : Exit → Act → World → Prop} {k e : TypeId} {b n : Nat} {f : Lit → Option Value}
/-- 'm[k]' as a step that asks the map alone. -/
theorem exec_look (m x : Operand) (t : TypeId) (ho : o.op = .lookup t m x false) (h : MapF w P k b n f) (K : Keyed P k) (ht : P.underlying t = some (.map k e)) {z : Value} (hz : (zeroValue e).run P w = .ok z w) (hm : a.eval m = .map (some b)) {key : Value} {kl : Lit} (hx : a.eval x = key) (hkey : keyOf P k key = some kl) :
    (execOp a.eval o).run P w = .ok (.value ((f kl).getD z)) w := by
  unfold execOp
  simp only [ho, hm, hx, Sem.run_bind, h.look K ht hz hkey, Result.andThen_ok]
  rfl
theorem exec_look_ok (m x : Operand) (t : TypeId) (ho : o.op = .lookup t m x true) (h : MapF w P k b n f) (K : Keyed P k) (ht : P.underlying t = some (.map k e)) {z : Value} (hz : (zeroValue e).run P w = .ok z w) (hm : a.eval m = .map (some b)) {key : Value} {kl : Lit} (hx : a.eval x = key) (hkey : keyOf P k key = some kl) :
    (execOp a.eval o).run P w = .ok (.value (.tuple #[(f kl).getD z, .bool (f kl).isSome])) w := by
  unfold execOp
  simp only [ho, hm, hx, Sem.run_bind, h.look_ok K ht hz hkey, Result.andThen_ok]
  rfl
theorem wpList_look (hgd : o.guard = none) (m x : Operand) (t : TypeId) (ho : o.op = .lookup t m x false) (h : MapF w P k b n f) (K : Keyed P k) (ht : P.underlying t = some (.map k e)) {z : Value} (hz : (zeroValue e).run P w = .ok z w) (hm : a.eval m = .map (some b)) {key : Value} {kl : Lit} (hx : a.eval x = key) (hkey : keyOf P k key = some kl)
    (v : Value) (hv : (f kl).getD z = v) (hK : wpList P ops Q rest (a.put o.dst v) w) : wpList P ops Q (o :: rest) a w := by
  refine wpList_plain hgd fun K' hK' => ?_
  subst hv
  unfold Oper.wp
  rw [exec_look m x t ho h K ht hz hm hx hkey]
  exact hK' _ _ hK
theorem wpList_look_ok (hgd : o.guard = none) (m x : Operand) (t : TypeId) (ho : o.op = .lookup t m x true) (h : MapF w P k b n f) (K : Keyed P k) (ht : P.underlying t = some (.map k e)) {z : Value} (hz : (zeroValue e).run P w = .ok z w) (hm : a.eval m = .map (some b)) {key : Value} {kl : Lit} (hx : a.eval x = key) (hkey : keyOf P k key = some kl)
    (v : Value) (y : Bool) (hv : (f kl).getD z = v) (hy : (f kl).isSome = y) (hK : wpList P ops Q rest (a.put o.dst (.tuple #[v, .bool y])) w) : wpList P ops Q (o :: rest) a w := by
  refine wpList_plain hgd fun K' hK' => ?_
  subst hv; subst hy
  unfold Oper.wp
  rw [exec_look_ok m x t ho h K ht hz hm hx hkey]
  exact hK' _ _ hK
theorem wpList_mapStore (hgd : o.guard = none) (m x v : Operand) (t : TypeId) (ho : o.op = .mapUpdate t m x v) (h : MapF w P k b n f) (K : Keyed P k) (ht : P.underlying t = some (.map k e)) (hn : n < maxLen) (hm : a.eval m = .map (some b)) {key val : Value} {kl : Lit} (hx : a.eval x = key) (hv : a.eval v = val) (hkey : keyOf P k key = some kl)
    (hK : ∀ w', MapF w' P k b (n + 1) (setF f kl (some val)) → w.grownBy w' (some b) → wpList P ops Q rest (a.put o.dst undef) w') : wpList P ops Q (o :: rest) a w := by
  refine wpList_plain hgd fun K' hK' => ?_
  obtain ⟨w', hrun, r1, r2⟩ := h.store K ht hn hkey val
  unfold Oper.wp
  simp [execOp, ho, hm, hx, hv, hrun, Result.andThen]
  exact hK' _ _ (hK w' r1 r2)
/-- 'm[k] = v' as a step of a drawn region. -/
theorem wp_mapStore {K1 : Act → World → Prop} (m x v : Operand) (t : TypeId) (ho : o.op = .mapUpdate t m x v) (h : MapF w P k b n f) (K : Keyed P k) (ht : P.underlying t = some (.map k e)) (hn : n < maxLen) (hm : a.eval m = .map (some b)) {key val : Value} {kl : Lit} (hx : a.eval x = key) (hv : a.eval v = val) (hkey : keyOf P k key = some kl)
    (hK : ∀ w', MapF w' P k b (n + 1) (setF f kl (some val)) → w.grownBy w' (some b) → K1 (a.put o.dst undef) w') : Oper.wp P o a w K1 Q := by
  obtain ⟨w', hrun, r1, r2⟩ := h.store K ht hn hkey val
  unfold Oper.wp
  simp [execOp, ho, hm, hx, hv, hrun, Result.andThen]
  exact hK w' r1 r2
end

end Go.Proofs.YtlnoopmblmkgkaaGreatDoor

namespace Go.Proofs.YtlnoopmblmkgkaaGreatDoor
set_option maxRecDepth 100000
open Go Go.RowKit Go.Maps
set_option linter.unusedVariables false
set_option linter.unusedSimpArgs false

/-- A ring: epochs and their masters, in the order in which they came. -/
abbrev RM := List (Nat × List UInt8)
def rfind (m : RM) (e : Int) : Option (List UInt8) := (m.find? fun x => decide ((x.1 : Int) = e)).map (·.2)
/-- What the map has. -/
def rf (m : RM) : Lit → Option Value
  | .int .i64 k => (rfind m k).map fun l => .agg (cb l).toArray
  | _ => none
structure RingOk (m : RM) : Prop where
  each : ∀ x ∈ m, 1 ≤ x.1 ∧ x.1 ≤ 64 ∧ x.2.length = 32
  one : (m.map (·.1)).Nodup

theorem rfind_some {m : RM} {e : Int} {l : List UInt8} (h : rfind m e = some l) : ∃ x ∈ m, (x.1 : Int) = e ∧ x.2 = l := by
  unfold rfind at h
  obtain ⟨x, hx, rfl⟩ := Option.map_eq_some_iff.1 h
  have := List.find?_some hx
  exact ⟨x, List.mem_of_find?_eq_some hx, by simpa using this, rfl⟩
theorem rfind_none {m : RM} {e : Int} (h : rfind m e = none) : ∀ x ∈ m, (x.1 : Int) ≠ e := by
  unfold rfind at h
  rw [Option.map_eq_none_iff, List.find?_eq_none] at h
  intro x hx he
  have := h x hx
  simp at this
  exact this he
theorem rfind_len {m : RM} (ok : RingOk m) {e : Int} {l : List UInt8} (h : rfind m e = some l) : l.length = 32 := by
  obtain ⟨x, hx, _, rfl⟩ := rfind_some h
  exact (ok.each x hx).2.2
theorem rfind_epo {m : RM} (ok : RingOk m) {e : Int} {l : List UInt8} (h : rfind m e = some l) : 1 ≤ e ∧ e ≤ 64 := by
  obtain ⟨x, hx, he, rfl⟩ := rfind_some h
  have := ok.each x hx
  omega
theorem rfind_app {m : RM} {en : Nat} {l : List UInt8} (e : Int) : rfind (m ++ [(en, l)]) e = match rfind m e with | some x => some x | none => if (en : Int) = e then some l else none := by
  unfold rfind
  rw [List.find?_append]
  cases h : m.find? (fun x => decide ((x.1 : Int) = e)) with
  | some x => rfl
  | none =>
    by_cases he : (en : Int) = e
    · simp [he]
    · simp [he]
theorem ring_nil : RingOk [] := ⟨fun x h => absurd h (by simp), List.nodup_nil⟩
theorem ring_put {m : RM} (ok : RingOk m) {en : Nat} {l : List UInt8} (h1 : 1 ≤ en) (h2 : en ≤ 64) (hl : l.length = 32) (hn : rfind m en = none) : RingOk (m ++ [(en, l)]) := by
  refine ⟨fun x hx => ?_, ?_⟩
  · rcases List.mem_append.1 hx with hx | hx
    · exact ok.each x hx
    · rw [List.mem_singleton.1 hx]; exact ⟨h1, h2, hl⟩
  · rw [List.map_append, List.nodup_append]
    refine ⟨ok.one, by simp, fun a ha b hb => ?_⟩
    obtain ⟨x, hx, rfl⟩ := List.mem_map.1 ha
    simp at hb
    subst hb
    intro he
    exact rfind_none hn x hx (by simp [he])
theorem MapF.congr {w : World} {P : Program} {k : TypeId} {b n : Nat} {f f' : Lit → Option Value} (h : MapF w P k b n f) (hf : ∀ kl, WideAt.IsKeyLit kl → f kl = f' kl) : MapF w P k b n f' := by
  obtain ⟨D, h1, h2⟩ := h
  exact ⟨D, h1, fun kl hk => by rw [← hf kl hk]; exact h2 kl hk⟩
theorem rf_put {m : RM} {en : Nat} {l : List UInt8} (hn : rfind m en = none) (kl : Lit) : setF (rf m) (.int .i64 (en : Int)) (some (.agg (cb l).toArray)) kl = rf (m ++ [(en, l)]) kl := by
  unfold setF
  cases kl with
  | int q k =>
    cases q
    case i64 =>
      by_cases he : k = (en : Int)
      · subst he
        rw [if_pos (by simp [Lit.sameKey])]
        simp only [rf, rfind_app, hn, if_pos, Option.map_some]
      · rw [if_neg (by simp [Lit.sameKey, he])]
        simp only [rf, rfind_app]
        cases h : rfind m k with
        | some x => rfl
        | none => rw [if_neg (by omega)]
    all_goals (rw [if_neg (by simp [Lit.sameKey])]; rfl)
  | _ => rw [if_neg (by simp [Lit.sameKey])]; rfl

/-- A ring in memory, all of it below B. -/
def Rg (w : World) (B g : Nat) (m : RM) : Prop :=
  g < B ∧ RingOk m ∧ ∃ p : Option Nat, Bl w g [.map p] 89 ∧ ((p = none ∧ m = []) ∨ ∃ b, p = some b ∧ b < B ∧ b ≠ g ∧ MapF w Tryz.prog 3 b m.length (rf m))
section
variable {w w' : World} {B g : Nat} {m : RM}
theorem Rg.lt (h : Rg w B g m) : g < w.heap.size := by obtain ⟨_, _, p, hb, _⟩ := h; exact hb.lt
theorem Rg.up (h : Rg w B g m) {B' : Nat} (hB : B ≤ B') : Rg w B' g m := by
  obtain ⟨hg, ok, p, hb, hm⟩ := h
  refine ⟨by omega, ok, p, hb, ?_⟩
  rcases hm with hm | ⟨b, e, hb1, hb2, hf⟩
  · exact .inl hm
  · exact .inr ⟨b, e, by omega, hb2, hf⟩
theorem Rg.keep (h : Rg w B g m) (hk : ∀ j, j < B → j < w.heap.size → w'.heap[j]? = w.heap[j]?) : Rg w' B g m := by
  obtain ⟨hg, ok, p, hb, hm⟩ := h
  refine ⟨hg, ok, p, hb.keep (hk g hg hb.lt), ?_⟩
  rcases hm with hm | ⟨b, e, hb1, hb2, hf⟩
  · exact .inl hm
  · exact .inr ⟨b, e, hb1, hb2, hf.keep (hk b hb1 hf.lt)⟩
theorem Rg.next (h : Rg w B g m) (hb : Below w.heap.size w w') : Rg w' B g m := h.keep fun j _ hj => hb.block j hj
theorem Rg.row (h : Rg w B g m) {row : Option Nat} (hg : w.grownBy w' row) (hr : ∀ j, row = some j → B ≤ j) : Rg w' B g m := h.keep fun j hj hs => hg.block j hs (fun e => by have := hr j e.symm; omega)
end

theorem look_zero (w : World) : (zeroValue 91).run Tryz.prog w = .ok (.agg (zeros .u8 32).toArray) w := by
  cases hq : Tryz.prog.info? 91 with
  | none => have := zero_32; rw [hq] at this; cases this
  | some i =>
    have := zero_32
    rw [hq] at this
    simp at this
    simp [zeroValue, typeInfo, hq, this]

set_option maxHeartbeats 400000 in
theorem lnew_any (w : World) : Calls Tryz.prog 28 #[] w fun e w' => e = .returned (.pointer (some ⟨w.heap.size, 0, none⟩)) ∧ Rg w' w'.heap.size w.heap.size [] ∧ Below w.heap.size w w' := by
  have hr : Rg (w.alloc (.cells #[.map none] 89)) (w.alloc (.cells #[.map none] 89)).heap.size w.heap.size [] := ⟨by simp, ring_nil, none, Bl.newA w #[.map none] _, .inl ⟨rfl, rfl⟩⟩
  go_enter Tryz.func28, Tryz.ntmps28
  go_wp2
  go_ret
  exact ⟨rfl, hr, (Below.refl _ w).alloc (Nat.le_refl _) _⟩

theorem lmaster_nil (e : Int) (w : World) : Calls Tryz.prog 59 #[.pointer none, .int .i64 e] w fun r w' => r = .returned (.slice none 0 0) ∧ w = w' := by
  go_enter Tryz.func59, Tryz.ntmps59
  go_wp2
  go_ret
  exact ⟨rfl, rfl⟩
theorem lepochs_nil (w : World) : Calls Tryz.prog 44 #[.pointer none] w fun r w' => r = .returned (.slice none 0 0) ∧ w = w' := by
  go_enter Tryz.func44, Tryz.ntmps44
  go_wp2
  go_ret
  exact ⟨rfl, rfl⟩
theorem llast_nil (w : World) : Calls Tryz.prog 30 #[.pointer none] w fun r w' => r = .returned (.int .i64 0) ∧ w = w' := by
  go_enter Tryz.func30, Tryz.ntmps30
  go_wp2
  go_ret
  exact ⟨rfl, rfl⟩
theorem lput_nil (e : Int) (A : Option Addr) (n c : Nat) (w : World) : Calls Tryz.prog 29 #[.pointer none, .int .i64 e, .slice A n c] w fun r w' => r = .returned (.int .i64 1) ∧ w = w' := by
  go_enter Tryz.func29, Tryz.ntmps29
  go_wp2
  go_ret
  exact ⟨rfl, rfl⟩

theorem int_key {e : Int} (h : (Lit.int .i64 e).wf = true) : keyOf Tryz.prog 3 (.int .i64 e) = some (.int .i64 e) := keyOf_int_mk Tryz.underlying3 h
theorem epo_wf {e : Int} (h : epo e = true) : (Lit.int .i64 e).wf = true := by
  unfold epo at h
  simp only [Bool.and_eq_true, decide_eq_true_eq] at h
  have h1 : IntKind.i64.min = -9223372036854775808 := by decide
  have h2 : IntKind.i64.max = 9223372036854775807 := by decide
  simp only [Lit.wf, h1, h2, Bool.and_eq_true, decide_eq_true_eq]
  omega
/-- A look-up in a map that is not there. -/
theorem look_nil (w : World) {e : Int} (h : (Lit.int .i64 e).wf = true) : (Instr.lookup 87 (.map none) (.int .i64 e) true).run Tryz.prog w = .ok (.tuple #[.agg (zeros .u8 32).toArray, .bool false]) w := by
  have hc := (int_keyed Tryz.underlying3).check w true (int_key h)
  have hf : (Instr.findKey 3 (.int .i64 e) []).run Tryz.prog w = .ok none w := by
    unfold Instr.findKey
    simp only [Sem.run_bind, run_underlying Tryz.underlying3, Result.andThen_ok, Instr.findNow]
    rfl
  unfold Instr.lookup
  simp only [Sem.run_bind, run_underlying Tryz.underlying87, Result.andThen_ok, Sem.run_pure]
  simp only [Array.isEmpty_empty, hc, hf, Result.andThen_ok]
  simp [look_zero]
  rfl

set_option maxHeartbeats 1000000 in
theorem lmaster_any (g B : Nat) (m : RM) (e : Int) (w : World) (hr : Rg w B g m) (hw : (Lit.int .i64 e).wf = true) :
    Calls Tryz.prog 59 #[.pointer (some ⟨g, 0, none⟩), .int .i64 e] w (RetBytes 91 w ((rfind m e).getD []).length ((rfind m e).getD [])) := by
  obtain ⟨hg, ok, p, hb, hm⟩ := hr
  have hc0 : w.cell? ⟨g, 0, none⟩ = some (.map p) := hb.cell 0
  obtain ⟨v, hlk, hv, hvs⟩ : ∃ v : List UInt8, (Instr.lookup 87 (.map p) (.int .i64 e) true).run Tryz.prog w = .ok (.tuple #[.agg (cb v).toArray, .bool (rfind m e).isSome]) w ∧ v.length = 32 ∧ (∀ l, rfind m e = some l → v = l) := by
    rcases hm with ⟨rfl, rfl⟩ | ⟨b, rfl, _, _, hf⟩
    · exact ⟨List.replicate 32 0, by rw [look_nil w hw, zeros_cb]; rfl, by simp, fun l h => by cases h⟩
    · have := hf.look_ok (int_keyed Tryz.underlying3) Tryz.underlying87 (look_zero w) (int_key hw)
      rw [this]
      cases h : rfind m e with
      | none => exact ⟨List.replicate 32 0, by simp only [rf, h]; rw [zeros_cb]; rfl, by simp, fun l h => by cases h⟩
      | some l => exact ⟨l, by simp only [rf, h]; rfl, rfind_len ok h, fun l' h' => by injection h'⟩
  obtain ⟨pn1, pn2, pn3⟩ := put_new w (zeros .u8 32) (cb v) 91 (by rw [cb_len, hv, zeros_len])
  have bz := Bl.new w (zeros .u8 32) 91
  have HV := Lib.hid hv
  cases hfd : rfind m e with
  | none =>
    rw [hfd] at hlk
    clear hm hfd hvs
    go_enter Tryz.func59, Tryz.ntmps59
    go_wp2_with (first
      | (refine wpList_alloc_zero rfl 91 rfl (zeros .u8 32) zero_32 ?_)
      | (refine wpList_store_mid rfl 91 _ _ rfl _ _ (cb v).toArray rfl rfl (bz.there_ (by simp [zeros, cb_len, HV.out])) (by rw [size_32, List.size_toArray, cb_len, HV.out]) (all_oneCell_toArray (cb_one _)) ?_))
    go_ret
    exact ⟨none, 0, rfl, ⟨rfl, .inl ⟨rfl, rfl⟩⟩, pn2⟩
  | some l =>
    rw [hfd] at hlk
    obtain rfl := hvs l hfd
    clear hm hfd hvs
    go_enter Tryz.func59, Tryz.ntmps59
    go_wp2_with (first
      | (refine wpList_alloc_zero rfl 91 rfl (zeros .u8 32) zero_32 ?_)
      | (refine wpList_store_mid rfl 91 _ _ rfl _ _ (cb v).toArray rfl rfl (bz.there_ (by simp [zeros, cb_len, HV.out])) (by rw [size_32, List.size_toArray, cb_len, HV.out]) (all_oneCell_toArray (cb_one _)) ?_))
    go_ret
    exact retBytes (n := v.length) HV.out.symm rfl (own_of_block pn1 (Nat.le_refl _) (by rw [cb_len]; exact HV.out) (by decide)) pn2

end Go.Proofs.YtlnoopmblmkgkaaGreatDoor

namespace Go.Proofs.YtlnoopmblmkgkaaGreatDoor
set_option maxRecDepth 100000
open Go Go.RowKit Go.Maps
set_option linter.unusedVariables false
set_option linter.unusedSimpArgs false

theorem heldAt_all {o : Option Value} {c : Value} {D : DataW Value} (h : ∀ z, heldAt o z = .held c) : o = some c := by
  cases o with
  | none =>
    exfalso
    have h1 := h .nil
    simp [heldAt] at h1
  | some v =>
    have h1 := h .nil
    simp [heldAt] at h1
    rw [h1]
theorem rf_inv {m : RM} (ok : RingOk m) {kl : Lit} {c : Value} (h : rf m kl = some c) : ∃ l : List UInt8, c = .agg (cb l).toArray ∧ l.length = 32 := by
  cases kl with
  | int q k =>
    cases q
    case i64 =>
      simp only [rf] at h
      obtain ⟨l, hl, rfl⟩ := Option.map_eq_some_iff.1 h
      exact ⟨l, rfl, rfind_len ok hl⟩
    all_goals cases h
  | _ => cases h

theorem rf_nil (kl : Lit) : none = rf [] kl := by
  cases kl with
  | int q k => cases q <;> rfl
  | _ => rfl
/-- What is in the copy while the keys of left are to come. -/
def Part (f f' : Lit → Option Value) (left : Lit → Bool) : Prop := ∀ kl, WideAt.IsKeyLit kl → (left kl = true → f' kl = none) ∧ (left kl = false → f' kl = f kl)

theorem part_step {f f' : Lit → Option Value} {left : Lit → Bool} {kl : Lit} {c : Value} (h : Part f f' left) (hk : WideAt.IsKeyLit kl) (hf : f kl = some c) : Part f (setF f' kl (some c)) (fun z => left z && !z.sameKey kl) := by
  intro z hz
  by_cases e : z = kl
  · subst e
    have hs := sameKey_self hz
    rw [setF_same _ _ hz, hf]
    exact ⟨fun h' => by simp [hs] at h', fun _ => rfl⟩
  · have hs := Maps.sameKey_ne e
    rw [setF_other _ _ e]
    exact ⟨fun h' => (h z hz).1 (by simpa [hs] using h'), fun h' => (h z hz).2 (by simpa [hs] using h')⟩

theorem lcopy_nil (pd : Option Nat) (w : World) :
    Calls Tryz.prog 57 #[.map pd, .map none] w fun e w' => e = .returned (.tuple #[]) ∧ w' = w.alloc (.mapIter none 0 #[] 0) := by
  have hrg := run_range_nilMap (P := Tryz.prog) w 87 _ _ Tryz.underlying87
  have hnx : ∀ ty, (Instr.next (.pointer (some ⟨w.heap.size, 0, none⟩)) false ty).run Tryz.prog (w.alloc (.mapIter none 0 #[] 0)) = _ := fun ty => run_next_nilMap _ ty 0 0 #[]
  go_enter Tryz.func57, Tryz.ntmps57
  go_wp2
  refine wp_loop_rounds 1 ?_
  rw [rounds_succ]
  go_wp2
  go_end0
  exact ⟨rfl, rfl⟩

set_option maxHeartbeats 2000000 in
theorem lcopy_any (m : RM) (ok : RingOk m) (hl : m.length ≤ 1000) (bd bs : Nat) (w : World) (hd : MapF w Tryz.prog 3 bd 0 (fun _ => none)) (hs : MapF w Tryz.prog 3 bs m.length (rf m)) (hne : bd ≠ bs) :
    Calls Tryz.prog 57 #[.map (some bd), .map (some bs)] w fun e w' => e = .returned (.tuple #[]) ∧ MapF w' Tryz.prog 3 bd m.length (rf m) ∧ w.grownBy w' (some bd) := by
  have K := int_keyed (P := Tryz.prog) (k := 3) Tryz.underlying3
  obtain ⟨Ds, hso, hsf⟩ := hs
  have hsz : Maps.size Ds ≤ m.length := by
    obtain ⟨es, clock, _, _, h1, rfl⟩ := hso
    show (List.foldr DataW.insert [] _).length ≤ _
    rw [length_sorted, List.length_map, Array.length_toList]
    exact h1
  have hbd := hd.lt
  have hbs := hso.lt
  have HL := Lib.hid hl
  have HSZ := Lib.hid hsz
  clear hl hsz
  go_enter Tryz.func57, Tryz.ntmps57
  go_wp2_with (first
    | (at_range; refine wpList_range_own _ rfl _ 87 rfl 3 91 K Tryz.underlying87 heldR bs _ _ rfl hso ?_; intro w0 hrg0 hg0 hs0)
    | go_in)
  go_frame
  go_loopw [8] (fun _ wr => ∃ (left : Lit → Bool) (cnt : Nat) (f' : Lit → Option Value), wr.ranges Tryz.prog 3 heldR bs w.heap.size m.length Ds left cnt ∧ cnt ≤ Maps.size Ds ∧
      MapF wr Tryz.prog 3 bd (Maps.size Ds - cnt) f' ∧ Part (rf m) f' left ∧ w.grownBy wr (some bd))
    (fun _ wr => wr.rangeLeft bs w.heap.size)
  case atStart =>
    refine ⟨_, _, fun _ => none, hrg0, Nat.le_refl _, (hd.row hg0 (by simp)).mono (by omega), fun kl hk => ⟨fun _ => rfl, fun h => ?_⟩, hg0.but _⟩
    have := (hsf kl hk).1
    rw [h] at this
    exact (Option.not_isSome_iff_eq_none.1 (by rw [← this]; simp)).symm
  case round =>
    obtain ⟨left, cnt, f', hrg, hcs, hout, hM, hgw⟩ := hrel
    go_wp2_with (first
      | (at_next; refine wpList_next_ranges _ rfl _ rfl 3 K heldR id id (fun key _ _ => ⟨key, rfl⟩) (fun v _ _ => ⟨v, rfl⟩) bs w.heap.size _ _ _ _ rfl hrg ?_ ?_)
      | go_in)
    · intro hc0 hl0
      go_wp2
      go_end0
      subst hc0
      exact ⟨rfl, (hout.congr (fun kl hk => (hM kl hk).2 (hl0 kl))).mono (by have := HSZ.out; omega), hgw⟩
    · intro x c kl yd yp w1 cnt1 hkey hlx hv hat hrg1 hlt hg1 hs1 hen
      have hkk := K.key hkey
      have hfc : rf m kl = some c := by
        have h1 : heldR c = some (yd, yp) := hv
        unfold heldR at h1
        simp at h1
        refine heldAt_all (D := .nil) fun z => ?_
        rw [← (hsf kl hkk).2 z, hat z, ← h1.1]
      obtain ⟨l, rfl, hll⟩ := rf_inv ok hfc
      have HLL := Lib.hid hll
      have hout1 := hout.row hg1 (fun e => by have := Option.some.inj e; omega)
      obtain ⟨pn1, pn2, pn3⟩ := put_new w1 (zeros .u8 32) (cb l) 91 (by rw [cb_len, hll, zeros_len])
      have bz := Bl.new w1 (zeros .u8 32) 91
      have hg2 : w1.grownBy ((w1.alloc (.cells (zeros .u8 32).toArray 91)).setCells w1.heap.size 0 (cb l)) none := by
        refine ⟨pn2.os, pn2.tape, pn2.output, pn2.size, fun i hi _ => pn2.block i hi⟩
      have HG2 := Lib.hid hg2
      have HH := Lib.hid hs1
      clear hs1 hg2 hll
      go_wp2_with (first
        | (refine wpList_alloc_zero rfl 91 rfl (zeros .u8 32) zero_32 ?_)
        | (refine wpList_store_mid rfl 91 _ _ rfl _ _ (cb l).toArray rfl rfl (bz.there_ (by simp [zeros, cb_len, HLL.out])) (by rw [size_32, List.size_toArray, cb_len, HLL.out]) (all_oneCell_toArray (cb_one _)) ?_)
        | (refine wpList_load_mid rfl 91 _ rfl _ _ rfl (cb l) _ pn1.whole Tryz.underlying91 rfl (by rw [size_32, cb_len, HLL.out]) ?_)
        | (refine wpList_mapStore rfl _ _ _ 87 rfl (hout1.row HG2.out (by simp)) K Tryz.underlying87 (by have := HSZ.out; have := HL.out; unfold maxLen; omega) rfl rfl rfl hkey ?_; intro w2 hout2 hg3))
      have hrg2 := (hrg1.kept HG2.out (by simp) (by simp)).kept hg3 (fun e => hne (Option.some.inj e).symm) (fun e => by have := Option.some.inj e; omega)
      go_roundw
      case rel => exact ⟨_, cnt1, hrg2, by omega, _, hout2.mono (by omega), part_step hM hkk hfc, ((hgw.andThen hg1 (fun j hj => .inl (by cases hj; exact Nat.le_refl _))).andThen HG2.out (fun j hj => by cases hj)).andThen hg3 (fun j hj => .inr hj)⟩
      case measure => rw [hrg2.left_eq, hrg.left_eq]; exact hlt

/-- What Put answers. -/
def putE (m : RM) (e : Int) (l : List UInt8) : Int := if epo e = true ∧ l.length = 32 then (if (rfind m e).isSome = true then 19 else 0) else 1
/-- The ring behind a Put. -/
def putM (m : RM) (e : Int) (l : List UInt8) : RM := if epo e = true ∧ l.length = 32 ∧ rfind m e = none then m ++ [(e.toNat, l)] else m
theorem putM_ok {m : RM} (ok : RingOk m) (e : Int) (l : List UInt8) : RingOk (putM m e l) := by
  unfold putM
  split
  · rename_i h
    obtain ⟨h1, h2, h3⟩ := h
    unfold epo at h1
    simp only [Bool.and_eq_true, decide_eq_true_eq] at h1
    exact ring_put ok (by omega) (by omega) h2 (by rw [show ((e.toNat : Nat) : Int) = e by omega]; exact h3)
  · exact ok
theorem putM_len (m : RM) (e : Int) (l : List UInt8) : (putM m e l).length ≤ m.length + 1 := by
  unfold putM
  split
  · simp
  · omega

set_option maxHeartbeats 2000000 in
theorem lput_any (g B : Nat) (m : RM) (hl : m.length ≤ 900) (e : Int) (l : List UInt8) (w : World) (hr : Rg w B g m) (A : Option Addr) (n c : Nat) (h : Sl w w.heap.size A n (cb l)) (hc : n ≤ c) (hB : B ≤ w.heap.size) :
    Calls Tryz.prog 29 #[.pointer (some ⟨g, 0, none⟩), .int .i64 e, .slice A n c] w fun r w' => r = .returned (.int .i64 (putE m e l)) ∧ Rg w' w'.heap.size g (putM m e l) ∧ w.grownBy w' (some g) := by
  have hr0 := hr
  obtain ⟨hg, ok, p, hb, hm⟩ := hr
  have hn : n = l.length := by rw [← h.1, cb_len]
  have ce := isepo_any e
  obtain ⟨R, hR⟩ : ∃ R, R = putE m e l := ⟨_, rfl⟩
  rw [← hR]
  by_cases hf : epo e = true ∧ l.length = 32
  · obtain ⟨he, h32⟩ := hf
    have hw := epo_wf he
    rw [he] at ce
    obtain rfl : n = 32 := by omega
    obtain ⟨ad, rfl, hadl, hcell⟩ := h.2 (by omega)
    have harr : ∀ W, (Instr.arrayAt 91 (.slice (some ad) 32 c)).run Tryz.prog W = .ok (.pointer (some ad)) W := fun W => by
      simp [Instr.arrayAt, run_underlying Tryz.underlying91]
    have hc0 : w.cell? ⟨g, 0, none⟩ = some (.map p) := hb.cell 0
    have hf0 : w.frozen? ⟨g, 0, none⟩ = false := hb.frozen 0
    obtain ⟨v, hlk, hv⟩ : ∃ v : List UInt8, (Instr.lookup 87 (.map p) (.int .i64 e) true).run Tryz.prog w = .ok (.tuple #[.agg (cb v).toArray, .bool (rfind m e).isSome]) w ∧ v.length = 32 := by
      rcases hm with ⟨rfl, rfl⟩ | ⟨b, rfl, _, _, hf⟩
      · exact ⟨List.replicate 32 0, by rw [look_nil w hw, zeros_cb]; rfl, by simp⟩
      · have := hf.look_ok (int_keyed Tryz.underlying3) Tryz.underlying87 (look_zero w) (int_key hw)
        rw [this]
        cases h : rfind m e with
        | none => exact ⟨List.replicate 32 0, by simp only [rf, h]; rw [zeros_cb]; rfl, by simp⟩
        | some l => exact ⟨l, by simp only [rf, h]; rfl, rfind_len ok h⟩
    obtain ⟨pn1, pn2, pn3⟩ := put_new w (zeros .u8 32) (cb v) 91 (by rw [cb_len, hv, zeros_len])
    have bz := Bl.new w (zeros .u8 32) 91
    have HV := Lib.hid hv
    have HC := Lib.hid ce
    cases hfd : (rfind m e).isSome with
    | true =>
      have HR : Hid (R = 19) := by unfold Hid; rw [hR]; unfold putE; rw [if_pos ⟨he, h32⟩, if_pos hfd]
      have HM : Hid (putM m e l = m) := by unfold Hid putM; rw [if_neg (by rintro ⟨_, _, h3⟩; rw [h3] at hfd; cases hfd)]
      rw [hfd] at hlk
      rw [HM.out]
      clear hm hfd hR ce he hn h32
      go_enter Tryz.func29, Tryz.ntmps29
      go_wp2_with (first
        | (go_at_call 56; refine (HC.out _).mono ?_; rintro e w1 ⟨rfl, rfl⟩)
        | (refine wpList_alloc_zero rfl 91 rfl (zeros .u8 32) zero_32 ?_)
        | (refine wpList_store_mid rfl 91 _ _ rfl _ _ (cb v).toArray rfl rfl (bz.there_ (by simp [zeros, cb_len, HV.out])) (by rw [size_32, List.size_toArray, cb_len, HV.out]) (all_oneCell_toArray (cb_one _)) ?_))
      go_ret
      exact ⟨by rw [HR.out]; rfl, (hr0.next pn2).up (Nat.le_trans hB pn2.size), but_below pn2⟩
    | false =>
      have hfn : rfind m e = none := by rw [← Option.not_isSome_iff_eq_none, hfd]; simp
      obtain ⟨en, rfl⟩ : ∃ en : Nat, e = en := ⟨e.toNat, by unfold epo at he; simp only [Bool.and_eq_true, decide_eq_true_eq] at he; omega⟩
      have HR : Hid (R = 0) := by unfold Hid; rw [hR]; unfold putE; rw [if_pos ⟨he, h32⟩, if_neg (by rw [hfd]; simp)]
      have HM : Hid (putM m en l = m ++ [(en, l)]) := by unfold Hid putM; rw [if_pos ⟨he, h32, hfn⟩]; simp
      have ok2 : RingOk (m ++ [(en, l)]) := by rw [← HM.out]; exact putM_ok ok _ _
      rw [hfd] at hlk
      rw [HM.out]
      have hkey := int_key hw
      have K := int_keyed (P := Tryz.prog) (k := 3) Tryz.underlying3
      obtain ⟨W1, hW1⟩ : ∃ W, W = (w.alloc (.cells (zeros .u8 32).toArray 91)).setCells w.heap.size 0 (cb v) := ⟨_, rfl⟩
      rw [← hW1] at pn1 pn2 pn3
      have HW1 := Lib.hid hW1
      have b1 := hb.next pn2
      have hc1 : W1.cell? ⟨g, 0, none⟩ = some (.map p) := b1.cell 0
      -- the new map
      have hd := mapF_made W1 Tryz.prog 3
      have hb2 : Below W1.heap.size W1 (W1.alloc (.map #[] 0)) := (Below.refl _ W1).alloc (Nat.le_refl _) _
      obtain ⟨W2, hW2⟩ : ∃ W, W = W1.alloc (.map #[] 0) := ⟨_, rfl⟩
      rw [← hW2] at hd hb2
      have HW2 := Lib.hid hW2
      have b2 := b1.next hb2
      have hc2 : W2.cell? ⟨g, 0, none⟩ = some (.map p) := b2.cell 0
      have hlow : w.heap.size ≤ W1.heap.size := pn2.size
      have hgd : g < w.heap.size := hb.lt
      have ccopy : Calls Tryz.prog 57 #[.map (some W1.heap.size), .map p] W2 fun e w' => e = .returned (.tuple #[]) ∧ MapF w' Tryz.prog 3 W1.heap.size m.length (rf m) ∧ W2.grownBy w' (some W1.heap.size) := by
        rcases hm with ⟨rfl, rfl⟩ | ⟨b, rfl, hb1, hb2', hf⟩
        · refine (lcopy_nil _ W2).mono ?_
          rintro e w' ⟨rfl, rfl⟩
          refine ⟨rfl, ?_, World.grownBy_alloc W2 _ _⟩
          exact (hd.row (World.grownBy_alloc W2 _ none) (by simp)).congr (fun kl _ => rf_nil kl)
        · have hfl := hf.lt
          refine lcopy_any m ok (by omega) _ _ W2 hd ((hf.next pn2).next hb2) (by omega)
      obtain ⟨hlenr, hlr⟩ : ∃ z : Int, (Builtin.len_ #[87] 3 #[.map p]).run Tryz.prog W1 = .ok (.int .i64 z) W1 := by
        rcases hm with ⟨rfl, rfl⟩ | ⟨b, rfl, hb1, hb2', hf⟩
        · exact ⟨0, run_len_nilMap W1 87 3 Tryz.underlying87⟩
        · obtain ⟨D, ⟨es, clock, hbb, _⟩, _⟩ := hf.next pn2
          exact ⟨_, run_len_map W1 87 3 b es clock Tryz.underlying87 hbb⟩
      have hmk : ∀ x, (Instr.makeMap 87 (some (.int .i64 x))).run Tryz.prog W1 = .ok (.map (some W1.heap.size)) W2 := by
        intro x
        rw [hW2]
        simp [Instr.makeMap, run_underlying Tryz.underlying87, asInt, asIntOf]
      have HCC := Lib.hid ccopy
      have HH1 := Lib.hid pn3
      have H32 := Lib.hid h32
      clear hm hfd hR ce he hn hW1 hW2 ccopy hd pn3 h32 h
      go_enter Tryz.func29, Tryz.ntmps29
      go_wp2_with (first
        | (go_at_call 56; refine (HC.out _).mono ?_; rintro e w1 ⟨rfl, rfl⟩)
        | (refine wpList_alloc_zero rfl 91 rfl (zeros .u8 32) zero_32 ?_)
        | (refine wpList_store_mid rfl 91 _ _ rfl _ _ (cb v).toArray rfl rfl (bz.there_ (by simp [zeros, cb_len, HV.out])) (by rw [size_32, List.size_toArray, cb_len, HV.out]) (all_oneCell_toArray (cb_one _)) ?_; rw [← HW1.out])
        | (go_at_call 57; refine HCC.out.mono ?_; rintro e W3 ⟨rfl, hd3, gr3⟩; have b3 := b2.grown gr3 (by intro e; injection e with e; omega); have s3 : ∀ j v, (cb l)[j]? = some v → W3.cell? (ad.add j) = some v := (by intro j v hv; have hh : ∀ q : Addr, q.block < w.heap.size → W3.cell? q = w.cell? q := (by intro q hq; unfold World.cell?; rw [gr3.block q.block (by have := hb2.size; omega) (by intro e; injection e with e; omega), hb2.block q.block (by omega), pn2.block q.block hq]); rw [hh _ (by rw [add_block]; exact hadl)]; exact hcell j v hv); have HS3 := Lib.hid s3; clear s3)
        | (refine wpList_load_at rfl 91 _ rfl ad rfl (cb l) _ HS3.out Tryz.underlying91 rfl (by rw [size_32, cb_len, H32.out]) ?_)
        | (refine wpList_mapStore rfl _ _ _ 87 rfl hd3 K Tryz.underlying87 (by unfold maxLen; omega) rfl rfl rfl hkey ?_; intro W4 hd4 gr4; have b4 := b3.grown gr4 (by intro e; injection e with e; omega); have hc4 : W4.cell? ⟨g, 0, none⟩ = some (.map p) := b4.cell 0; have hf4 := b4.frozen 0))
      have b5 := b4.set 0 (.map (some W1.heap.size))
      have hgr : w.grownBy (W4.setCell ⟨g, 0, none⟩ (.map (some W1.heap.size))) (some g) :=
        but_setCell (but_row (but_row (but_next (but_below pn2) hb2) gr3 (fun j hj => by injection hj with hj; omega)) gr4 (fun j hj => by injection hj with hj; omega)) 0 _
      go_ret
      refine ⟨by rw [HR.out]; rfl, ⟨?_, ok2, some W1.heap.size, b5, .inr ⟨W1.heap.size, rfl, ?_, by omega, ?_⟩⟩, hgr⟩
      · have := hgr.size; omega
      · have := gr4.size; have := hd4.lt; rw [heap_size_setCell]; omega
      · rw [List.length_append]
        refine (hd4.congr (fun kl _ => rf_put hfn kl)).row (row := some g) (but_setCell (but_refl _ _) 0 _) (by intro e; injection e with e; omega)
  · have HR : Hid (R = 1) := by unfold Hid; rw [hR]; unfold putE; rw [if_neg hf]
    have HM : Hid (putM m e l = m) := by unfold Hid putM; rw [if_neg (fun h => hf ⟨h.1, h.2.1⟩)]
    rw [HM.out]
    have hcase : epo e = false ∨ (epo e = true ∧ ¬ (n : Int) = 32) := by
      cases h1 : epo e with
      | false => exact .inl rfl
      | true => exact .inr ⟨rfl, fun h2 => hf ⟨h1, by omega⟩⟩
    clear hm hf hR hn
    go_enter Tryz.func29, Tryz.ntmps29
    rcases hcase with he | ⟨he, h32⟩
    · rw [he] at ce
      have HC := Lib.hid ce
      clear ce he
      go_wp2_with (go_at_call 56; refine (HC.out _).mono ?_; rintro e w1 ⟨rfl, rfl⟩)
      go_ret
      exact ⟨by rw [HR.out]; rfl, hr0.up hB, but_refl _ _⟩
    · rw [he] at ce
      have HC := Lib.hid ce
      clear ce he
      go_wp2_with (go_at_call 56; refine (HC.out _).mono ?_; rintro e w1 ⟨rfl, rfl⟩)
      go_ret
      exact ⟨by rw [HR.out]; rfl, hr0.up hB, but_refl _ _⟩

end Go.Proofs.YtlnoopmblmkgkaaGreatDoor

namespace Go.Proofs.YtlnoopmblmkgkaaGreatDoor
set_option maxRecDepth 100000
open Go Go.RowKit Go.Maps
set_option linter.unusedVariables false
set_option linter.unusedSimpArgs false

/-- What a ring's Key answers. -/
def rkeyR (m : RM) (p : List UInt8) (e : Int) : List UInt8 := match rfind m e with
  | some k => lkeyR k p e
  | none => []
def rkeyE (m : RM) (p : List UInt8) (e : Int) : Int := if (purp p && epo e) = true then (match rfind m e with
  | some k => lkeyE k p e
  | none => 24) else 1
theorem rkeyR_len (m : RM) (p : List UInt8) (e : Int) : (rkeyR m p e).length ≤ 32 := by
  unfold rkeyR
  split
  · exact lkeyR_len _ _ _
  · simp
theorem lkeyR_bad {k p : List UInt8} {e : Int} (h : (purp p && epo e) = false) : lkeyR k p e = [] := by
  unfold lkeyR lfit
  rw [h]; simp
theorem rkeyR_bad {m : RM} {p : List UInt8} {e : Int} (h : (purp p && epo e) = false) : rkeyR m p e = [] := by
  unfold rkeyR
  split
  · exact lkeyR_bad h
  · rfl

set_option maxHeartbeats 1000000 in
theorem lrkey_nil (p : List UInt8) (e : Int) (w : World) :
    Calls Tryz.prog 45 #[.pointer none, .string ⟨p.toArray⟩, .int .i64 e] w fun r w' => r = .returned (.tuple #[.slice none 0 0, .int .i64 (rkeyE [] p e)]) ∧ w = w' := by
  have cp := ispurp_any p
  have ce := isepo_any e
  have cm := lmaster_nil e
  obtain ⟨R, hR⟩ : ∃ R, R = rkeyE [] p e := ⟨_, rfl⟩
  rw [← hR]
  have HR := Lib.hid hR
  have HM := Lib.hid cm
  clear hR cm
  cases hp : purp p with
  | false =>
    have HB : Hid (rkeyE [] p e = 1) := by unfold Hid rkeyE; rw [hp]; simp
    rw [hp] at cp
    have HP := Lib.hid cp
    clear cp ce hp
    go_enter Tryz.func45, Tryz.ntmps45
    go_wp2_with (go_at_call 77; refine (HP.out _).mono ?_; rintro e w1 ⟨rfl, rfl⟩)
    go_ret2
    exact ⟨by rw [HR.out, HB.out]; rfl, rfl⟩
  | true =>
    rw [hp] at cp
    have HP := Lib.hid cp
    cases he : epo e with
    | false =>
      have HB : Hid (rkeyE [] p e = 1) := by unfold Hid rkeyE; rw [hp, he]; simp
      rw [he] at ce
      have HC := Lib.hid ce
      clear cp ce hp he
      go_enter Tryz.func45, Tryz.ntmps45
      go_wp2_with (first
        | (go_at_call 77; refine (HP.out _).mono ?_; rintro e w1 ⟨rfl, rfl⟩)
        | (go_at_call 56; refine (HC.out _).mono ?_; rintro e w1 ⟨rfl, rfl⟩))
      go_ret2
      exact ⟨by rw [HR.out, HB.out]; rfl, rfl⟩
    | true =>
      have HB : Hid (rkeyE [] p e = 24) := by unfold Hid rkeyE; rw [hp, he]; rfl
      rw [he] at ce
      have HC := Lib.hid ce
      clear cp ce hp he
      go_enter Tryz.func45, Tryz.ntmps45
      go_wp2_with (first
        | (go_at_call 77; refine (HP.out _).mono ?_; rintro e w1 ⟨rfl, rfl⟩)
        | (go_at_call 56; refine (HC.out _).mono ?_; rintro e w1 ⟨rfl, rfl⟩)
        | (go_at_call 59; refine (HM.out _).mono ?_; rintro e w1 ⟨rfl, rfl⟩))
      go_ret2
      exact ⟨by rw [HR.out, HB.out]; rfl, rfl⟩

set_option maxHeartbeats 1000000 in
theorem lrkey_any (g B : Nat) (m : RM) (p : List UInt8) (e : Int) (w : World) (hr : Rg w B g m) (hT : Tabs w) :
    Calls Tryz.prog 45 #[.pointer (some ⟨g, 0, none⟩), .string ⟨p.toArray⟩, .int .i64 e] w (RetFill 143 w (rkeyR m p e) (rkeyE m p e)) := by
  have cp := ispurp_any p
  have ce := isepo_any e
  obtain ⟨R, hR⟩ : ∃ R, R = rkeyR m p e := ⟨_, rfl⟩
  obtain ⟨E, hE⟩ : ∃ R, R = rkeyE m p e := ⟨_, rfl⟩
  rw [← hR, ← hE]
  have HR := Lib.hid hR
  have HE := Lib.hid hE
  clear hR hE
  have hres : ∀ err, RetFill 143 w [] err (.returned (.tuple #[.slice none 0 0, .int .i64 err])) w := fun err => ⟨none, 0, 0, rfl, ⟨rfl, .inl ⟨rfl, rfl⟩⟩, Below.refl _ _⟩
  have HRS := Lib.hid hres
  clear hres
  cases hp : purp p with
  | false =>
    have HB : Hid (rkeyE m p e = 1 ∧ rkeyR m p e = []) := by unfold Hid; refine ⟨?_, rkeyR_bad (by rw [hp]; rfl)⟩; unfold rkeyE; rw [hp]; simp
    rw [hp] at cp
    have HP := Lib.hid cp
    clear cp ce hp
    go_enter Tryz.func45, Tryz.ntmps45
    go_wp2_with (go_at_call 77; refine (HP.out _).mono ?_; rintro e w1 ⟨rfl, rfl⟩)
    go_ret2
    rw [HR.out, HE.out, HB.out.1, HB.out.2]
    exact HRS.out _
  | true =>
    rw [hp] at cp
    have HP := Lib.hid cp
    cases he : epo e with
    | false =>
      have HB : Hid (rkeyE m p e = 1 ∧ rkeyR m p e = []) := by unfold Hid; refine ⟨?_, rkeyR_bad (by rw [hp, he]; rfl)⟩; unfold rkeyE; rw [hp, he]; simp
      rw [he] at ce
      have HC := Lib.hid ce
      clear cp ce hp he
      go_enter Tryz.func45, Tryz.ntmps45
      go_wp2_with (first
        | (go_at_call 77; refine (HP.out _).mono ?_; rintro e w1 ⟨rfl, rfl⟩)
        | (go_at_call 56; refine (HC.out _).mono ?_; rintro e w1 ⟨rfl, rfl⟩))
      go_ret2
      rw [HR.out, HE.out, HB.out.1, HB.out.2]
      exact HRS.out _
    | true =>
      have cm := lmaster_any g B m e w hr (epo_wf he)
      have hok := hr.2.1
      cases hfd : rfind m e with
      | none =>
        have HB : Hid (rkeyE m p e = 24 ∧ rkeyR m p e = []) := by unfold Hid rkeyE rkeyR; rw [hp, he, hfd]; exact ⟨rfl, rfl⟩
        rw [hfd] at cm
        have HM : Hid (Calls Tryz.prog 59 #[.pointer (some ⟨g, 0, none⟩), .int .i64 e] w (RetBytes 91 w 0 [])) := cm
        rw [he] at ce
        have HC := Lib.hid ce
        clear cp ce hp he cm hfd
        go_enter Tryz.func45, Tryz.ntmps45
        go_wp2_with (first
          | (go_at_call 77; refine (HP.out _).mono ?_; rintro e w1 ⟨rfl, rfl⟩)
          | (go_at_call 56; refine (HC.out _).mono ?_; rintro e w1 ⟨rfl, rfl⟩)
          | (go_at_call 59; refine HM.out.mono ?_; rintro e w1 ⟨A1, c1, rfl, x1⟩))
        go_ret2
        rw [HR.out, HE.out, HB.out.1, HB.out.2]
        exact ⟨none, 0, 0, rfl, ⟨rfl, .inl ⟨rfl, rfl⟩⟩, x1.below⟩
      | some k =>
        have hk32 := rfind_len hok hfd
        have HB : Hid (rkeyE m p e = lkeyE k p e ∧ rkeyR m p e = lkeyR k p e) := by unfold Hid rkeyE rkeyR; rw [hp, he, hfd]; exact ⟨rfl, rfl⟩
        rw [hfd] at cm
        have HM : Hid (Calls Tryz.prog 59 #[.pointer (some ⟨g, 0, none⟩), .int .i64 e] w (RetBytes 91 w 32 k)) := by unfold Hid; rw [← hk32]; exact cm
        rw [he] at ce
        have HC := Lib.hid ce
        have HT := Lib.hid hT
        clear cp ce hp he cm hfd hk32 hT
        go_enter Tryz.func45, Tryz.ntmps45
        go_wp2_with (first
          | (go_at_call 77; refine (HP.out _).mono ?_; rintro e w1 ⟨rfl, rfl⟩)
          | (go_at_call 56; refine (HC.out _).mono ?_; rintro e w1 ⟨rfl, rfl⟩)
          | (go_at_call 59; refine HM.out.mono ?_; rintro e w1 ⟨A1, c1, rfl, x1⟩)
          | (go_at_call 78; refine (lkey_any k p e w1 A1 32 c1 x1.sl (own_cap x1.own) x1.none_ (HT.out.next x1.below)).mono ?_; rintro e w2 ⟨A2, n2, c2, rfl, x2⟩))
        go_ret2
        rw [HR.out, HE.out, HB.out.1, HB.out.2]
        exact ⟨A2, n2, c2, rfl, x2.down x1.below⟩

/-- The last epoch of a ring. -/
def IsLast (m : RM) (L : Int) : Prop := (∀ x ∈ m, (x.1 : Int) ≤ L) ∧ (L = 0 ∨ ∃ x ∈ m, (x.1 : Int) = L)
theorem last_one {m : RM} {L L' : Int} (h : IsLast m L) (h' : IsLast m L') : L = L' := by
  have h0 : 0 ≤ L := by rcases h.2 with h | ⟨x, _, h⟩ <;> omega
  have h0' : 0 ≤ L' := by rcases h'.2 with h | ⟨x, _, h⟩ <;> omega
  have a : L ≤ L' := by
    rcases h.2 with e | ⟨x, hx, e⟩
    · omega
    · rw [← e]; exact h'.1 x hx
  have b : L' ≤ L := by
    rcases h'.2 with e | ⟨x, hx, e⟩
    · omega
    · rw [← e]; exact h.1 x hx
  omega

theorem rf_has {m : RM} (k : Int) : (rf m (.int .i64 k)).isSome = true ↔ ∃ x ∈ m, (x.1 : Int) = k := by
  simp only [rf, Option.isSome_map]
  constructor
  · intro h
    obtain ⟨l, hl⟩ := Option.isSome_iff_exists.1 h
    obtain ⟨x, hx, he, _⟩ := rfind_some hl
    exact ⟨x, hx, he⟩
  · rintro ⟨x, hx, he⟩
    cases h : rfind m k with
    | some l => rfl
    | none => exact absurd he (rfind_none h x hx)

set_option maxHeartbeats 1000000 in
theorem llast_any (g B : Nat) (m : RM) (w : World) (hr : Rg w B g m) :
    Calls Tryz.prog 30 #[.pointer (some ⟨g, 0, none⟩)] w fun r w' => ∃ L, r = .returned (.int .i64 L) ∧ IsLast m L ∧ Below w.heap.size w w' := by
  obtain ⟨hg, ok, p, hb, hm⟩ := hr
  have hc0 : w.cell? ⟨g, 0, none⟩ = some (.map p) := hb.cell 0
  rcases hm with ⟨rfl, rfl⟩ | ⟨b, rfl, hb1, hb2, hf⟩
  · have hrg := run_range_nilMap (P := Tryz.prog) w 87 _ _ Tryz.underlying87
    have hnx : ∀ ty, (Instr.next (.pointer (some ⟨w.heap.size, 0, none⟩)) false ty).run Tryz.prog (w.alloc (.mapIter none 0 #[] 0)) = _ := fun ty => run_next_nilMap _ ty 0 0 #[]
    go_enter Tryz.func30, Tryz.ntmps30
    go_wp2
    refine wp_loop_rounds 1 ?_
    rw [rounds_succ]
    go_wp2
    go_ret
    exact ⟨0, rfl, ⟨fun x h => absurd h (by simp), .inl rfl⟩, (Below.refl _ w).alloc (Nat.le_refl _) _⟩
  · have K := int_keyed (P := Tryz.prog) (k := 3) Tryz.underlying3
    obtain ⟨Ds, hso, hsf⟩ := hf
    have hbs := hso.lt
    have HSF := Lib.hid hsf
    clear hsf
    go_enter Tryz.func30, Tryz.ntmps30
    go_wp2_with (first
      | (at_range; refine wpList_range_own _ rfl _ 87 rfl 3 91 K Tryz.underlying87 heldR b _ _ rfl hso ?_; intro w0 hrg0 hg0 hs0)
      | go_in)
    go_frame
    have hbl0 : Below w.heap.size w w0 := (Below.refl _ w).grown hg0 (Nat.le_refl _) (by simp)
    go_loopw [3, 12] (fun x _ wr => ∃ (L : Int), x = .int .i64 L ∧ ∃ (left : Lit → Bool) (cnt : Nat) (ss : List Int), wr.ranges Tryz.prog 3 heldR b w.heap.size m.length Ds left cnt ∧ CollectedI Ds left ss ∧ (∀ y ∈ ss, y ≤ L) ∧ (L = 0 ∨ L ∈ ss) ∧ Below w.heap.size w wr)
      (fun _ _ wr => wr.rangeLeft b w.heap.size)
    case atStart => exact ⟨0, rfl, _, _, [], hrg0, CollectedI.start Ds, by simp, .inl rfl, hbl0⟩
    case round =>
      obtain ⟨L, rfl, left, cnt, ss, hrg, hC, hle, hL, hbw⟩ := hrel
      go_wp2_with (first
        | (at_next; refine wpList_next_ranges _ rfl _ rfl 3 K heldR encZ id (fun key kl hk => by obtain ⟨x, hx, _⟩ := Maps.keyOf_i64 Tryz.underlying3 hk; exact ⟨x, hx⟩) (fun v _ _ => ⟨v, rfl⟩) b w.heap.size _ _ _ _ rfl hrg ?_ ?_)
        | go_in)
      · intro hc0 hl0
        go_wp2
        go_ret
        have hmem : ∀ y : Int, y ∈ ss ↔ ∃ x ∈ m, (x.1 : Int) = y := fun y => by
          rw [hC.2 y, hl0, ← rf_has y, (HSF.out _ (show WideAt.IsKeyLit (.int .i64 y) from trivial)).1]
          simp
        exact ⟨L, rfl, ⟨fun x hx => hle _ ((hmem _).2 ⟨x, hx, rfl⟩), hL.imp id (fun h => (hmem L).1 h)⟩, hbw⟩
      · intro x c kl yd yp w2 cnt2 hkey hlk hv hat hrg2 hlt hg2 hs2 hen
        obtain ⟨x', ex, rfl, _⟩ := Maps.keyOf_i64 Tryz.underlying3 hkey
        obtain rfl : x = x' := encZ_inj ex
        have hC2 := hC.step hlk hat
        have hbw2 : Below w.heap.size w w2 := hbw.grown hg2 hbw.size (fun j hj => by cases hj; exact Nat.le_refl _)
        have HCC := Lib.hid hC2
        clear hs2 hC2
        by_cases hmx : L < x
        · have hle2 : ∀ y ∈ ss ++ [x], y ≤ x := by
            intro y hy
            rcases List.mem_append.1 hy with h | h
            · have := hle y h; omega
            · rw [List.mem_singleton.1 h]; exact Int.le_refl _
          have HX : Hid ((∀ y ∈ ss ++ [x], y ≤ x) ∧ (x = 0 ∨ x ∈ ss ++ [x])) := ⟨hle2, .inr (by simp)⟩
          clear hle2
          go_wp2
          go_roundw
          case rel => exact ⟨x, rfl, _, cnt2, ss ++ [x], hrg2, HCC.out, HX.out.1, HX.out.2, hbw2⟩
          case measure => rw [hrg2.left_eq, hrg.left_eq]; exact hlt
        · have hle2 : ∀ y ∈ ss ++ [x], y ≤ L := by
            intro y hy
            rcases List.mem_append.1 hy with h | h
            · exact hle y h
            · rw [List.mem_singleton.1 h]; omega
          have HX : Hid ((∀ y ∈ ss ++ [x], y ≤ L) ∧ (L = 0 ∨ L ∈ ss ++ [x])) := ⟨hle2, hL.imp id (fun h => by simp [h])⟩
          clear hle2
          go_wp2
          go_roundw
          case rel => exact ⟨L, rfl, _, cnt2, ss ++ [x], hrg2, HCC.out, HX.out.1, HX.out.2, hbw2⟩
          case measure => rw [hrg2.left_eq, hrg.left_eq]; exact hlt

end Go.Proofs.YtlnoopmblmkgkaaGreatDoor
