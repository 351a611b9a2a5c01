/- Bytes made of a string ('[]byte(s)'), and what is appended to them: the row bears a mark behind its end. No function of the program is named here. -/
import Derived.Test.YtkkpdeembndneaaDoorLG
import Derived.Lib.ConvBytes
import Derived.ArgAppend
import Derived.Deep.MidRow
namespace Go.Proofs.YtkkpdeembndneaaDoor
set_option maxRecDepth 100000
open Go Go.RowKit
set_option linter.unusedVariables false
set_option linter.unusedSimpArgs false

/-- A slice in memory of the call's own, told by its cells, whatever mark its row bears. -/
structure OwnC (w : World) (base g : Nat) (n cap : Nat) (xs : List Value) : Prop where
  len : xs.length = n
  low : base ≤ g
  lt : g < w.heap.size
  cap_ : n ≤ cap
  at_ : w.rangeAt g 0 xs
  there_ : w.there g 0 cap

section
variable {w w' : World} {base g n cap : Nat} {xs : List Value}
theorem OwnC.keep (h : OwnC w base g n cap xs) (hb : w'.heap[g]? = w.heap[g]?) (hs : w.heap.size ≤ w'.heap.size) : OwnC w' base g n cap xs := by
  have hc : ∀ o, w'.cell? ⟨g, o, none⟩ = w.cell? ⟨g, o, none⟩ := fun o => by unfold World.cell?; rw [hb]
  have hf : ∀ o, w'.frozen? ⟨g, o, none⟩ = w.frozen? ⟨g, o, none⟩ := fun o => by unfold World.frozen?; rw [hb]
  exact ⟨h.len, h.low, Nat.lt_of_lt_of_le h.lt hs, h.cap_, fun j v hv => by rw [hc]; exact h.at_ j v hv, fun j hj => by rw [hc, hf]; exact h.there_ j hj⟩
theorem OwnC.next (h : OwnC w base g n cap xs) (hb : Below w.heap.size w w') : OwnC w' base g n cap xs := h.keep (hb.block g h.lt) hb.size
theorem OwnC.alloc (h : OwnC w base g n cap xs) (o : Obj) : OwnC (w.alloc o) base g n cap xs := h.keep (Below.heap_alloc w o g h.lt) (by simp)
theorem OwnC.sl (h : OwnC w base g n cap xs) : Sl w w.heap.size (some ⟨g, 0, none⟩) n xs := by
  refine ⟨h.len, fun _ => ⟨_, rfl, h.lt, fun j u hu => ?_⟩⟩
  rw [Addr.add_mid]
  exact h.at_ j u hu
theorem OwnC.own {e : TypeId} (h : w.ownsRow base e 1 (.slice (some ⟨g, 0, none⟩) n cap) n xs) : OwnC w base g n cap xs := by
  rcases h with ⟨h1, ⟨hv, _⟩ | ⟨g', cap', cur, hv, hb, hg, r1, r2, r3, r4⟩⟩
  · cases hv
  · injection hv with ha _ hc
    injection ha with ha
    injection ha with ha
    subst ha; subst hc
    refine ⟨by omega, hb, (Array.getElem?_eq_some_iff.1 hg).1, r1, fun j v hv => ?_, fun j hj => ?_⟩
    · rw [cell_of_row w g _ cur e _ hg]
      rw [← r4, List.getElem?_take] at hv
      split at hv
      · simpa using hv
      · cases hv
    · rw [cell_of_row w g _ cur e _ hg]
      exact ⟨by rw [Array.getElem?_eq_getElem (by omega)]; rfl, frozen_of_row w g _ cur e hg⟩
end

/-- '[]byte(s)'. -/
theorem run_bytes_of {P : Program} (w : World) (src dst e : TypeId) (l : List UInt8) {u : TypeDesc} (hs : P.underlying src = some u) (hd : P.underlying dst = some (.slice e)) (he : P.underlying e = some (.int .u8)) :
    ∃ cap w', (convert src dst (.string ⟨l.toArray⟩)).run P w = .ok (.slice (some ⟨w.heap.size, 0, none⟩) l.length cap) w' ∧ OwnC w' w.heap.size w.heap.size l.length cap (cb l) ∧ Below w.heap.size w w' := by
  have hr := Lib.run_convert_string_bytes (P := P) w src dst e ⟨l.toArray⟩ hs hd he
  have hsz : (ByteArray.mk l.toArray).size = l.length := by show l.toArray.size = _; simp
  have hge := grownCap_ge w l.length 0 e
  rw [hsz] at hr
  refine ⟨_, _, hr, ⟨cb_len l, Nat.le_refl _, by rw [Lib.bytesWorld_size]; omega, hge, fun j v hv => ?_, fun j hj => ?_⟩, ?_⟩
  · have hj : j < l.length := by have := (List.getElem?_eq_some_iff.1 hv).1; rwa [cb_len] at this
    rw [Nat.zero_add, Lib.bytesWorld_cell w e _ j (by rw [hsz]; exact hj)]
    rw [cb_at hj] at hv
    rw [← hv]
    simp [List.getD, List.getElem?_eq_getElem hj]
  · have hnew := Lib.bytesWorld_at_new w e ⟨l.toArray⟩
    have hcs : (Lib.bytesCells w e ⟨l.toArray⟩).size = grownCap w l.length 0 e := by
      simp only [Lib.bytesCells, Array.size_append, Array.size_map, Array.size_replicate, hsz]
      show l.toArray.size + _ = _
      simp; omega
    rw [Nat.zero_add]
    refine ⟨by rw [cell_of_row _ _ _ _ _ _ hnew, Array.getElem?_eq_getElem (by omega)]; rfl, ?_⟩
    simp only [World.frozen?, hnew, Bool.and_eq_false_iff, decide_eq_false_iff_not]
    left
    omega
  · have hg : w.grownBy (Lib.bytesWorld w e ⟨l.toArray⟩) none := ⟨rfl, rfl, rfl, by rw [Lib.bytesWorld_size]; omega, fun k hk _ => Lib.bytesWorld_at_old w e _ k hk⟩
    exact (Below.refl _ w).grown hg (Nat.le_refl _) (by simp)

/-- 'append(s, x...)' onto such a slice. -/
theorem run_append_C {P : Program} (w : World) (base : Nat) (t ty e : TypeId) (i : TypeInfo) (z : Value) (bytes : Nat) (ht : P.underlying t = some (.slice e)) (hi : P.info? e = some i) (hz : i.zero = some z)
    (hsize : i.size = 1) (hby : i.bytes = bytes) (hzs : z.cells.size = 1) (g n cap : Nat) (xs : List Value) (hown : OwnC w base g n cap xs)
    (B : Nat) (A : Addr) (m c : Nat) (news : List Value) (hr : Sl w B (some A) m news) (h1 : ∀ u ∈ news, u.oneCell' = true) (h63 : n + m ≤ maxLen) (hbytes : (n + m) * bytes ≤ 140737488355328) (hbase : base ≤ w.heap.size) :
    ∃ g' cap' w', (Builtin.append_ #[t, t] ty #[.slice (some ⟨g, 0, none⟩) n cap, .slice (some A) m c]).run P w = .ok (.slice (some ⟨g', 0, none⟩) (n + m) cap') w' ∧ OwnC w' base g' (n + m) cap' (xs ++ news) ∧ w.grownBy w' (some g) := by
  have hcells : ∀ j u, news[j]? = some u → w.cell? (A.add j) = some u := by
    intro j u hu
    obtain ⟨ad', h, _, hc⟩ := hr.2 (by have := (List.getElem?_eq_some_iff.1 hu).1; rw [hr.1] at this; omega)
    injection h with h
    subst h
    exact hc j u hu
  have hlen : (xs ++ news).length = n + m := by rw [List.length_append, hown.len, hr.1]
  by_cases hroom : n + m ≤ cap
  · have hth : w.there g n news.length := fun j hj => by
      have := hown.there_ (n + j) (by rw [hr.1] at hj; omega)
      rwa [Nat.zero_add] at this
    have hrun := run_append_room_cells (P := P) w t ty e i ht hi g 0 n cap A m c news (by rw [hsize, hr.1]; omega) hcells h1 hroom (by rw [hsize]; simpa using fun j hj => (hth j hj).1) (by rw [hsize]; simpa using fun j hj => (hth j hj).2)
    rw [hsize, Nat.mul_one, Nat.zero_add] at hrun
    refine ⟨g, cap, _, hrun, ⟨hlen, hown.low, by rw [size_setCells]; exact hown.lt, hroom, fun j v hv => ?_, World.there_setCells hown.there_ g n news⟩, but_setCells (but_refl w g) n news⟩
    by_cases hj : j < n
    · rw [World.cell?_setCells_out g news n w _ (fun _ _ => Or.inl (by simp; exact hj))]
      rw [List.getElem?_append_left (by rw [hown.len]; exact hj)] at hv
      exact hown.at_ j v hv
    · rw [List.getElem?_append_right (by rw [hown.len]; omega), hown.len] at hv
      have hj2 := (List.getElem?_eq_some_iff.1 hv).1
      have hcc := World.cell?_setCells_in g news n w (fun i hi => (hth i hi).1) (j - n) hj2
      rw [show n + (j - n) = 0 + j by omega] at hcc
      rw [hcc, ← hv, List.getElem?_eq_getElem hj2]
  · obtain ⟨v', w', hrun, o1, o2⟩ := run_append_arg_grows (P := P) w t ty e i z 1 bytes ht hi hz hsize hby hzs (by decide) ⟨g, 0, none⟩ n cap xs (by rw [hown.len]; omega) (fun j u hu => by rw [Addr.add_mid]; exact hown.at_ j u hu) A m c news (by rw [hr.1]; omega) hcells (by omega) h63 hbytes
    obtain ⟨A', c', rfl⟩ := own_form o1
    rcases A' with _ | ad
    · exfalso
      have := own_none o1 rfl
      have := own_cap o1
      omega
    · have hz0 : ad = ⟨ad.block, 0, none⟩ := by
        rcases o1.2 with ⟨hv, _⟩ | ⟨g', cap', cur, hv, _⟩
        · cases hv
        · injection hv with ha _ _
          injection ha with ha
          rw [ha]
      rw [hz0] at hrun o1
      have oc := OwnC.own o1
      exact ⟨ad.block, c', w', hrun, ⟨oc.len, Nat.le_trans hbase oc.low, oc.lt, oc.cap_, oc.at_, oc.there_⟩, o2.but (some g)⟩

section
variable {P : Program} {ops : Array Oper} {rest : List Oper} {o : Oper} {a : Act} {w : World} {Q : Exit → Act → World → Prop}
theorem wpList_bytes_of (hgd : o.guard = none) (src dst e : TypeId) (x : Operand) (ho : o.op = .convert src dst x) (l : List UInt8) (hx : a.eval x = .string ⟨l.toArray⟩) {u : TypeDesc} (hs : P.underlying src = some u) (hd : P.underlying dst = some (.slice e)) (he : P.underlying e = some (.int .u8))
    (h : ∀ cap w', OwnC w' w.heap.size w.heap.size l.length cap (cb l) → Below w.heap.size w w' → wpList P ops Q rest (a.put o.dst (.slice (some ⟨w.heap.size, 0, none⟩) l.length cap)) w') : wpList P ops Q (o :: rest) a w := by
  refine wpList_plain hgd fun K hK => ?_
  obtain ⟨cap, w', hrun, r1, r2⟩ := run_bytes_of (P := P) w src dst e l hs hd he
  unfold Oper.wp execOp
  simp only [ho, hx, hrun, Sem.run_bind, Sem.run_pure, Result.andThen_ok]
  exact hK _ _ (h cap w' r1 r2)
theorem wpList_append_C (hgd : o.guard = none) (s x : Operand) (t : TypeId) (ho : o.op = .call { callee := .builtin .append, args := #[s, x], argTypes := #[t, t] })
    (base : Nat) (e : TypeId) (i : TypeInfo) (z : Value) (bytes : Nat) (ht : P.underlying t = some (.slice e)) (hi : P.info? e = some i) (hz : i.zero = some z)
    (hsize : i.size = 1) (hby : i.bytes = bytes) (hzs : z.cells.size = 1) (g n cap : Nat) (xs : List Value) (hs : a.eval s = .slice (some ⟨g, 0, none⟩) n cap) (hown : OwnC w base g n cap xs)
    (B : Nat) (A : Addr) (m c : Nat) (news : List Value) (hx : a.eval x = .slice (some A) m c) (hr : Sl w B (some A) m news) (h1 : ∀ u ∈ news, u.oneCell' = true) (h63 : n + m ≤ maxLen) (hbytes : (n + m) * bytes ≤ 140737488355328) (hbase : base ≤ w.heap.size)
    (h : ∀ g' cap' w', OwnC w' base g' (n + m) cap' (xs ++ news) → w.grownBy w' (some g) → wpList P ops Q rest (a.put o.dst (.slice (some ⟨g', 0, none⟩) (n + m) cap')) w') : wpList P ops Q (o :: rest) a w := by
  refine wpList_plain hgd fun K hK => ?_
  obtain ⟨g', cap', w', hrun, r1, r2⟩ := run_append_C (P := P) w base t o.type e i z bytes ht hi hz hsize hby hzs g n cap xs hown B A m c news hr h1 h63 hbytes hbase
  unfold Oper.wp execOp
  simp only [ho, resolve, invoke, builtin, Sem.run_bind, Sem.run_pure, Result.andThen_ok, List.map_toArray, List.map_cons, List.map_nil, hs, hx, hrun]
  exact hK _ _ (h g' cap' w' r1 r2)
end

end Go.Proofs.YtkkpdeembndneaaDoor
