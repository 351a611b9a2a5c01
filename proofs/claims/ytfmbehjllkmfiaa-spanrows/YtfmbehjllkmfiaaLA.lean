/- Words of memory for the proofs of this seat: a slice that reads as a list of cells, bytes as cells. No program is named here. -/
import Derived.WalkKit
import Derived.ProofKit
import Derived.WalkSpells
import Derived.WalkLawsBesides
import Derived.Maps.AppendAt
import Derived.Laws.AppendOwnNone
import Derived.Laws.CopyOwn
import Derived.Deep.AppendLies
import Derived.Deep.QuietTactic
import Derived.Deep.Draws
import Derived.BigQuiet
import Derived.Lib.Hide
import Derived.Laws.BytesArg
import Derived.OpenShut
import Derived.ShutString
import Derived.ChangeOld
import Derived.Below
import Derived.SizedLaws
import Derived.Deep.MidRow
import Derived.Deep.RegionHeld3
import Derived.StillTailTactics
namespace Go.Proofs.Ytfmbehjllkmfiaa
set_option maxRecDepth 100000
open Go.RowKit

/-- A byte as a cell. -/
def bc (b : UInt8) : Value := .int .u8 (b.toNat : Int)
/-- Bytes as cells. -/
def cb (l : List UInt8) : List Value := l.map bc

theorem cb_len (l : List UInt8) : (cb l).length = l.length := by simp [cb]
theorem cb_append (a b : List UInt8) : cb (a ++ b) = cb a ++ cb b := by simp [cb]
theorem cb_one (l : List UInt8) : ∀ u ∈ cb l, u.oneCell' = true := by
  intro u hu
  obtain ⟨b, _, rfl⟩ := List.mem_map.1 hu
  rfl
theorem cb_at {l : List UInt8} {j : Nat} (h : j < l.length) : (cb l)[j]? = some (.int .u8 (l[j].toNat : Int)) := by
  simp [cb, bc, List.getElem?_eq_getElem h]
theorem cb_inj {a b : List UInt8} (h : cb a = cb b) : a = b := by
  induction a generalizing b with
  | nil => cases b with
    | nil => rfl
    | cons y b => simp [cb] at h
  | cons x a ih => cases b with
    | nil => simp [cb] at h
    | cons y b =>
      simp only [cb, List.map_cons, List.cons.injEq, bc, Value.int.injEq, true_and] at h
      have hx : x = y := UInt8.toNat_inj.1 (by omega)
      rw [hx, ih (by simpa [cb, bc] using h.2)]

/-- The slice '.slice A n c' reads in w as the cells xs, in a block below B. -/
def Sl (w : World) (B : Nat) (A : Option Addr) (n : Nat) (xs : List Value) : Prop :=
  xs.length = n ∧ (0 < n → ∃ ad, A = some ad ∧ ad.block < B ∧ ∀ j u, xs[j]? = some u → w.cell? (ad.add j) = some u)

theorem add_block (a : Addr) (n : Nat) : (a.add n).block = a.block := by unfold Addr.add; split <;> rfl
theorem add_add (a : Addr) (i j : Nat) : (a.add i).add j = a.add (i + j) := by
  unfold Addr.add
  by_cases hi : i = 0
  · subst hi; simp
  · by_cases hj : j = 0
    · subst hj; simp [hi]
    · simp [hi, hj, Nat.add_assoc]

section
variable {w w' : World} {B B' n : Nat} {A : Option Addr} {xs : List Value}
theorem Sl.nil_ : Sl w B A 0 [] := ⟨rfl, fun h => absurd h (by omega)⟩
theorem Sl.map_ (h : Sl w B A n xs) (hk : ∀ p : Addr, p.block < B → w'.cell? p = w.cell? p) : Sl w' B A n xs :=
  ⟨h.1, fun hn => by
    obtain ⟨ad, e, hb, hc⟩ := h.2 hn
    exact ⟨ad, e, hb, fun j u hu => (hk _ (by rw [add_block]; exact hb)).trans (hc j u hu)⟩⟩
theorem Sl.up (h : Sl w B A n xs) (hB : B ≤ B') : Sl w B' A n xs :=
  ⟨h.1, fun hn => by
    obtain ⟨ad, e, hb, hc⟩ := h.2 hn
    exact ⟨ad, e, by omega, hc⟩⟩
theorem Sl.below (h : Sl w B A n xs) (hb : Below B w w') : Sl w' B A n xs := h.map_ fun _ hp => hb.cell hp
theorem Sl.grown (h : Sl w B A n xs) {row : Option Nat} (hg : w.grownBy w' row) (hB : B ≤ w.heap.size) (hr : ∀ g, row = some g → B ≤ g) : Sl w' B A n xs :=
  h.map_ fun p hp => World.cell?_of_block (hg.block p.block (by omega) (fun e => by have := hr _ e.symm; omega))
theorem Sl.drewN (h : Sl w B A n xs) (k : Nat) : Sl (w.drewN k) B A n xs := h
theorem Sl.alloc (h : Sl w B A n xs) (hB : B ≤ w.heap.size) (o : Obj) : Sl (w.alloc o) B A n xs := h.map_ fun p hp => World.cell?_alloc_lt w o p (by omega)
/-- What the call owns reads as it is owned. -/
theorem Sl.own {base : Nat} {e : TypeId} {c : Nat} (h : w.ownsRow base e 1 (.slice A n c) n xs) : Sl w w.heap.size A n xs := by
  refine ⟨by simpa using h.1, fun hn => ?_⟩
  obtain ⟨g, cap, hv, _, hlt⟩ := h.form hn
  have hA : A = some ⟨g, 0, none⟩ := by injection hv
  subst hA
  exact ⟨_, rfl, hlt, h.cells (g := g) rfl⟩
/-- A block that was just laid. -/
theorem Sl.new (w : World) (cs : Array Value) (t : TypeId) : Sl (w.alloc (.cells cs t)) (w.heap.size + 1) (some ⟨w.heap.size, 0, none⟩) cs.size cs.toList := by
  refine ⟨by simp, fun _ => ⟨_, rfl, Nat.lt_succ_self _, ?_⟩⟩
  exact World.news_of_block (heap_alloc_new w _)
/-- The byte at place j. -/
theorem Sl.byte {l : List UInt8} (h : Sl w B A n (cb l)) {j : Nat} (hj : j < l.length) : ∃ ad, A = some ad ∧ ad.block < B ∧ w.cell? (ad.add j) = some (.int .u8 (l[j].toNat : Int)) := by
  have hn := h.1
  rw [cb_len] at hn
  obtain ⟨ad, e, hb, hc⟩ := h.2 (by omega)
  exact ⟨ad, e, hb, hc j _ (cb_at hj)⟩
end

/-- 'string(b)' of bytes. -/
theorem run_string_of_sl {P : Program} {w : World} {B n : Nat} {A : Option Addr} {l : List UInt8} (h : Sl w B A n (cb l)) (src dst e : TypeId) (c : Nat)
    (hs : P.underlying src = some (.slice e)) (he : P.underlying e = some (.int .u8)) (hd : P.underlying dst = some .string) :
    (convert src dst (.slice A n c)).run P w = .ok (.string ⟨l.toArray⟩) w := by
  have hn := h.1
  rw [cb_len] at hn
  rcases A with _ | ad
  · have h0 : n = 0 := by
      rcases Nat.eq_zero_or_pos n with h0 | h0
      · exact h0
      · obtain ⟨ad, e, _⟩ := h.2 h0; cases e
    have hl : l = [] := List.eq_nil_of_length_eq_zero (by omega)
    subst hl
    rw [run_convert_bytes_nil w src e hs he n c dst hd]
    rfl
  · have hcells : ∀ j u, (cb l)[j]? = some u → w.cell? (ad.add j) = some u := by
      intro j u hu
      rcases Nat.eq_zero_or_pos n with h0 | h0
      · have hl : l = [] := List.eq_nil_of_length_eq_zero (by omega)
        subst hl
        simp [cb] at hu
      · obtain ⟨ad', e, _, hc⟩ := h.2 h0
        injection e with e
        subst e
        exact hc j u hu
    have hload := run_loadCells_list (P := P) w ad (cb l) hcells
    have hmap : cb l = (l.map fun b => (b.toNat : Int)).map (Value.int .u8) := by simp [cb, bc]
    rw [hmap] at hload
    have hload' : (loadCells ad n).run P w = .ok ((l.map fun b => (b.toNat : Int)).map (Value.int .u8)).toArray w := by simpa [hn] using hload
    rw [run_convert_bytes_string w src dst e _ n c hs he hd, run_bytesToString w _ n c _ hload', foldl_push_bytes]
    congr 2
    rw [List.map_map]
    have e : (l.map ((fun n : Int => UInt8.ofNat n.toNat) ∘ fun b => (b.toNat : Int))) = l := by
      rw [List.map_congr_left (g := id) (fun b _ => by simp)]
      simp
    rw [e]
    simp [ByteArray.empty, ByteArray.emptyWithCapacity]
    rfl

section
variable {P : Program}
/-- 'append(s, x...)', s owned by the call, x any slice that reads as cells, nil let in. -/
theorem run_append_sl (w : World) (base : Nat) (t ty e : TypeId) (i : TypeInfo) (z : Value) (bytes : Nat) (ht : P.underlying t = some (.slice e)) (hi : P.info? e = some i) (hz : i.zero = some z)
    (hsize : i.size = 1) (hby : i.bytes = bytes) (hzs : z.cells.size = 1)
    (v : Value) (n : Nat) (xs : List Value) (hown : w.ownsRow base e 1 v n xs)
    (B : Nat) (A : Option Addr) (m c : Nat) (news : List Value) (hr : Sl w B A m news) (hc : A = none → c = 0) (h1 : ∀ u ∈ news, u.oneCell' = true)
    (h63 : n + m ≤ maxLen) (hbytes : (n + m) * bytes ≤ 140737488355328) (hbase : base ≤ w.heap.size) :
    ∃ v' w', (Builtin.append_ #[t, t] ty #[v, .slice A m c]).run P w = .ok v' w' ∧ w'.ownsRow base e 1 v' (n + m) (xs ++ news) ∧ w.grownBy w' v.ownBlock ∧
      (v'.ownBlock = v.ownBlock ∨ v'.ownBlock = some w.heap.size) := by
  rcases A with _ | ad
  · have hm : m = 0 := by
      rcases Nat.eq_zero_or_pos m with h0 | h0
      · exact h0
      · obtain ⟨ad, h, _⟩ := hr.2 h0; cases h
    subst hm
    have hn : news = [] := List.eq_nil_of_length_eq_zero hr.1
    subst hn
    obtain rfl := hc rfl
    exact ⟨v, w, run_append_owned_none (P := P) (w := w) base t ty e i 1 ht hi v n xs hown, by simpa using hown, World.grownBy.refl w _, .inl rfl⟩
  · have hcells : ∀ j u, news[j]? = some u → w.cell? (ad.add j) = some u := by
      intro j u hu
      rcases Nat.eq_zero_or_pos m with h0 | h0
      · have hn : news = [] := List.eq_nil_of_length_eq_zero (by rw [hr.1]; exact h0)
        subst hn
        simp at hu
      · obtain ⟨ad', h, _, hc⟩ := hr.2 h0
        injection h with h
        subst h
        exact hc j u hu
    obtain ⟨v', w', hrun, h2, h3, _, h5⟩ := run_append_own_at (P := P) w base t ty e i z 1 bytes ht hi hz hsize hby hzs (by omega) v n xs hown ad m c news (by rw [hr.1]; omega) hcells h1 h63 hbytes hbase
    exact ⟨v', w', hrun, h2, h3, h5⟩

theorem wpList_append_sl (w : World) {ops : Array Oper} {rest : List Oper} {o : Oper} {a : Act} {Q : Exit → Act → World → Prop} (hgd : o.guard = none) (s x : Operand) (t : TypeId)
    (ho : o.op = .call { callee := .builtin .append, args := #[s, x], argTypes := #[t, t] })
    (base : Nat) (e : TypeId) (i : TypeInfo) (z : Value) (bytes : Nat) (ht : P.underlying t = some (.slice e)) (hi : P.info? e = some i) (hz : i.zero = some z)
    (hsize : i.size = 1) (hby : i.bytes = bytes) (hzs : z.cells.size = 1)
    (v : Value) (n : Nat) (xs : List Value) (hs : a.eval s = v) (hown : w.ownsRow base e 1 v n xs)
    (B : Nat) (A : Option Addr) (m c : Nat) (news : List Value) (hx : a.eval x = .slice A m c) (hr : Sl w B A m news) (hc : A = none → c = 0) (h1 : ∀ u ∈ news, u.oneCell' = true)
    (h63 : n + m ≤ maxLen) (hbytes : (n + m) * bytes ≤ 140737488355328) (hbase : base ≤ w.heap.size)
    (h : ∀ v' w', w'.ownsRow base e 1 v' (n + m) (xs ++ news) → w.grownBy w' v.ownBlock → (v'.ownBlock = v.ownBlock ∨ v'.ownBlock = some w.heap.size) → wpList P ops Q rest (a.put o.dst v') w') : wpList P ops Q (o :: rest) a w := by
  refine wpList_plain hgd fun K hK => ?_
  obtain ⟨v', w', hrun, h2, h3, h4⟩ := run_append_sl (P := P) w base t o.type e i z bytes ht hi hz hsize hby hzs v n xs hown B A m c news hr hc h1 h63 hbytes hbase
  unfold Oper.wp execOp
  simp only [ho, resolve, invoke, builtin, Sem.run_bind, Sem.run_pure, Result.andThen_ok, List.map_toArray, List.map_cons, List.map_nil, hs, hx, hrun]
  exact hK _ _ (h v' w' h2 h3 h4)
end

/-- One call behind another. -/
theorem next {w a b : World} (h : Below w.heap.size w a) (k : Below a.heap.size a b) : Below w.heap.size w b := h.trans (k.mono h.size)
/-- What is owned is a slice. -/
theorem own_form {w : World} {base : Nat} {e : TypeId} {v : Value} {n : Nat} {xs : List Value} (h : w.ownsRow base e 1 v n xs) : ∃ A c, v = .slice A n c := by
  rcases h.2 with ⟨rfl, rfl⟩ | ⟨g, cap, cur, rfl, _⟩
  · exact ⟨none, 0, rfl⟩
  · exact ⟨_, cap, rfl⟩
theorem own_none {w : World} {base : Nat} {e : TypeId} {A : Option Addr} {n c : Nat} {xs : List Value} (h : w.ownsRow base e 1 (.slice A n c) n xs) : A = none → c = 0 := by
  rintro rfl
  rcases h.2 with ⟨h, _⟩ | ⟨g, cap, cur, h, _⟩
  · injection h
  · injection h with h; cases h
/-- A cell of what is owned is there, and may be written. -/
theorem own_cell {w : World} {base : Nat} {e : TypeId} {g n cap : Nat} {xs : List Value} (h : w.ownsRow base e 1 (.slice (some ⟨g, 0, none⟩) n cap) n xs) {k : Nat} (hk : k < n) :
    ∃ u, w.cell? ⟨g, k, none⟩ = some u := by
  have h1 := h.cellAt k (by omega)
  have hl := h.1
  rw [List.getElem?_eq_getElem (by omega)] at h1
  exact ⟨_, h1⟩
/-- Bytes in new memory: what a call gives that began in w, in the world w'. -/
structure NewBytes (E : TypeId) (w : World) (n : Nat) (l : List UInt8) (A : Option Addr) (c : Nat) (w' : World) : Prop where
  own : w'.ownsRow w.heap.size E 1 (.slice A n c) n (cb l)
  below : Below w.heap.size w w'
/-- A call that gives n bytes l in new memory. -/
def RetBytes (E : TypeId) (w : World) (n : Nat) (l : List UInt8) (e : Ending) (w' : World) : Prop := ∃ A c, e = .returned (.slice A n c) ∧ NewBytes E w n l A c w'
theorem NewBytes.sl {E : TypeId} {w w' : World} {n : Nat} {l : List UInt8} {A : Option Addr} {c : Nat} (h : NewBytes E w n l A c w') : Sl w' w'.heap.size A n (cb l) := Sl.own h.own
theorem NewBytes.none_ {E : TypeId} {w w' : World} {n : Nat} {l : List UInt8} {A : Option Addr} {c : Nat} (h : NewBytes E w n l A c w') : A = none → c = 0 := own_none h.own
theorem retBytes {E : TypeId} {w w' : World} {n n' : Nat} {l l' : List UInt8} {v : Value} (hn : n' = n) (hl : l' = l) (h : w'.ownsRow w.heap.size E 1 v n' (cb l')) (hb : Below w.heap.size w w') : RetBytes E w n l (.returned v) w' := by
  subst hn; subst hl
  obtain ⟨A, c, rfl⟩ := own_form h
  exact ⟨A, c, rfl, h, hb⟩

theorem own_down {w : World} {base base' : Nat} {e : TypeId} {size n : Nat} {v : Value} {xs : List Value} (h : w.ownsRow base e size v n xs) (hb : base' ≤ base) : w.ownsRow base' e size v n xs := by
  obtain ⟨h1, h2⟩ := h
  refine ⟨h1, ?_⟩
  rcases h2 with h2 | ⟨g, cap, cur, hv, hg, r⟩
  · exact .inl h2
  · exact .inr ⟨g, cap, cur, hv, by omega, r⟩
/-- What is owned stays owned while nothing below the heap's size turns. -/
theorem own_below {w w' : World} {base : Nat} {e : TypeId} {size n : Nat} {v : Value} {xs : List Value} (h : w.ownsRow base e size v n xs) (hb : Below w.heap.size w w') : w'.ownsRow base e size v n xs := by
  obtain ⟨h1, h2⟩ := h
  refine ⟨h1, ?_⟩
  rcases h2 with h2 | ⟨g, cap, cur, hv, hg, hh, r⟩
  · exact .inl h2
  · refine .inr ⟨g, cap, cur, hv, hg, ?_, r⟩
    rw [hb.block g (by
      rcases Nat.lt_or_ge g w.heap.size with h | h
      · exact h
      · rw [Array.getElem?_eq_none h] at hh; cases hh)]
    exact hh
/-- A block known whole is owned; what is owned whole is a block. -/
theorem own_of_block {w : World} {base g n : Nat} {e : TypeId} {xs : List Value} (h : w.heap[g]? = some (.cells xs.toArray e (0, 0))) (hb : base ≤ g) (hn : xs.length = n) (hm : n ≤ maxLen) : w.ownsRow base e 1 (.slice (some ⟨g, 0, none⟩) n n) n xs :=
  ⟨by omega, .inr ⟨g, n, xs.toArray, rfl, hb, h, Nat.le_refl _, hm, by simp; omega, by rw [List.take_of_length_le (by simp; omega)]⟩⟩
theorem block_of_own {w : World} {base g n : Nat} {e : TypeId} {xs : List Value} (h : w.ownsRow base e 1 (.slice (some ⟨g, 0, none⟩) n n) n xs) : w.heap[g]? = some (.cells xs.toArray e (0, 0)) := by
  rcases h.2 with ⟨h, _⟩ | ⟨g', cap, cur, hv, _, hh, _, _, hs, ht⟩
  · injection h with h; cases h
  · injection hv with h1 h2 h3
    injection h1 with h1
    injection h1 with h1
    subst h1; subst h3
    rw [List.take_of_length_le (by simp; omega)] at ht
    rw [hh, ← ht]
/-- What a callee gives is what the caller gives. -/
theorem NewBytes.down {E : TypeId} {w w1 w' : World} {n : Nat} {l : List UInt8} {A : Option Addr} {c : Nat} (h : NewBytes E w1 n l A c w') (hb : Below w.heap.size w w1) : NewBytes E w n l A c w' :=
  ⟨own_down h.own hb.size, hb.trans (h.below.mono hb.size)⟩

/-- Behind 'append(s, x)' of one element, s owned by the call. -/
theorem below_app1 {B : Nat} {w wr w1 : World} {o : Obj} {e : TypeId} {size n : Nat} {v : Value} {xs : List Value} (hb : Below B w wr) (hB : B ≤ w.heap.size)
    (hown : wr.ownsRow B e size v n xs) (hg : (wr.alloc o).grownBy w1 v.ownBlock) : Below B w w1 :=
  (hb.alloc (Nat.le_trans hB hb.size) o).grown hg (by have := hb.size; simp; omega) (fun k hk => (hown.lt k hk).1)
/-- Behind 'append(s, x...)', s owned by the call. -/
theorem below_app {B : Nat} {w wr w1 : World} {e : TypeId} {size n : Nat} {v : Value} {xs : List Value} (hb : Below B w wr) (hB : B ≤ w.heap.size)
    (hown : wr.ownsRow B e size v n xs) (hg : wr.grownBy w1 v.ownBlock) : Below B w w1 :=
  hb.grown hg (by have := hb.size; omega) (fun k hk => (hown.lt k hk).1)

/-- 'copy(d, x)' as an equation for the walk: d a stretch of a block of the call's own, x any slice that reads as cells. -/
theorem run_copy_sl {P : Program} (w : World) (dT sT ty elem : TypeId) (hu : P.underlying dT = some (.slice elem)) (hsz : (P.info? elem).map (·.size) = some 1)
    (dp : Option Addr) (dLen dCap : Nat) (B' : Nat) (A : Option Addr) (m c : Nat) (xs : List Value) (hr : Sl w B' A m xs)
    (g off : Nat) (cur : List Value) (t : TypeId) (hg : w.heap[g]? = some (.cells cur.toArray t (0, 0))) (hdp : 0 < dLen → dp = some ⟨g, off, none⟩)
    (hfit : off + dLen ≤ cur.length) (h1 : ∀ v ∈ xs, v.oneCell' = true) (B : Nat) (w0 : World) (hb : Below B w0 w) (hBg : B ≤ g) :
    ∃ w', (Builtin.copy_ #[dT, sT] ty #[.slice dp dLen dCap, .slice A m c]).run P w = .ok (.int .i64 (Nat.min m dLen : Nat)) w' ∧
      Hid (w'.heap[g]? = some (.cells (splice cur off (xs.take dLen)).toArray t (0, 0))) ∧ Below B w0 w' := by
  have hlen : (xs.take dLen).length = Nat.min m dLen := by rw [List.length_take, hr.1, Nat.min_comm]
  by_cases h0 : Nat.min m dLen = 0
  · have hr0 := run_copy_none (P := P) w dT sT ty elem dp A dLen dCap m c hu hsz h0
    refine ⟨w, by rw [hr0, h0]; rfl, ?_, hb⟩
    have hx : xs.take dLen = [] := List.eq_nil_of_length_eq_zero (by omega)
    rw [hx]
    exact (show _ = _ by simpa [splice] using hg)
  · have hm : Nat.min m dLen ≤ m ∧ Nat.min m dLen ≤ dLen := ⟨Nat.min_le_left .., Nat.min_le_right ..⟩
    obtain ⟨ad, rfl, _, hc⟩ := hr.2 (by omega)
    obtain rfl := hdp (by omega)
    have hr1 := run_copy_row (P := P) w dT sT ty elem g off dLen dCap ad m c cur.toArray t (xs.take dLen) hu hsz hg hlen
      (fun j v hv => hc j v (by
        rcases Nat.lt_or_ge j dLen with h | h
        · rwa [List.getElem?_take_of_lt h] at hv
        · rw [List.getElem?_eq_none (by rw [List.length_take]; omega)] at hv; cases hv)) (by rw [hlen]; simp; omega) (fun v hv => h1 v (List.mem_of_mem_take hv))
    refine ⟨_, by rw [hr1, hlen]; rfl, ?_, below_setRow hb hBg _⟩
    have := setRow_heap w g cur.toArray (cur.toArray.toList.take off ++ xs.take dLen ++ cur.toArray.toList.drop (off + Nat.min m dLen)).toArray t (0, 0) hg
    exact (show _ = _ by rw [this]; unfold splice; rw [hlen]; simp)

theorem ret_bool {a b : Bool} (h : a = b) : Ending.returned (.bool a) = .returned (.bool b) := by rw [h]
theorem ret_int {k : IntKind} {a b : Int} (h : a = b) : Ending.returned (.int k a) = .returned (.int k b) := by rw [h]

end Go.Proofs.Ytfmbehjllkmfiaa

namespace Go.Proofs.Ytfmbehjllkmfiaa
set_option maxRecDepth 100000
open Go.RowKit

/-- A word (below 2^32) rotated left by k places, k at most 32. -/
def rotN (x k : Nat) : Nat := x * 2 ^ k % 4294967296 + x / 2 ^ (32 - k)
/-- One step of the reference's rotation. -/
def dbl (x : Nat) : Nat := (x * 2 + x / 2147483648) % 4294967296

theorem rotN_or (x k : Nat) (hx : x < 4294967296) (hk : k ≤ 32) : (x * 2 ^ k % 4294967296) ||| (x / 2 ^ (32 - k)) = rotN x k := by
  unfold rotN
  have hp : (4294967296 : Nat) = 2 ^ (32 - k) * 2 ^ k := by rw [← Nat.pow_add, show 32 - k + k = 32 by omega]
  have e : x * 2 ^ k % 4294967296 = 2 ^ k * (x % 2 ^ (32 - k)) := by
    rw [hp, Nat.mul_mod_mul_right, Nat.mul_comm]
  have hq : x / 2 ^ (32 - k) < 2 ^ k := by
    rw [Nat.div_lt_iff_lt_mul (Nat.two_pow_pos _), Nat.mul_comm, ← hp]; exact hx
  rw [e, Nat.two_pow_add_eq_or_of_lt hq]

theorem rotN_lt (x k : Nat) (hx : x < 4294967296) (hk : k ≤ 32) : rotN x k < 4294967296 := by
  rw [← rotN_or x k hx hk]
  have h1 : x * 2 ^ k % 4294967296 < 2 ^ 32 := Nat.mod_lt _ (by decide)
  have h2 : x / 2 ^ (32 - k) < 2 ^ 32 := Nat.lt_of_le_of_lt (Nat.div_le_self _ _) hx
  exact Nat.or_lt_two_pow h1 h2

theorem rotN_zero (x : Nat) (hx : x < 4294967296) : rotN x 0 = x := by
  unfold rotN
  simp only [Nat.pow_zero, Nat.mul_one, Nat.sub_zero]
  omega

theorem rotN_of (q r k m : Nat) (hk : k + m = 32) (hr : r < 2 ^ m) : rotN (q * 2 ^ m + r) k = r * 2 ^ k + q := by
  unfold rotN
  have hp : (4294967296 : Nat) = 2 ^ m * 2 ^ k := by rw [← Nat.pow_add, show m + k = 32 by omega]
  rw [show 32 - k = m by omega, hp, Nat.mul_mod_mul_right]
  have e1 : (q * 2 ^ m + r) % 2 ^ m = r := by rw [Nat.mul_comm, Nat.mul_add_mod, Nat.mod_eq_of_lt hr]
  have e2 : (q * 2 ^ m + r) / 2 ^ m = q := by rw [Nat.mul_comm, Nat.mul_add_div (Nat.two_pow_pos m), Nat.div_eq_of_lt hr, Nat.add_zero]
  rw [e1, e2]

theorem rotN_succ (x k : Nat) (hx : x < 4294967296) (hk : k < 32) : rotN x (k + 1) = dbl (rotN x k) := by
  obtain ⟨m, hm⟩ : ∃ m, k + 1 + m = 32 := ⟨31 - k, by omega⟩
  have hM : 2 ^ (m + 1) = 2 * 2 ^ m := by rw [Nat.pow_succ]; omega
  have hP : 2 ^ (k + 1) = 2 * 2 ^ k := by rw [Nat.pow_succ]; omega
  have hPM : 2 ^ k * 2 ^ m = 2147483648 := by rw [← Nat.pow_add, show k + m = 31 by omega]
  have hpos := Nat.two_pow_pos m
  -- x = Q * 2^m + R, Q = 2 q + b
  have hR : x % 2 ^ m < 2 ^ m := Nat.mod_lt _ hpos
  have hx0 : x = x / 2 ^ m * 2 ^ m + x % 2 ^ m := by rw [Nat.mul_comm]; exact (Nat.div_add_mod x (2 ^ m)).symm
  have hQ : x / 2 ^ m < 2 ^ (k + 1) := by
    rw [Nat.div_lt_iff_lt_mul hpos, hP, Nat.mul_assoc, hPM]; exact hx
  generalize x / 2 ^ m = Q at *
  generalize x % 2 ^ m = R at *
  have hb : Q / 2 * 2 + Q % 2 = Q := by omega
  have hq : Q / 2 < 2 ^ k := by omega
  have hb2 : Q % 2 < 2 := by omega
  generalize Q / 2 = q at *
  generalize Q % 2 = b at *
  have e1 : rotN x (k + 1) = R * 2 ^ (k + 1) + Q := by rw [hx0]; exact rotN_of Q R (k + 1) m (by omega) hR
  have hx1 : x = q * 2 ^ (m + 1) + (b * 2 ^ m + R) := by
    rw [hx0, ← hb, hM, Nat.add_mul, Nat.mul_assoc, Nat.add_assoc]
  have hr1 : b * 2 ^ m + R < 2 ^ (m + 1) := by
    rw [hM]
    have : b = 0 ∨ b = 1 := by omega
    rcases this with rfl | rfl <;> omega
  have e2 : rotN x k = (b * 2 ^ m + R) * 2 ^ k + q := by rw [hx1]; exact rotN_of q _ k (m + 1) (by omega) hr1
  have hT : R * 2 ^ k + 2 ^ k ≤ 2147483648 := by
    rw [← hPM, Nat.mul_comm (2 ^ k)]
    calc R * 2 ^ k + 2 ^ k = (R + 1) * 2 ^ k := by rw [Nat.add_mul, Nat.one_mul]
      _ ≤ 2 ^ m * 2 ^ k := Nat.mul_le_mul_right _ hR
  rw [e1, e2, hP, Nat.add_mul, Nat.mul_assoc b, Nat.mul_comm (2 ^ m), hPM, ← Nat.mul_assoc, Nat.mul_comm R 2, Nat.mul_assoc]
  generalize R * 2 ^ k = T at *
  have hj : T + q < 2147483648 := by omega
  clear e1 e2 hx0 hx1 hr1 hT hR hPM hP hM hQ hq
  unfold dbl
  have : b = 0 ∨ b = 1 := by omega
  rcases this with rfl | rfl
  · rw [Nat.zero_mul, Nat.zero_add, Nat.div_eq_of_lt hj, Nat.mod_eq_of_lt (by omega)]; omega
  · rw [Nat.one_mul, Nat.add_assoc, show (2147483648 + (T + q)) / 2147483648 = 1 by omega]; omega

/-- What bytes are worth, the highest first. -/
def val (l : List UInt8) : Nat := l.foldl (fun n b => n * 256 + b.toNat) 0
theorem val_nil : val [] = 0 := rfl
theorem val_snoc (l : List UInt8) (b : UInt8) : val (l ++ [b]) = val l * 256 + b.toNat := by simp [val, List.foldl_append]
theorem take_snoc (l : List UInt8) (k : Nat) (h : k < l.length) : l.take (k + 1) = l.take k ++ [l[k]] := by
  rw [List.take_succ_eq_append_getElem h]
theorem val_take (l : List UInt8) (k : Nat) (h : k < l.length) : val (l.take (k + 1)) = val (l.take k) * 256 + l[k].toNat := by
  rw [take_snoc l k h, val_snoc]
theorem val_lt (l : List UInt8) : val l < 256 ^ l.length := by
  induction hn : l.length generalizing l with
  | zero => rw [List.eq_nil_of_length_eq_zero hn]; decide
  | succ n ih =>
    obtain ⟨b, r, e⟩ : ∃ b r, l = r ++ [b] := ⟨l.getLast (by intro h; simp [h] at hn), l.dropLast, (List.dropLast_concat_getLast _).symm⟩
    subst e
    rw [val_snoc]
    have h1 := ih r (by simpa using hn)
    have h2 : b.toNat < 256 := b.toNat_lt
    rw [Nat.pow_succ]
    omega
theorem val_take_lt (l : List UInt8) (k : Nat) (h : k ≤ l.length) : val (l.take k) < 256 ^ k := by
  have := val_lt (l.take k)
  rwa [List.length_take, Nat.min_eq_left h] at this

/-- What Load gives, and its error. -/
def loadV (l : List UInt8) (low : Bool) : Nat := if l.length = 4 then val (if low then l.reverse else l) else 0
def loadE (l : List UInt8) : Int := if l.length = 4 then 0 else 1
def longV (l : List UInt8) : Nat := if l.length = 8 then val l else 0
def longE (l : List UInt8) : Int := if l.length = 8 then 0 else 1
theorem loadV_lt (l : List UInt8) (low : Bool) : loadV l low < 4294967296 := by
  unfold loadV
  split
  · rename_i h
    have h1 := val_lt l
    have h2 := val_lt l.reverse
    rw [h] at h1
    rw [List.length_reverse, h] at h2
    cases low <;> simp <;> omega
  · decide

/-- By how many places the byte i stands. -/
def shf (i : Nat) (low : Bool) : Nat := if low then 8 * i else 8 * (3 - i)
theorem shf_le (i : Nat) (low : Bool) (h : i ≤ 3) : shf i low ≤ 24 := by unfold shf; split <;> omega
/-- The word behind k bytes. -/
def ldTo (l : List UInt8) (low : Bool) : Nat → Nat
  | 0 => 0
  | k + 1 => ldTo l low k ||| (l.getD k 0).toNat * 2 ^ shf k low % 4294967296
theorem ldTo_lt (l : List UInt8) (low : Bool) (k : Nat) : ldTo l low k < 4294967296 := by
  induction k with
  | zero => exact (by decide : (0 : Nat) < 4294967296)
  | succ k ih =>
    unfold ldTo
    exact Nat.or_lt_two_pow (n := 32) ih (Nat.mod_lt _ (by decide))
theorem or_add (i a b : Nat) (h : b < 2 ^ i) : 2 ^ i * a ||| b = 2 ^ i * a + b := (Nat.two_pow_add_eq_or_of_lt h a).symm
theorem or_add8 (a b : Nat) (h : b < 256) : a * 256 ||| b = a * 256 + b := by rw [Nat.mul_comm]; exact or_add 8 a b h
theorem or_add16 (a b : Nat) (h : b < 65536) : a * 65536 ||| b = a * 65536 + b := by rw [Nat.mul_comm]; exact or_add 16 a b h
theorem or_add24 (a b : Nat) (h : b < 16777216) : a * 16777216 ||| b = a * 16777216 + b := by rw [Nat.mul_comm]; exact or_add 24 a b h
theorem ldTo_four (l : List UInt8) (low : Bool) (h : l.length = 4) : ldTo l low 4 = loadV l low := by
  obtain ⟨a, b, c, d, rfl⟩ : ∃ a b c d, l = [a, b, c, d] := by
    match l, h with
    | [a, b, c, d], _ => exact ⟨a, b, c, d, rfl⟩
  have ha : a.toNat < 256 := a.toNat_lt
  have hb : b.toNat < 256 := b.toNat_lt
  have hc : c.toNat < 256 := c.toNat_lt
  have hd : d.toNat < 256 := d.toNat_lt
  have m0 : ∀ x : Nat, x < 4294967296 → x % 4294967296 = x := fun x hx => Nat.mod_eq_of_lt hx
  cases low
  · have e : ldTo [a, b, c, d] false 4 = (((0 ||| a.toNat * 16777216 % 4294967296) ||| b.toNat * 65536 % 4294967296) ||| c.toNat * 256 % 4294967296) ||| d.toNat * 1 % 4294967296 := rfl
    rw [e, m0 _ (by omega), m0 _ (by omega), m0 _ (by omega), m0 _ (by omega), Nat.zero_or, Nat.mul_one, or_add24 _ _ (by omega)]
    rw [show a.toNat * 16777216 + b.toNat * 65536 = (a.toNat * 256 + b.toNat) * 65536 by omega, or_add16 _ _ (by omega)]
    rw [show (a.toNat * 256 + b.toNat) * 65536 + c.toNat * 256 = ((a.toNat * 256 + b.toNat) * 256 + c.toNat) * 256 by omega, or_add8 _ _ (by omega)]
    simp [loadV, val]
  · have e : ldTo [a, b, c, d] true 4 = (((0 ||| a.toNat * 1 % 4294967296) ||| b.toNat * 256 % 4294967296) ||| c.toNat * 65536 % 4294967296) ||| d.toNat * 16777216 % 4294967296 := rfl
    rw [e, m0 _ (by omega), m0 _ (by omega), m0 _ (by omega), m0 _ (by omega), Nat.zero_or, Nat.mul_one, Nat.or_comm a.toNat, or_add8 _ _ (by omega),
      Nat.or_comm _ (c.toNat * 65536), or_add16 _ _ (by omega), Nat.or_comm _ (d.toNat * 16777216), or_add24 _ _ (by omega)]
    simp [loadV, val]
    omega

/-- A number's lowest k bytes, the lowest first. -/
def le (n : Nat) : Nat → List UInt8
  | 0 => []
  | k + 1 => le n k ++ [UInt8.ofNat (n / 256 ^ k % 256)]
theorem le_len (n k : Nat) : (le n k).length = k := by
  induction k with
  | zero => rfl
  | succ k ih => simp [le, ih]
theorem le_at (n k i : Nat) (h : i < k) : (le n k)[i]? = some (UInt8.ofNat (n / 256 ^ i % 256)) := by
  induction k with
  | zero => omega
  | succ k ih =>
    unfold le
    by_cases hi : i < k
    · rw [List.getElem?_append_left (by rw [le_len]; exact hi)]; exact ih hi
    · obtain rfl : i = k := by omega
      rw [List.getElem?_append_right (by rw [le_len]; omega), le_len]
      simp
/-- A word's four bytes. -/
def stored (x : Nat) (low : Bool) : List UInt8 := if low then le x 4 else (le x 4).reverse
theorem stored_len (x : Nat) (low : Bool) : (stored x low).length = 4 := by unfold stored; split <;> simp [le_len]
theorem stored_at (x : Nat) (low : Bool) (i : Nat) (h : i < 4) : (stored x low)[i]? = some (UInt8.ofNat (x / 2 ^ shf i low % 256)) := by
  have hp : ∀ j, (256 : Nat) ^ j = 2 ^ (8 * j) := fun j => by rw [Nat.pow_mul]
  unfold stored shf
  cases low
  · simp only [Bool.false_eq_true, if_false]
    rw [List.getElem?_reverse (by rw [le_len]; exact h), le_len, le_at _ _ _ (by omega), hp]
  · simp only [if_true]
    rw [le_at _ _ _ h, hp]
/-- The bytes while they are written, k of them so far. -/
def upTo (l : List UInt8) (k : Nat) : List UInt8 := l.take k ++ List.replicate (l.length - k) 0
theorem upTo_zero (l : List UInt8) : upTo l 0 = List.replicate l.length 0 := by simp [upTo]
theorem upTo_all (l : List UInt8) : upTo l l.length = l := by simp [upTo]
theorem upTo_len (l : List UInt8) (k : Nat) (h : k ≤ l.length) : (upTo l k).length = l.length := by simp [upTo]; omega
theorem upTo_set (l : List UInt8) (k : Nat) (b : UInt8) (h : l[k]? = some b) : (upTo l k).set k b = upTo l (k + 1) := by
  have hk : k < l.length := by
    rcases Nat.lt_or_ge k l.length with h' | h'
    · exact h'
    · rw [List.getElem?_eq_none h'] at h; cases h
  have hb : l[k] = b := by rw [List.getElem?_eq_getElem hk] at h; injection h
  unfold upTo
  have ht : (l.take k).length = k := by rw [List.length_take, Nat.min_eq_left (by omega)]
  rw [take_snoc l k hk, hb, List.append_assoc, List.set_append_right _ _ (by omega), ht, Nat.sub_self]
  congr 1
  rw [show l.length - k = (l.length - (k + 1)) + 1 by omega, List.replicate_succ]
  rfl

/-- A number's eight bytes, the highest first. -/
def told8 (n : Nat) : List UInt8 := (le n 8).reverse
theorem told8_len (n : Nat) : (told8 n).length = 8 := by unfold told8; simp [le_len]
theorem told8_at (n i : Nat) (h : i < 8) : (told8 n)[i]? = some (UInt8.ofNat (n / 2 ^ (8 * (7 - i)) % 256)) := by
  have hp : ∀ j, (256 : Nat) ^ j = 2 ^ (8 * j) := fun j => by rw [Nat.pow_mul]
  unfold told8
  rw [List.getElem?_reverse (by rw [le_len]; exact h), le_len, le_at _ _ _ (by omega), hp]

/-- Bytes filled up, and the error. -/
def fillZ (n size : Nat) : Nat := (size - n % size) % size
def fillL (l : List UInt8) (size : Int) : List UInt8 := if 1 ≤ size ∧ size ≤ 4096 then l ++ List.replicate (fillZ l.length size.toNat) 0 else []
def fillE (size : Int) : Int := if 1 ≤ size ∧ size ≤ 4096 then 0 else 1

theorem val_cons (b : UInt8) (l : List UInt8) : val (b :: l) = b.toNat * 256 ^ l.length + val l := by
  induction hn : l.length generalizing l with
  | zero => rw [List.eq_nil_of_length_eq_zero hn]; simp [val]
  | succ n ih =>
    obtain ⟨c, r, rfl⟩ : ∃ c r, l = r ++ [c] := ⟨l.getLast (by intro h; simp [h] at hn), l.dropLast, (List.dropLast_concat_getLast _).symm⟩
    rw [← List.cons_append, val_snoc, val_snoc, ih r (by simpa using hn), Nat.pow_succ, Nat.add_mul, Nat.mul_assoc, Nat.add_assoc]
theorem val_le (n k : Nat) : val (le n k).reverse = n % 256 ^ k := by
  induction k with
  | zero => simp [le, val, Nat.mod_one]
  | succ k ih =>
    rw [le, List.reverse_append, List.reverse_singleton, List.singleton_append, val_cons, List.length_reverse, le_len, ih, Nat.mod_pow_succ]
    simp only [UInt8.toNat_ofNat']
    rw [Nat.mod_eq_of_lt (show n / 256 ^ k % 256 < 2 ^ 8 from Nat.mod_lt _ (by decide)), Nat.mul_comm, Nat.add_comm]
theorem load_stored (x : Nat) (low : Bool) (h : x < 4294967296) : loadV (stored x low) low = x := by
  unfold loadV
  rw [if_pos (stored_len x low)]
  have hv := val_le x 4
  rw [Nat.mod_eq_of_lt (show x < 256 ^ 4 by omega)] at hv
  cases low <;> simp [stored, hv]
theorem load_storedE (x : Nat) (low : Bool) : loadE (stored x low) = 0 := by unfold loadE; rw [if_pos (stored_len x low)]
theorem long_told (x : Nat) (h : x < 18446744073709551616) : longV (told8 x) = x := by
  unfold longV
  rw [if_pos (told8_len x)]
  have hv := val_le x 8
  rw [Nat.mod_eq_of_lt (show x < 256 ^ 8 by omega)] at hv
  exact hv
theorem long_toldE (x : Nat) : longE (told8 x) = 0 := by unfold longE; rw [if_pos (told8_len x)]
theorem rotN_add (x k j : Nat) (hx : x < 4294967296) (h : k + j ≤ 32) : rotN (rotN x k) j = rotN x (k + j) := by
  induction j with
  | zero => exact rotN_zero _ (rotN_lt x k hx (by omega))
  | succ j ih => rw [rotN_succ _ _ (rotN_lt x k hx (by omega)) (by omega), ih (by omega), ← Nat.add_assoc, rotN_succ x (k + j) hx (by omega)]
theorem rotN_all (x : Nat) : rotN x 32 = x := by
  unfold rotN
  simp only [Nat.sub_self, Nat.pow_zero, Nat.div_one]
  omega

end Go.Proofs.Ytfmbehjllkmfiaa

namespace Go.Proofs.Ytfmbehjllkmfiaa
set_option maxRecDepth 100000
open Go.ChangeShapes Go.WideShapes Go.ChangeAt Go.RowKit

/-- What a walk is told of bytes that came in. -/
structure InBytes (w : World) (A : Option Addr) (n c : Nat) (l : List UInt8) : Prop where
  sl : Sl w w.heap.size A n (cb l)
  len : n = l.length
  cap : n ≤ c
  none_ : A = none → c = 0
  room : c ≤ 140737488351232

theorem cells_of_ints (zs : List Int) (h : ∀ n ∈ zs, (Lit.int .u8 n).wf = true) : ∃ l : List UInt8, zs.map (Value.int .u8) = cb l := by
  induction zs with
  | nil => exact ⟨[], rfl⟩
  | cons z zs ih =>
    obtain ⟨l, hl⟩ := ih (fun n hn => h n (List.mem_cons_of_mem _ hn))
    obtain ⟨h0, h1⟩ := bounds_u8 (h z (List.mem_cons_self ..))
    refine ⟨UInt8.ofNat z.toNat :: l, ?_⟩
    simp only [List.map_cons, hl, cb, bc]
    congr 2
    rw [UInt8.toNat_ofNat_of_lt' (by simp [UInt8.size]; omega)]
    omega

theorem open_bytes {H : Type} {enc : TypeId × Value → H} {P : Program} {W : World} {t e : TypeId} {A : Option Addr} {len cap : Nat} {d : DataW H} {p : List MemPlace} {ts : List TypeId} {ds : List (DataW H)} {j : Nat}
    (ht : P.underlying t = some (.slice e)) (he : P.underlying e = some (.int .u8)) (hc : P.cellsOf e = 1) (hb : P.bytesOf e = 1)
    (h0 : DataW.Trod enc P W 0 (fun _ => true) true t (.slice A len cap) d p) (lt0 : ∀ x ∈ p, x.block < W.heap.size)
    (hsz : (DataW.weightsEach P ts ds).all (· ≤ reachBytes) = true) (htj : ts[j]? = some t) (hdj : ds[j]? = some d) :
    ∃ l : List UInt8, InBytes W A len cap l := by
  obtain ⟨fuel, hf⟩ := h0
  rcases open_ints ht he hc hf with ⟨hcs, hx⟩ | ⟨a, l, c, zs, hcs, _, hl, hm, hz, hx, hcell, hwz⟩
  · simp [Value.cells] at hcs
    obtain ⟨rfl, rfl, rfl⟩ := hcs
    exact ⟨[], Sl.nil_, rfl, Nat.le_refl _, fun _ => rfl, by omega⟩
  · simp [Value.cells] at hcs
    obtain ⟨rfl, rfl, rfl⟩ := hcs
    simp only [Prod.mk.injEq] at hx
    obtain ⟨rfl, rfl⟩ := hx
    simp only [if_true] at hz
    have hr := sized_slice hsz htj hdj ht
    rw [hb] at hr
    simp only [lits, List.length_map, List.length_take, List.length_drop, reachBytes] at hr
    obtain ⟨l, hl'⟩ := cells_of_ints (zs.take len) (fun n hn => hwz n (List.mem_of_mem_take hn))
    have hlen : len = l.length := by
      have := congrArg List.length hl'
      rw [cb_len, List.length_map, List.length_take] at this
      omega
    refine ⟨l, ⟨by rw [cb_len]; exact hlen.symm, fun hn => ⟨_, rfl, ?_, ?_⟩⟩, hlen, hl, (fun h => by cases h), by omega⟩
    · exact lt0 (.cell a.block a.off) (MemPlace.mem_row.2 ⟨0, by omega, by simp⟩)
    · intro i u hu
      rw [← hl'] at hu
      have hi : i < len := by
        rcases Nat.lt_or_ge i len with h | h
        · exact h
        · rw [List.getElem?_eq_none (by simp; omega)] at hu; cases hu
      have := hcell i (by omega)
      rw [this]
      rw [List.getElem?_map, List.getElem?_take_of_lt hi] at hu
      simp only [Option.map_eq_some_iff] at hu
      obtain ⟨z, hz', rfl⟩ := hu
      rw [List.getD_eq_getElem?_getD, hz']
      rfl

end Go.Proofs.Ytfmbehjllkmfiaa

namespace Go.Proofs.Ytfmbehjllkmfiaa
set_option maxRecDepth 100000
open Go.RowKit

/-- The block g holds just the cells cs (of type t), and may be written. -/
def Bl (w : World) (g : Nat) (cs : List Value) (t : TypeId) : Prop := w.heap[g]? = some (.cells cs.toArray t (0, 0))
section
variable {w w' w0 : World} {g : Nat} {cs : List Value} {t : TypeId}
theorem Bl.lt (h : Bl w g cs t) : g < w.heap.size := (Array.getElem?_eq_some_iff.1 h).1
theorem Bl.cell (h : Bl w g cs t) (j : Nat) : w.cell? ⟨g, j, none⟩ = cs[j]? := by rw [cell_of_row w g j _ t _ h]; simp
theorem Bl.frozen (h : Bl w g cs t) (j : Nat) : w.frozen? ⟨g, j, none⟩ = false := frozen_of_row w g j _ t h
theorem Bl.range (h : Bl w g cs t) (o n : Nat) : w.rangeAt g o ((cs.drop o).take n) := fun j v hv => by
  rw [h.cell, ← hv, List.getElem?_take]
  split
  · rw [List.getElem?_drop]
  · rename_i hn; rw [List.getElem?_take, if_neg hn] at hv; cases hv
theorem Bl.whole (h : Bl w g cs t) : w.rangeAt g 0 cs := fun j v hv => by rw [h.cell, Nat.zero_add]; exact hv
theorem Bl.there_ (h : Bl w g cs t) {o n : Nat} (hn : o + n ≤ cs.length) : w.there g o n := fun j hj => ⟨by rw [h.cell, List.getElem?_eq_getElem (by omega)]; rfl, h.frozen _⟩
theorem Bl.sl (h : Bl w g cs t) {o n : Nat} {xs : List Value} (hx : xs = (cs.drop o).take n) (hn : o + n ≤ cs.length) : Sl w (g + 1) (some ⟨g, o, none⟩) n xs := by
  subst hx
  refine ⟨by simp; omega, fun _ => ⟨_, rfl, Nat.lt_succ_self _, fun j u hu => ?_⟩⟩
  rw [Addr.add_mid]
  exact h.range o n j u hu
theorem Bl.keep (h : Bl w g cs t) (hk : w'.heap[g]? = w.heap[g]?) : Bl w' g cs t := by unfold Bl; rw [hk]; exact h
theorem Bl.below (h : Bl w g cs t) {B : Nat} (hb : Below B w w') (hg : g < B) : Bl w' g cs t := h.keep (hb.block g hg)
theorem Bl.next (h : Bl w g cs t) (hb : Below w.heap.size w w') : Bl w' g cs t := h.below hb h.lt
theorem Bl.grown (h : Bl w g cs t) {row : Option Nat} (hg : w.grownBy w' row) (hr : row ≠ some g) : Bl w' g cs t := h.keep (hg.block g h.lt (fun e => hr e.symm))
theorem Bl.alloc (h : Bl w g cs t) (o : Obj) : Bl (w.alloc o) g cs t := h.keep (Below.heap_alloc w o g h.lt)
theorem Bl.drew (h : Bl w g cs t) : Bl w.drew g cs t := h
theorem Bl.drewN (h : Bl w g cs t) (n : Nat) : Bl (w.drewN n) g cs t := h
theorem Bl.new (w : World) (cs : List Value) (t : TypeId) : Bl (w.alloc (.cells cs.toArray t)) w.heap.size cs t := heap_alloc_new w _
theorem Bl.newA (w : World) (cs : Array Value) (t : TypeId) : Bl (w.alloc (.cells cs t)) w.heap.size cs.toList t := heap_alloc_new w _
theorem Bl.set (h : Bl w g cs t) (i : Nat) (v : Value) : Bl (w.setCell ⟨g, i, none⟩ v) g (cs.set i v) t := by
  have := heap_setCell_same w g i cs.toArray t v h
  unfold Bl; rw [this]; simp
theorem Bl.set_other (h : Bl w g cs t) (a : Addr) (v : Value) (hne : g ≠ a.block) : Bl (w.setCell a v) g cs t := h.keep (heap_setCell_other w a g v hne)
end

theorem splice_one (cs : List Value) (o : Nat) (v : Value) (r : List Value) (h : o + (r.length + 1) ≤ cs.length) : splice (cs.set o v) (o + 1) r = splice cs o (v :: r) := by
  have := list_seg_step cs o v r h
  simpa [splice, Nat.add_assoc, Nat.add_comm] using this
theorem Bl.sets (g : Nat) (t : TypeId) : ∀ (vs : List Value) (o : Nat) (w : World) (cs : List Value), Bl w g cs t → o + vs.length ≤ cs.length → Bl (w.setCells g o vs) g (splice cs o vs) t
  | [], o, w, cs, h, _ => by simpa [splice, World.setCells] using h
  | v :: r, o, w, cs, h, hl => by
    rw [World.setCells, ← splice_one cs o v r (by simpa using hl)]
    exact Bl.sets g t r (o + 1) _ _ (h.set o v) (by simp at hl ⊢; omega)
theorem Bl.over {w : World} {g : Nat} {cs vs : List Value} {t : TypeId} (h : Bl w g cs t) (hl : vs.length = cs.length) : Bl (w.setCells g 0 vs) g vs t := by
  have := Bl.sets g t vs 0 w cs h (by omega)
  have he : splice cs 0 vs = vs := by simp [splice, hl]
  rw [he] at this
  exact this
theorem heap_setCells_other (g k : Nat) (hk : k ≠ g) : ∀ (vs : List Value) (o : Nat) (w : World), (w.setCells g o vs).heap[k]? = w.heap[k]?
  | [], _, _ => rfl
  | v :: r, o, w => by rw [World.setCells, heap_setCells_other g k hk r, heap_setCell_other _ _ _ _ hk]
theorem Bl.sets_other {w : World} {g k : Nat} {cs : List Value} {t : TypeId} (h : Bl w k cs t) (hk : k ≠ g) (o : Nat) (vs : List Value) : Bl (w.setCells g o vs) k cs t := h.keep (heap_setCells_other g k hk vs o w)
theorem size_setCells (g : Nat) : ∀ (vs : List Value) (o : Nat) (w : World), (w.setCells g o vs).heap.size = w.heap.size
  | [], _, _ => rfl
  | v :: r, o, w => by rw [World.setCells, size_setCells g r]; simp [World.setCell]
theorem os_setCells (g : Nat) : ∀ (vs : List Value) (o : Nat) (w : World), (w.setCells g o vs).os = w.os ∧ (w.setCells g o vs).tape = w.tape ∧ (w.setCells g o vs).output = w.output
  | [], _, _ => ⟨rfl, rfl, rfl⟩
  | v :: r, o, w => by rw [World.setCells]; exact os_setCells g r _ _
theorem below_setCells {B : Nat} {a w : World} (h : Below B a w) {g : Nat} (hg : B ≤ g) (o : Nat) (vs : List Value) : Below B a (w.setCells g o vs) :=
  h.trans ⟨(os_setCells g vs o w).1, (os_setCells g vs o w).2.1, (os_setCells g vs o w).2.2, by rw [size_setCells]; exact Nat.le_refl _, fun k hk => heap_setCells_other g k (by omega) vs o w⟩

/-! Only the block g has turned. -/
theorem but_refl (w : World) (g : Nat) : w.grownBy w (some g) := World.grownBy.refl w _
theorem but_trans {a b c : World} {g : Nat} (h : a.grownBy b (some g)) (k : b.grownBy c (some g)) : a.grownBy c (some g) :=
  ⟨k.os.trans h.os, k.tape.trans h.tape, k.output.trans h.output, Nat.le_trans h.size k.size, fun i hi hr => (k.block i (Nat.lt_of_lt_of_le hi h.size) hr).trans (h.block i hi hr)⟩
theorem but_below {a b : World} {g : Nat} (h : Below a.heap.size a b) : a.grownBy b (some g) := ⟨h.os, h.tape, h.output, h.size, fun i hi _ => h.block i hi⟩
theorem but_setCells {a w : World} {g : Nat} (h : a.grownBy w (some g)) (o : Nat) (vs : List Value) : a.grownBy (w.setCells g o vs) (some g) :=
  but_trans h ⟨(os_setCells g vs o w).1, (os_setCells g vs o w).2.1, (os_setCells g vs o w).2.2, by rw [size_setCells]; exact Nat.le_refl _, fun k _ hr => heap_setCells_other g k (fun e => hr (by rw [e])) vs o w⟩
theorem but_setCell {a w : World} {g : Nat} (h : a.grownBy w (some g)) (o : Nat) (v : Value) : a.grownBy (w.setCell ⟨g, o, none⟩ v) (some g) := but_setCells h o [v]
theorem but_drewN {a w : World} {g : Nat} (h : a.grownBy w (some g)) (n : Nat) : a.grownBy (w.drewN n) (some g) := ⟨h.os, h.tape, h.output, h.size, h.block⟩
theorem below_but {B : Nat} {a w w' : World} {g : Nat} (h : Below B a w) (k : w.grownBy w' (some g)) (hB : B ≤ w.heap.size) (hg : B ≤ g) : Below B a w' :=
  h.grown k hB (fun j e => by injection e with e; omega)
theorem sl_but {w w' : World} {B n g : Nat} {A : Option Addr} {xs : List Value} (h : Sl w B A n xs) (k : w.grownBy w' (some g)) (hB : B ≤ w.heap.size) (hg : B ≤ g) : Sl w' B A n xs :=
  h.grown k hB (fun j e => by injection e with e; omega)

section
variable {P : Program}
/-- A new variable of many cells. -/
theorem wpList_alloc_zero {ops : Array Oper} {rest : List Oper} {o : Oper} {a : Act} {w : World} {Q : Exit → Act → World → Prop} (hgd : o.guard = none) (ty : TypeId) (ho : o.op = .alloc ty)
    (z : List Value) (hz : (P.info? ty).map (·.zero) = some (some (.agg z.toArray)))
    (h : wpList P ops Q rest (a.put o.dst (.pointer (some ⟨w.heap.size, 0, none⟩))) (w.alloc (.cells z.toArray ty))) : wpList P ops Q (o :: rest) a w := by
  refine wpList_plain hgd fun K hK => ?_
  cases hq : P.info? ty with
  | none => simp [hq] at hz
  | some i =>
    have hz' : i.zero = some (.agg z.toArray) := by simpa [hq] using hz
    have hr : (Instr.alloc ty true (.tuple #[])).run P w = .ok (.pointer (some ⟨w.heap.size, 0, none⟩)) (w.alloc (.cells z.toArray ty)) := by
      simp [Instr.alloc, zeroValue, typeInfo, hq, hz', newVar, newRow, Value.cells]
    unfold Oper.wp execOp
    simp only [ho, Sem.run_bind, hr, Result.andThen_ok]
    exact hK _ _ h
/-- A composite literal whose cells are known. -/
theorem wpList_build_to {ops : Array Oper} {rest : List Oper} {o : Oper} {a : Act} {w : World} {Q : Exit → Act → World → Prop} (hgd : o.guard = none) (ty : TypeId) (parts : Array (Nat × Operand)) (ho : o.op = .build ty parts)
    (cells : List Value) (hb : P.built ty (parts.toList.map fun p => (p.1, a.eval p.2)) = some cells.toArray)
    (h : wpList P ops Q rest (a.put o.dst (.agg cells.toArray)) w) : wpList P ops Q (o :: rest) a w := by
  refine wpList_plain hgd fun K hK => ?_
  unfold Oper.wp execOp
  have hb' : P.built ty (parts.map fun (i, x) => (i, a.eval x)).toList = some cells.toArray := by rw [Array.toList_map]; exact hb
  simp only [ho, Sem.run_bind, run_build w ty _ cells.toArray hb', Result.andThen_ok]
  exact hK _ _ h
end

/-- A stretch of an array of one-cell elements that lies in a block. -/
theorem run_slice_arr {P : Program} (w : World) (t e : TypeId) (g o n : Nat) (ht : P.underlying t = some (.array n e)) (he : (P.info? e).map (·.size) = some 1) (kl kh : IntKind) (L H : Int) (l h : Nat)
    (eL : L = l) (eH : H = h) (h1 : l ≤ h) (h2 : h ≤ n) (h3 : l < n) :
    (Instr.sliceAt t (.pointer (some ⟨g, o, none⟩)) (some (.int kl L)) (some (.int kh H)) none).run P w = .ok (.slice (some ⟨g, o + l, none⟩) (h - l) (n - l)) w := by
  subst eL; subst eH
  cases hq : P.info? e with
  | none => simp [hq] at he
  | some i =>
    have hs : i.size = 1 := by simpa [hq] using he
    have hn : ¬ n = l := by omega
    simp [Instr.sliceAt, Instr.sureAddr, run_underlying ht, Instr.sliceBounds, run_sliceBound, sizeOf, typeInfo, hq, hs, h1, h2, hn, Addr.add_mid]
theorem run_slice_arr_from {P : Program} (w : World) (t e : TypeId) (g o n : Nat) (ht : P.underlying t = some (.array n e)) (he : (P.info? e).map (·.size) = some 1) (kl : IntKind) (L : Int) (l : Nat)
    (eL : L = l) (h3 : l < n) :
    (Instr.sliceAt t (.pointer (some ⟨g, o, none⟩)) (some (.int kl L)) none none).run P w = .ok (.slice (some ⟨g, o + l, none⟩) (n - l) (n - l)) w := by
  subst eL
  cases hq : P.info? e with
  | none => simp [hq] at he
  | some i =>
    have hs : i.size = 1 := by simpa [hq] using he
    have hn : ¬ n = l := by omega
    have hle : l ≤ n := by omega
    simp [Instr.sliceAt, Instr.sureAddr, run_underlying ht, Instr.sliceBounds, run_sliceBound, sizeOf, typeInfo, hq, hs, hle, hn, Addr.add_mid]

/-- A beginning of an array of one-cell elements that lies in a block. -/
theorem run_slice_arr_to {P : Program} (w : World) (t e : TypeId) (g o n : Nat) (ht : P.underlying t = some (.array n e)) (he : (P.info? e).map (·.size) = some 1) (kh : IntKind) (H : Int) (h : Nat)
    (eH : H = h) (h2 : h ≤ n) (_h3 : 0 < n) :
    (Instr.sliceAt t (.pointer (some ⟨g, o, none⟩)) none (some (.int kh H)) none).run P w = .ok (.slice (some ⟨g, o, none⟩) h n) w := by
  subst eH
  cases hq : P.info? e with
  | none => simp [hq] at he
  | some i =>
    simp [Instr.sliceAt, Instr.sureAddr, run_underlying ht, Instr.sliceBounds, run_sliceBound, sizeOf, typeInfo, hq, h2, Addr.add]

/-- 'return' of a function whose one result is an array or a struct that lies in a block. -/
theorem ret_row {P : Program} {fn : Func} {R : Ending → World → Prop} {a : Act} {w : World} {p : Tmp} {ty : TypeId} {g : Nat} {cs : List Value} {t : TypeId} {d : TypeDesc} (hres : fn.results = #[.cell p ty])
    (hp : a.tmps.getD p undef = .pointer (some ⟨g, 0, none⟩)) (hb : Bl w g cs t) (hu : P.underlying ty = some d) (hd : d.isRow = true) (hi : (P.info? ty).map (·.size) = some cs.length)
    (hdf : a.defers = []) (hR : R (.returned (.agg cs.toArray)) w) : bodyPost P fn R .ret a w :=
  bodyPost_ret (results_cell_row hres a.tmps w g t cs.toArray (0, 0) d hp hb hu (by cases d <;> simp_all) (by rw [hi]; simp)) hdf hR

/-- 'copy(d, x)': d a stretch of the block g, x any slice that reads as cells. -/
theorem run_copy_but {P : Program} (w : World) (dT sT ty elem : TypeId) (hu : P.underlying dT = some (.slice elem)) (hsz : (P.info? elem).map (·.size) = some 1)
    (g off dLen dCap : Nat) (B' : Nat) (A : Option Addr) (m c : Nat) (xs : List Value) (hr : Sl w B' A m xs) (cur : List Value) (t : TypeId) (hg : Bl w g cur t)
    (hfit : off + dLen ≤ cur.length) (h1 : ∀ v ∈ xs, v.oneCell' = true) :
    ∃ w', (Builtin.copy_ #[dT, sT] ty #[.slice (some ⟨g, off, none⟩) dLen dCap, .slice A m c]).run P w = .ok (.int .i64 (Nat.min m dLen : Nat)) w' ∧
      Bl w' g (splice cur off (xs.take dLen)) t ∧ w.grownBy w' (some g) := by
  have hlen : (xs.take dLen).length = Nat.min m dLen := by rw [List.length_take, hr.1, Nat.min_comm]
  by_cases h0 : Nat.min m dLen = 0
  · have hr0 := run_copy_none (P := P) w dT sT ty elem (some ⟨g, off, none⟩) A dLen dCap m c hu hsz h0
    refine ⟨w, by rw [hr0, h0]; rfl, ?_, but_refl w g⟩
    have hx : xs.take dLen = [] := List.eq_nil_of_length_eq_zero (by omega)
    rw [hx]
    simpa [splice] using hg
  · have hm : Nat.min m dLen ≤ m ∧ Nat.min m dLen ≤ dLen := ⟨Nat.min_le_left .., Nat.min_le_right ..⟩
    obtain ⟨ad, rfl, _, hc⟩ := hr.2 (by omega)
    have hr1 := run_copy_row (P := P) w dT sT ty elem g off dLen dCap ad m c cur.toArray t (xs.take dLen) hu hsz hg hlen
      (fun j v hv => hc j v (by
        rcases Nat.lt_or_ge j dLen with h | h
        · rwa [List.getElem?_take_of_lt h] at hv
        · rw [List.getElem?_eq_none (by rw [List.length_take]; omega)] at hv; cases hv)) (by rw [hlen]; simp; omega) (fun v hv => h1 v (List.mem_of_mem_take hv))
    refine ⟨_, by rw [hr1, hlen]; rfl, ?_, ?_⟩
    · have := setRow_heap w g cur.toArray (cur.toArray.toList.take off ++ xs.take dLen ++ cur.toArray.toList.drop (off + Nat.min m dLen)).toArray t (0, 0) hg
      exact (show _ = _ by rw [this]; unfold splice; rw [hlen]; simp)
    · exact ⟨rfl, rfl, rfl, by simp, fun k _ hk => setRow_other w g k _ (fun e => hk (by rw [e]))⟩
/-- A slice that does not lie in the block g. -/
def Off (g n : Nat) (A : Option Addr) : Prop := 0 < n → ∀ ad, A = some ad → ad.block ≠ g
theorem sl_off {w w' : World} {B n g : Nat} {A : Option Addr} {xs : List Value} (h : Sl w B A n xs) (hg : w.grownBy w' (some g)) (hB : B ≤ w.heap.size) (ho : Off g n A) : Sl w' B A n xs :=
  ⟨h.1, fun hn => by
    obtain ⟨ad, e, hb, hc⟩ := h.2 hn
    refine ⟨ad, e, hb, fun j u hu => ?_⟩
    rw [World.cell?_of_block (w := w) (hg.block _ (by rw [add_block]; omega) (fun e2 => ho hn ad e (by rw [add_block] at e2; injection e2)))]
    exact hc j u hu⟩
/-- 'b[k:]'. -/
theorem sl_cut {w : World} {B n k c : Nat} {A : Option Addr} {xs : List Value} (h : Sl w B A n xs) (hk : k ≤ n) (hc : n ≤ c) : Sl w B (if c = k then A else A.map (·.add k)) (n - k) (xs.drop k) := by
  refine ⟨by rw [List.length_drop, h.1], fun hn => ?_⟩
  obtain ⟨ad, rfl, hb, hcell⟩ := h.2 (by omega)
  rw [if_neg (by omega)]
  refine ⟨ad.add k, rfl, by rw [add_block]; exact hb, fun j u hu => ?_⟩
  rw [add_add]
  exact hcell _ u (by rw [← hu, List.getElem?_drop])
theorem off_cut {g n k c : Nat} {A : Option Addr} (h : Off g n A) : Off g (n - k) (if c = k then A else A.map (·.add k)) := by
  intro hn ad e
  split at e
  · exact h (by omega) ad e
  · rcases A with _ | a
    · cases e
    · injection e with e; rw [← e, add_block]; exact h (by omega) a rfl
theorem Sl.off {w : World} {B n g : Nat} {A : Option Addr} {xs : List Value} (h : Sl w B A n xs) (hg : B ≤ g) : Off g n A := by
  intro hn ad e
  obtain ⟨ad', e', hb, _⟩ := h.2 hn
  rw [e] at e'
  injection e' with e'
  subst e'
  omega
theorem run_slice_from {P : Program} (w : World) (t e : TypeId) (ht : P.underlying t = some (.slice e)) (he : (P.info? e).map (·.size) = some 1) (A : Option Addr) (n c k : Nat) (kl : IntKind) (L : Int) (eL : L = k) (hk : k ≤ n) (hc : n ≤ c) (hA : A = none → c = 0) :
    (Instr.slice t (.slice A n c) (some (.int kl L)) none none).run P w = .ok (.slice (if c = k then A else A.map (·.add k)) (n - k) (c - k)) w := by
  subst eL
  cases hq : P.info? e with
  | none => simp [hq] at he
  | some i =>
    have hs : i.size = 1 := by simpa [hq] using he
    rcases A with _ | a
    · obtain rfl := hA rfl
      obtain rfl : n = 0 := by omega
      obtain rfl : k = 0 := by omega
      simp [Instr.slice, run_underlying ht, Instr.sliceBounds, run_sliceBound, sizeOf, typeInfo, hq]
    · simp [Instr.slice, run_underlying ht, Instr.sliceBounds, run_sliceBound, sizeOf, typeInfo, hq, hs, hk]
/-- 'b[k:]' as a step of the walk: where the rest lies stays under one name. -/
theorem wpList_slice_from {P : Program} {ops : Array Oper} {rest : List Oper} {o : Oper} {a : Act} {w : World} {Q : Exit → Act → World → Prop} (hgd : o.guard = none) (t : TypeId) (x lo : Operand) (ho : o.op = .slice t x (some lo) none none)
    (e : TypeId) (ht : P.underlying t = some (.slice e)) (he : (P.info? e).map (·.size) = some 1) (A : Option Addr) (n c k : Nat) (kl : IntKind) (L : Int) (hx : a.eval x = .slice A n c) (hlo : a.eval lo = .int kl L) (eL : L = k) (hk : k ≤ n) (hc : n ≤ c) (hA : A = none → c = 0)
    (h : ∀ A', Hid (A' = if c = k then A else A.map (·.add k)) → wpList P ops Q rest (a.put o.dst (.slice A' (n - k) (c - k))) w) : wpList P ops Q (o :: rest) a w := by
  refine wpList_plain hgd fun K hK => ?_
  have hr := run_slice_from (P := P) w t e ht he A n c k kl L eL hk hc hA
  unfold Oper.wp execOp
  simp only [ho, Option.map_some, Option.map_none, hx, hlo, Instr.sliceAt, Sem.run_bind, run_underlying ht, Result.andThen_ok, hr]
  exact hK _ _ (h _ rfl)
section
variable {P : Program}
theorem wpStill_load_mid {ops : Array Oper} {w : World} {Q : Act → Prop} {a : Act} {o : Oper} {rest : List Oper} (hgd : o.guard = none) (ty : TypeId) (x : Operand) (ho : o.op = .load ty x)
    (b f : Nat) (hx : a.eval x = .pointer (some ⟨b, f, none⟩)) (cs : List Value) (d : TypeDesc) (hc : w.rangeAt b f cs)
    (hu : P.underlying ty = some d) (hd : d.isRow = true) (hi : (P.info? ty).map (·.size) = some cs.length)
    (h : wpStill P ops w Q rest (a.put o.dst (.agg cs.toArray))) : wpStill P ops w Q (o :: rest) a := by
  have hw : Region.wanted o (yielded ops a.tmps) = true := by simp [Region.wanted, hgd]
  unfold wpStill
  rw [if_pos hw]
  unfold Oper.still execOp
  simp only [ho, hx, Instr.loadAt, Instr.sureAddr, Sem.run_bind, Sem.run_pure, Result.andThen_ok, run_loadVar_mid w b f ty cs d hc hu hd hi, Oper.stillUpon_value]
  exact h
end

/-- A load of many cells as a step of a region that draws its order. -/
theorem step_load_mid {P : Program} {ops : Array Oper} {o : Oper} {a : Act} {w : World} {K : Act → World → Prop} {Q : Exit → Act → World → Prop} {E : Prop} (hgd : o.guard = none) (ty : TypeId) (x : Operand) (ho : o.op = .load ty x)
    (b f : Nat) (hx : a.eval x = .pointer (some ⟨b, f, none⟩)) (cs : List Value) (d : TypeDesc) (hc : w.rangeAt b f cs)
    (hu : P.underlying ty = some d) (hd : d.isRow = true) (hi : (P.info? ty).map (·.size) = some cs.length)
    (hK : K (a.put o.dst (.agg cs.toArray)) w) : if Region.wanted o (yielded ops a.tmps) = true then Oper.wp P o a w K Q else E := by
  have hw : Region.wanted o (yielded ops a.tmps) = true := by simp [Region.wanted, hgd]
  rw [if_pos hw]
  exact wp_load_mid ty x ho b f hx cs d hc hu hd hi hK
theorem step_store_mid {P : Program} {ops : Array Oper} {o : Oper} {a : Act} {w : World} {K : Act → World → Prop} {Q : Exit → Act → World → Prop} {E : Prop} (hgd : o.guard = none) (ty : TypeId) (x y : Operand) (ho : o.op = .store ty x y)
    (b f : Nat) (cells : Array Value) (hx : a.eval x = .pointer (some ⟨b, f, none⟩)) (hy : a.eval y = .agg cells)
    (ht : w.there b f cells.size) (hi : (P.info? ty).map (·.size) = some cells.size) (h1 : cells.all (·.oneCell') = true)
    (hK : K (a.put o.dst undef) (w.setCells b f cells.toList)) : if Region.wanted o (yielded ops a.tmps) = true then Oper.wp P o a w K Q else E := by
  have hw : Region.wanted o (yielded ops a.tmps) = true := by simp [Region.wanted, hgd]
  rw [if_pos hw]
  exact wp_store_mid ty x y ho b f cells hx hy ht hi h1 hK

/-- 'x[i]' of an array that is a value, its elements integers. -/
theorem run_index_agg {P : Program} (w : World) (t e : TypeId) (n : Nat) (ki kx : IntKind) (ht : P.underlying t = some (.array n e)) (he : P.underlying e = some (.int kx)) (hs : (P.info? e).map (·.size) = some 1) (cs : List Value) (i : Int) (j : Nat) (v : Value) (ei : i = j) (hj : j < n) (hv : cs[j]? = some v) :
    (Instr.index t (.agg cs.toArray) (.int ki i)).run P w = .ok v w := by
  subst ei
  cases hq : P.info? e with
  | none => simp [hq] at hs
  | some ii =>
    have hsz : ii.size = 1 := by simpa [hq] using hs
    have hagg : (isAgg e).run P w = .ok false w := by
      unfold isAgg
      rw [Sem.run_bind, run_underlying he w]
      rfl
    simp [Instr.index, asIntOf, run_underlying ht, hj, part, hagg, sizeOf, typeInfo, hq, hsz, hv]
theorem own_off {w : World} {base g : Nat} {e : TypeId} {A : Option Addr} {n c : Nat} {xs : List Value} (h : w.ownsRow base e 1 (.slice A n c) n xs) (hg : g < base) : Off g n A := by
  intro _ ad e1
  subst e1
  rcases h.2 with ⟨h, _⟩ | ⟨k, cap, cur, hv, hb, _⟩
  · injection h with h; cases h
  · injection hv with h1
    injection h1 with h1
    subst h1
    intro e2
    simp only at e2
    omega
theorem own_cap {w : World} {base : Nat} {e : TypeId} {A : Option Addr} {n c : Nat} {xs : List Value} (h : w.ownsRow base e 1 (.slice A n c) n xs) : n ≤ c := by
  rcases h.2 with ⟨h, h0⟩ | ⟨k, cap, cur, hv, _, _, hc, _⟩
  · omega
  · injection hv with _ _ h3
    subst h3
    exact hc

theorem run_slice_lh {P : Program} (w : World) (t e : TypeId) (ht : P.underlying t = some (.slice e)) (he : (P.info? e).map (·.size) = some 1) (A : Option Addr) (n c l h : Nat) (kl kh : IntKind) (L H : Int) (eL : L = l) (eH : H = h) (h1 : l ≤ h) (h2 : h ≤ c) (hA : A = none → c = 0) :
    (Instr.slice t (.slice A n c) (some (.int kl L)) (some (.int kh H)) none).run P w = .ok (.slice (if c = l then A else A.map (·.add l)) (h - l) (c - l)) w := by
  subst eL; subst eH
  cases hq : P.info? e with
  | none => simp [hq] at he
  | some i =>
    have hs : i.size = 1 := by simpa [hq] using he
    rcases A with _ | a
    · obtain rfl := hA rfl
      obtain rfl : h = 0 := by omega
      obtain rfl : l = 0 := by omega
      simp [Instr.slice, run_underlying ht, Instr.sliceBounds, run_sliceBound, sizeOf, typeInfo, hq]
    · simp [Instr.slice, run_underlying ht, Instr.sliceBounds, run_sliceBound, sizeOf, typeInfo, hq, hs, h1, h2]
/-- 'b[l:h]' as a step of the walk. -/
theorem wpList_slice_lh {P : Program} {ops : Array Oper} {rest : List Oper} {o : Oper} {a : Act} {w : World} {Q : Exit → Act → World → Prop} (hgd : o.guard = none) (t : TypeId) (x lo hi : Operand) (ho : o.op = .slice t x (some lo) (some hi) none)
    (e : TypeId) (ht : P.underlying t = some (.slice e)) (he : (P.info? e).map (·.size) = some 1) (A : Option Addr) (n c l h : Nat) (kl kh : IntKind) (L H : Int) (hx : a.eval x = .slice A n c) (hlo : a.eval lo = .int kl L) (hhi : a.eval hi = .int kh H) (eL : L = l) (eH : H = h) (h1 : l ≤ h) (h2 : h ≤ c) (hA : A = none → c = 0)
    (hk : ∀ A', Hid (A' = if c = l then A else A.map (·.add l)) → wpList P ops Q rest (a.put o.dst (.slice A' (h - l) (c - l))) w) : wpList P ops Q (o :: rest) a w := by
  refine wpList_plain hgd fun K hK => ?_
  have hr := run_slice_lh (P := P) w t e ht he A n c l h kl kh L H eL eH h1 h2 hA
  unfold Oper.wp execOp
  simp only [ho, Option.map_some, Option.map_none, hx, hlo, hhi, Instr.sliceAt, Sem.run_bind, run_underlying ht, Result.andThen_ok, hr]
  exact hK _ _ (hk _ rfl)
theorem sl_mid {w : World} {B n l h c : Nat} {A : Option Addr} {xs : List Value} (hs : Sl w B A n xs) (h1 : l ≤ h) (h2 : h ≤ n) (hc : n ≤ c) : Sl w B (if c = l then A else A.map (·.add l)) (h - l) ((xs.drop l).take (h - l)) := by
  have k1 := sl_cut (k := l) hs (by omega) hc
  refine ⟨by rw [List.length_take, k1.1]; omega, fun hn => ?_⟩
  obtain ⟨ad, e, hb, hcell⟩ := k1.2 (by omega)
  refine ⟨ad, e, hb, fun j u hu => hcell j u ?_⟩
  rcases Nat.lt_or_ge j (h - l) with hj | hj
  · rwa [List.getElem?_take_of_lt hj] at hu
  · rw [List.getElem?_eq_none (by rw [List.length_take]; omega)] at hu; cases hu

theorem cb_slice (buf : List UInt8) (o n : Nat) : cb ((buf.drop o).take n) = ((cb buf).drop o).take n := by simp [cb]
/-- A quiet callee's contract, the other way round. -/
theorem still_of {P : Program} {f : FuncId} {args : Array Value} {w : World} {v : Value} (h : Calls P f args w fun e w' => e = .returned v ∧ w = w') : Calls P f args w fun e w' => e = .returned v ∧ w' = w := h.mono fun _ _ ⟨a, b⟩ => ⟨a, b.symm⟩
/-- Noughts. -/
def zeros (k : IntKind) (n : Nat) : List Value := List.replicate n (.int k 0)
theorem zeros_len (k : IntKind) (n : Nat) : (zeros k n).length = n := by simp [zeros]
theorem zeros_one (k : IntKind) (n : Nat) : ∀ v ∈ zeros k n, v.oneCell' = true := by intro v hv; rw [List.eq_of_mem_replicate hv]; rfl
theorem made_zeros (k : IntKind) (n : Nat) : (madeCells (Value.int k 0).cells n).toList = zeros k n := by
  have := toList_madeCells_one (.int k 0) n
  simpa [Value.cells, zeros] using this
/-- 'make([]T, l, c)' of one-cell integers. -/
theorem wpList_make_part {P : Program} (w : World) {ops : Array Oper} {rest : List Oper} {o : Oper} {a : Act} {Q : Exit → Act → World → Prop}
    (hg : o.guard = none) (l c : Operand) (t : TypeId) (hop : o.op = Op.makeSlice t l c)
    (base : Nat) (e : TypeId) (i : TypeInfo) (k : IntKind) (h1 : P.underlying t = some (.slice e)) (h2 : P.info? e = some i) (h3 : i.zero = some (.int k 0)) (h4 : i.size = 1)
    (kl kc : IntKind) (L C : Int) (n m : Nat) (hl : a.eval l = .int kl L) (hc : a.eval c = .int kc C) (hL : L = (n : Int)) (hC : C = (m : Int)) (hnm : n ≤ m) (b2 : i.bytes * m ≤ 281474976710656) (b3 : m ≤ maxLen) (b4 : base ≤ w.heap.size)
    (hK : ∀ w', w'.ownsRow base e 1 (.slice (some ⟨w.heap.size, 0, none⟩) n m) n (zeros k n) → w.grownBy w' none → wpList P ops Q rest (a.put o.dst (.slice (some ⟨w.heap.size, 0, none⟩) n m)) w') :
    wpList P ops Q (o :: rest) a w := by
  refine wpList_plain hg fun K hK' => ?_
  subst hL; subst hC
  have b3' := b3
  simp [maxLen] at b3'
  have hb' : (i.bytes : Int) * (m : Int) ≤ 281474976710656 := by
    have h : ((i.bytes * m : Nat) : Int) ≤ 281474976710656 := by omega
    rwa [Int.natCast_mul] at h
  have hr := run_make (P := P) w t e i _ h1 h2 h3 kl kc (n : Int) (m : Int) (by omega) (by omega) hb' (by omega)
  simp only [Int.toNat_natCast, h4, Nat.mul_one] at hr
  unfold Oper.wp
  simp [execOp, hop, hl, hc, hr, Result.andThen]
  refine hK' _ _ (hK _ ⟨by simp [zeros_len], .inr ⟨w.heap.size, m, _, rfl, b4, heap_alloc_new w _, hnm, b3, by rw [size_madeCells, Nat.mul_one], ?_⟩⟩ (World.grownBy_alloc w _ none))
  rw [made_zeros, Nat.mul_one]
  simp [zeros, hnm]
/-- Words as cells. -/
def uc (x : Nat) : Value := .int .u32 (x : Int)
def us (l : List Nat) : List Value := l.map uc
theorem us_len (l : List Nat) : (us l).length = l.length := by simp [us]
theorem us_one (l : List Nat) : ∀ v ∈ us l, v.oneCell' = true := by
  intro u hu
  obtain ⟨b, _, rfl⟩ := List.mem_map.1 hu
  rfl
theorem us_append (a b : List Nat) : us (a ++ b) = us a ++ us b := by simp [us]
theorem us_at {l : List Nat} {j : Nat} (h : j < l.length) : (us l)[j]? = some (.int .u32 (l.getD j 0 : Nat)) := by
  simp [us, uc, List.getElem?_eq_getElem h]
end Go.Proofs.Ytfmbehjllkmfiaa
