/- Bytes in order: as strings are compared, and as numbers, big end first. No function of the program is named here. -/
import Derived.Test.YtlnoopmblmkgkaaGreatDoorLG
import Derived.Laws.Cover1
namespace Go.Proofs.YtlnoopmblmkgkaaGreatDoor
set_option maxRecDepth 100000
open Go Go.RowKit
set_option linter.unusedVariables false
set_option linter.unusedSimpArgs false

/-- Of lists of one length, the one that comes ahead is the smaller number. -/
theorem lessB_val : ∀ (x y : List UInt8), x.length = y.length → Op.bytesLess x y = decide (val x < val y)
  | [], [], _ => by simp [Op.bytesLess]
  | a :: x, b :: y, h => by
    have hl : x.length = y.length := by simpa using h
    have hx := val_lt x
    have hy := val_lt y
    rw [hl] at hx
    rw [Op.bytesLess, lessB_val x y hl, val_cons, val_cons, hl]
    generalize 256 ^ y.length = K at hx hy
    generalize val x = vx at hx
    generalize val y = vy at hy
    rcases Nat.lt_trichotomy a.toNat b.toNat with hab | hab | hab
    · have h1 : decide (a < b) = true := by simpa using UInt8.lt_iff_toNat_lt.2 hab
      have h2 : a.toNat * K + vx < b.toNat * K + vy := by
        have : (a.toNat + 1) * K ≤ b.toNat * K := Nat.mul_le_mul_right K hab
        rw [Nat.add_mul] at this
        omega
      rw [h1, decide_eq_true h2]; rfl
    · have e : a = b := UInt8.toNat_inj.1 hab
      subst e
      have h1 : decide (a < a) = false := by simp
      rw [h1]
      simp
    · have h1 : decide (a < b) = false := by
        rw [decide_eq_false_iff_not, UInt8.lt_iff_toNat_lt]; omega
      have h3 : (a == b) = false := by
        rw [beq_eq_false_iff_ne]; intro e; subst e; omega
      have h2 : ¬ a.toNat * K + vx < b.toNat * K + vy := by
        have : (b.toNat + 1) * K ≤ a.toNat * K := Nat.mul_le_mul_right K hab
        rw [Nat.add_mul] at this
        omega
      rw [h1, h3, decide_eq_false h2]; rfl

theorem val_app : ∀ (x y : List UInt8), val (x ++ y) = val x * 256 ^ y.length + val y
  | [], y => by simp [val_nil]
  | a :: x, y => by
    rw [List.cons_append, val_cons, val_cons, val_app x y, List.length_append, Nat.pow_add, Nat.add_mul, Nat.mul_assoc, Nat.add_assoc]

/-- Lists of one length with one value are one. -/
theorem val_inj : ∀ (x y : List UInt8), x.length = y.length → val x = val y → x = y
  | [], [], _, _ => rfl
  | a :: x, b :: y, h, hv => by
    have hl : x.length = y.length := by simpa using h
    have hx := val_lt x
    have hy := val_lt y
    rw [val_cons, val_cons, hl] at hv
    rw [hl] at hx
    have hab : a.toNat = b.toNat := by
      generalize 256 ^ y.length = K at hx hy hv
      rcases Nat.lt_trichotomy a.toNat b.toNat with hab | hab | hab
      · have : (a.toNat + 1) * K ≤ b.toNat * K := Nat.mul_le_mul_right K hab
        rw [Nat.add_mul] at this
        omega
      · exact hab
      · have : (b.toNat + 1) * K ≤ a.toNat * K := Nat.mul_le_mul_right K hab
        rw [Nat.add_mul] at this
        omega
    have e : a = b := UInt8.toNat_inj.1 hab
    subst e
    rw [val_inj x y hl (by omega)]

/-- What 's <= t' says where s is the greater. -/
theorem not_leq {b l : List UInt8} (hl : b.length = l.length) (h : val l < val b) : (Op.bytesLess b l || b == l) = false := by
  rw [lessB_val b l hl, decide_eq_false (by omega)]
  have : (b == l) = false := by rw [beq_eq_false_iff_ne]; intro e; subst e; omega
  rw [this]; rfl
theorem not_leq_nil {b : List UInt8} (h : 0 < b.length) : (Op.bytesLess b [] || b == []) = false := by
  cases b with
  | nil => simp at h
  | cons a r => simp [Op.bytesLess]

/-- A nonce: four bytes and eight, big end first. -/
def nonceL (e n : Nat) : List UInt8 := stored e false ++ told8 n
theorem nonceL_len (e n : Nat) : (nonceL e n).length = 12 := by unfold nonceL; rw [List.length_append, stored_len, told8_len]
theorem nonceL_val (e n : Nat) (he : e < 4294967296) (hn : n < 18446744073709551616) : val (nonceL e n) = e * 18446744073709551616 + n := by
  unfold nonceL stored told8
  rw [val_app]
  simp only [Bool.false_eq_true, if_false, List.length_reverse, le_len]
  rw [val_le, val_le, Nat.mod_eq_of_lt (by simpa using he), Nat.mod_eq_of_lt (by simpa using hn)]
theorem nonceL_lt {e e' n n' : Nat} (he : e < 4294967296) (hn : n < 18446744073709551616) (he' : e' < 4294967296) (hn' : n' < 18446744073709551616) (h : e < e' ∨ (e ≤ e' ∧ n < n')) : val (nonceL e n) < val (nonceL e' n') := by
  rw [nonceL_val e n he hn, nonceL_val e' n' he' hn']
  omega
/-- Any twelve bytes are the nonce of what they are read as. -/
theorem nonceL_of {b : List UInt8} (h : b.length = 12) : nonceL (val (b.take 4)) (val (b.drop 4)) = b := by
  have h4 : (b.take 4).length = 4 := by rw [List.length_take]; omega
  have h8 : (b.drop 4).length = 8 := by rw [List.length_drop]; omega
  have v4 := val_lt (b.take 4)
  have v8 := val_lt (b.drop 4)
  rw [h4] at v4
  rw [h8] at v8
  refine val_inj _ _ (by rw [nonceL_len, h]) ?_
  rw [nonceL_val _ _ (by simpa using v4) (by simpa using v8)]
  have := val_app (b.take 4) (b.drop 4)
  rw [List.take_append_drop, h8] at this
  rw [this]

end Go.Proofs.YtlnoopmblmkgkaaGreatDoor

namespace Go.Proofs.YtlnoopmblmkgkaaGreatDoor
set_option maxRecDepth 100000
set_option maxRecDepth 100000
open Go Go.RowKit
set_option linter.unusedVariables false
set_option linter.unusedSimpArgs false

/-- The cells cs are slices of bytes, ls, in memory that is new since base; none of them lies in v's own block. -/
def PartsAt (w : World) (base : Nat) (v : Value) (ls : List (List UInt8)) (cs : List Value) : Prop :=
  ∀ j (h : j < ls.length), ∃ A c, cs[j]? = some (.slice A ls[j].length c) ∧ Sl w w.heap.size A ls[j].length (cb ls[j]) ∧ ls[j].length ≤ c ∧ (A = none → c = 0) ∧ (∀ g, v.ownBlock = some g → Off g ls[j].length A) ∧ ∀ ad, A = some ad → base ≤ ad.block
/-- v is a list, in memory of the call's own, of lists of bytes: its cells are cs. -/
def OwnPartsC (E : TypeId) (w : World) (base : Nat) (v : Value) (ls : List (List UInt8)) (cs : List Value) : Prop :=
  w.ownsRow base E 1 v ls.length cs ∧ PartsAt w base v ls cs
def OwnParts (E : TypeId) (w : World) (base : Nat) (v : Value) (ls : List (List UInt8)) : Prop := ∃ cs, OwnPartsC E w base v ls cs
section
variable {E : TypeId} {w w' : World} {base : Nat} {v : Value} {ls : List (List UInt8)} {cs : List Value}
theorem ownParts_nil (E : TypeId) (w : World) (base : Nat) : OwnParts E w base (.slice none 0 0) [] := ⟨[], World.ownsRow_nil w base E 1, fun j h => absurd h (by simp)⟩
theorem OwnPartsC.next (h : OwnPartsC E w base v ls cs) (hb : Below w.heap.size w w') : OwnPartsC E w' base v ls cs := by
  obtain ⟨h1, h2⟩ := h
  refine ⟨own_below h1 hb, fun j hj => ?_⟩
  obtain ⟨A, c, a1, a2, a3⟩ := h2 j hj
  exact ⟨A, c, a1, a2.nx hb, a3⟩
theorem OwnParts.next (h : OwnParts E w base v ls) (hb : Below w.heap.size w w') : OwnParts E w' base v ls := by
  obtain ⟨cs, h⟩ := h
  exact ⟨cs, h.next hb⟩
theorem OwnParts.down {base' : Nat} (h : OwnParts E w base v ls) (hb : base' ≤ base) : OwnParts E w base' v ls := by
  obtain ⟨cs, h1, h2⟩ := h
  refine ⟨cs, own_down h1 hb, fun j hj => ?_⟩
  obtain ⟨A, c, a1, a2, a3, a4, a5, a6⟩ := h2 j hj
  exact ⟨A, c, a1, a2, a3, a4, a5, fun ad e => Nat.le_trans hb (a6 ad e)⟩
/-- What lies below base may turn. -/
theorem OwnParts.kept (h : OwnParts E w base v ls) (hk : ∀ i, base ≤ i → i < w.heap.size → w'.heap[i]? = w.heap[i]?) (hs : w.heap.size ≤ w'.heap.size) : OwnParts E w' base v ls := by
  obtain ⟨cs, h1, h2⟩ := h
  refine ⟨cs, own_keep h1 (fun g hg => hk g (own_blk h1 hg) (own_lt h1 hg)), fun j hj => ?_⟩
  obtain ⟨A, c, a1, a2, a3, a4, a5, a6⟩ := h2 j hj
  refine ⟨A, c, a1, ⟨a2.1, fun hn => ?_⟩, a3, a4, a5, a6⟩
  obtain ⟨ad, e, hlt, hc⟩ := a2.2 hn
  refine ⟨ad, e, Nat.lt_of_lt_of_le hlt hs, fun j u hu => ?_⟩
  rw [World.cell?_of_block (w := w) (hk _ (by rw [add_block]; exact a6 ad e) (by rw [add_block]; exact hlt))]
  exact hc j u hu
theorem OwnParts.form (h : OwnParts E w base v ls) : ∃ A c, v = .slice A ls.length c := by
  obtain ⟨cs, h1, _⟩ := h
  exact own_form h1
/-- One more, behind 'append(v, x)': what append tells is happ, hg, hat. -/
theorem OwnPartsC.push (h : OwnPartsC E w base v ls cs) {l : List UInt8} {n : Nat} (hn : n = l.length) {A : Option Addr} {c : Nat} (hs : Sl w w.heap.size A n (cb l)) (hc : n ≤ c) (hA : A = none → c = 0) (ho : ∀ g, v.ownBlock = some g → Off g n A) (hbase : ∀ ad, A = some ad → base ≤ ad.block)
    {v' : Value} (happ : w'.ownsRow base E 1 v' (ls.length + 1) (cs ++ [.slice A n c])) (hg : w.grownBy w' v.ownBlock) (hat : v'.ownBlock = v.ownBlock ∨ v'.ownBlock = some w.heap.size) : OwnParts E w' base v' (ls ++ [l]) := by
  subst hn
  obtain ⟨h1, h2⟩ := h
  have hlen : cs.length = ls.length := by have := h1.1; omega
  have mv : ∀ {B : Option Addr} {k : Nat} {xs : List Value}, Sl w w.heap.size B k xs → (∀ g, v.ownBlock = some g → Off g k B) → Sl w' w'.heap.size B k xs ∧ ∀ g, v'.ownBlock = some g → Off g k B := by
    intro B k xs hb hoff
    refine ⟨sl_row hb hg (fun hk ad e e2 => hoff _ e2 hk ad e rfl), fun g hgv => ?_⟩
    rcases hat with e | e
    · exact hoff g (by rw [← e]; exact hgv)
    · rw [e] at hgv
      have := Option.some.inj hgv
      subst this
      exact hb.off (Nat.le_refl _)
  refine ⟨cs ++ [.slice A l.length c], by rw [List.length_append]; exact happ, fun j hj => ?_⟩
  by_cases hjl : j < ls.length
  · obtain ⟨B, d, a1, a2, a3, a4, a5, a6⟩ := h2 j hjl
    rw [List.getElem?_append_left (by omega)]
    simp only [List.getElem_append_left hjl]
    exact ⟨B, d, a1, (mv a2 a5).1, a3, a4, (mv a2 a5).2, a6⟩
  · have e : j = ls.length := by simp at hj; omega
    subst e
    rw [List.getElem?_append_right (by omega), hlen]
    simp only [Nat.sub_self, List.getElem_append_right (Nat.le_refl _)]
    exact ⟨A, c, rfl, (mv hs ho).1, hc, hA, (mv hs ho).2, hbase⟩
/-- What a call that began behind base has made lies in no block of the list's own. -/
theorem OwnPartsC.off_new (h : OwnPartsC E w base v ls cs) {A : Option Addr} {n : Nat} (ha : ∀ ad, A = some ad → w.heap.size ≤ ad.block) : ∀ g, v.ownBlock = some g → Off g n A := by
  intro g hg hn ad e
  have h1 := own_lt h.1 hg
  have h2 := ha ad e
  omega
/-- The j-th of them. -/
theorem OwnParts.at_ {A : Option Addr} {n c : Nat} (h : OwnParts E w base (.slice A n c) ls) {j : Nat} (hj : j < ls.length) : ∃ g B d, A = some ⟨g, 0, none⟩ ∧ w.cell? ⟨g, j, none⟩ = some (.slice B ls[j].length d) ∧ Sl w w.heap.size B ls[j].length (cb ls[j]) ∧ ls[j].length ≤ d ∧ (B = none → d = 0) := by
  obtain ⟨cs, h1, h2⟩ := h
  obtain ⟨B, d, a1, a2, a3, a4, _, _⟩ := h2 j hj
  obtain ⟨A', c', e'⟩ := own_form h1
  injection e' with eA en ec
  subst eA; subst en; subst ec
  obtain ⟨g, c2, e, _, _⟩ := h1.form (by omega)
  injection e with e _ _
  subst e
  refine ⟨g, B, d, rfl, ?_, a2, a3, a4⟩
  rw [h1.cellAt j (by omega), a1]
end

/-- 'make([]T, 0, m)' of one-cell elements. -/
theorem wpList_make_none {P : Program} (w : World) {ops : Array Oper} {rest : List Oper} {o : Oper} {a : Act} {Q : Exit → Act → World → Prop}
    (hg : o.guard = none) (l c : Operand) (t : TypeId) (hop : o.op = Op.makeSlice t l c)
    (base : Nat) (e : TypeId) (i : TypeInfo) (z : Value) (h1 : P.underlying t = some (.slice e)) (h2 : P.info? e = some i) (h3 : i.zero = some z) (h4 : i.size = 1) (h5 : z.cells.size = 1)
    (kl kc : IntKind) (L C : Int) (m : Nat) (hl : a.eval l = .int kl L) (hc : a.eval c = .int kc C) (hL : L = 0) (hC : C = (m : Int)) (b2 : i.bytes * m ≤ 281474976710656) (b3 : m ≤ maxLen) (b4 : base ≤ w.heap.size)
    (hK : ∀ w', w'.ownsRow base e 1 (.slice (some ⟨w.heap.size, 0, none⟩) 0 m) 0 [] → w.grownBy w' none → wpList P ops Q rest (a.put o.dst (.slice (some ⟨w.heap.size, 0, none⟩) 0 m)) w') :
    wpList P ops Q (o :: rest) a w := by
  refine wpList_plain hg fun K hK' => ?_
  subst hL; subst hC
  have b3' := b3
  simp [maxLen] at b3'
  have hb' : (i.bytes : Int) * (m : Int) ≤ 281474976710656 := by
    have h : ((i.bytes * m : Nat) : Int) ≤ 281474976710656 := by omega
    rwa [Int.natCast_mul] at h
  have hr := run_make (P := P) w t e i _ h1 h2 h3 kl kc 0 (m : Int) (by omega) (by omega) hb' (by omega)
  simp only [Int.toNat_natCast, h4, Nat.mul_one] at hr
  unfold Oper.wp
  simp [execOp, hop, hl, hc, hr, Result.andThen]
  exact hK' _ _ (hK _ ⟨rfl, .inr ⟨w.heap.size, m, _, rfl, b4, heap_alloc_new w _, Nat.zero_le _, b3, by rw [size_madeCells, Nat.mul_one], by simp⟩⟩ (World.grownBy_alloc w _ none))

theorem results_tmp_cell_tmp {fn : Func} {t p u : Tmp} {ty : TypeId} (h : fn.results = #[.tmp t, .cell p ty, .tmp u]) (tmps : Array Value) (P : Program) (w : World) :
    (results fn tmps).run P w =
      ((asAddr (tmps.getD p undef)).run P w).andThen fun a w₁ => ((loadVar ty a).run P w₁).andThen fun x w₂ => .ok (.tuple #[tmps.getD t undef, x, tmps.getD u undef]) w₂ := by
  simp only [results, h]
  simp [Sem.run_bind, Result.andThen]

theorem ret_tmp_row_tmp {P : Program} {fn : Func} {R : Ending → World → Prop} {a : Act} {w : World} {t0 p u : Tmp} {ty : TypeId} {g : Nat} {cs : List Value} {t : TypeId} {d : TypeDesc} (hres : fn.results = #[.tmp t0, .cell p ty, .tmp u])
    (hp : a.tmps.getD p undef = .pointer (some ⟨g, 0, none⟩)) (hb : Bl w g cs t) (hu : P.underlying ty = some d) (hd : d.isRow = true) (hi : (P.info? ty).map (·.size) = some cs.length)
    (hdf : a.defers = []) (hR : R (.returned (.tuple #[a.tmps.getD t0 undef, .agg cs.toArray, a.tmps.getD u undef])) w) : bodyPost P fn R .ret a w := by
  refine bodyPost_ret ?_ hdf hR
  rw [results_tmp_cell_tmp hres, hp]
  simp only [asAddr, Sem.run_pure, Result.andThen_ok]
  rw [run_loadVar_mid w g 0 ty cs d hb.whole hu hd hi]
  rfl

end Go.Proofs.YtlnoopmblmkgkaaGreatDoor

namespace Go.Proofs.YtlnoopmblmkgkaaGreatDoor
set_option maxRecDepth 100000
open Go Go.RowKit
set_option linter.unusedVariables false
set_option linter.unusedSimpArgs false

/-- Is it a counter? -/
def cnok (e l : Int) : Bool := decide (0 ≤ e) && (decide (e ≤ 64) && (decide (0 ≤ l) && decide (l ≤ 1099511627776)))
theorem cnok_iff (e l : Int) : cnok e l = true ↔ 0 ≤ e ∧ e ≤ 64 ∧ 0 ≤ l ∧ l ≤ 1099511627776 := by unfold cnok; simp
/-- The cells of a counter. -/
def cnt (e l : Int) : List Value := [.int .i64 e, .int .i64 l]
theorem cnt_one (e l : Int) : ∀ v ∈ cnt e l, v.oneCell' = true := by
  intro v hv
  simp only [cnt, List.mem_cons, List.not_mem_nil, or_false] at hv
  rcases hv with rfl | rfl <;> rfl

theorem size_cn : (Tryz.prog.info? 123).map (·.size) = some 2 := by kernel_rfl

theorem zero_cn : (Tryz.prog.info? 123).map (·.zero) = some (some (.agg (cnt 0 0).toArray)) := by kernel_rfl

theorem built_cn0 : Tryz.prog.built 123 [] = some (cnt 0 0).toArray := by kernel_rfl

theorem built_cn (e l : Int) : Tryz.prog.built 123 [(0, .int .i64 e), (1, .int .i64 l)] = some (cnt e l).toArray := by kernel_rfl

/-- A counter in a new variable: the world behind it under a name. -/
theorem put_cn (w : World) (e l : Int) (T : TypeId) : ∃ W, Hid (w.alloc (.cells (cnt e l).toArray T) = W) ∧ Bl W w.heap.size (cnt e l) T ∧ Below w.heap.size w W ∧ W.heap.size = w.heap.size + 1 ∧ W.cell? ⟨w.heap.size, 0, none⟩ = some (.int .i64 e) ∧ W.cell? ⟨w.heap.size, 1, none⟩ = some (.int .i64 l) := by
  have b0 := Bl.new w (cnt e l) T
  exact ⟨_, (rfl : _ = _), b0, (Below.refl _ w).alloc (Nat.le_refl _) _, alloc_size w _, by rw [b0.cell]; rfl, by rw [b0.cell]; rfl⟩

set_option maxHeartbeats 400000 in
theorem nright_any (e l : Int) (w : World) : Calls Tryz.prog 92 #[.agg (cnt e l).toArray] w fun r w' => r = .returned (.bool (cnok e l)) ∧ Below w.heap.size w w' := by
  obtain ⟨W, HW, b0, hb0, hsz, hc0, hc1⟩ := put_cn w e l 123
  obtain ⟨r, hr⟩ : ∃ r, r = cnok e l := ⟨_, rfl⟩
  rw [← hr]
  have HR := Lib.hid hr
  clear hr hsz b0
  go_enter Tryz.func92, Tryz.ntmps92
  rcases (show ¬ 0 ≤ e ∨ (0 ≤ e ∧ ¬ e ≤ 64) ∨ (0 ≤ e ∧ e ≤ 64 ∧ ¬ 0 ≤ l) ∨ (0 ≤ e ∧ e ≤ 64 ∧ 0 ≤ l ∧ ¬ l ≤ 1099511627776) ∨ (0 ≤ e ∧ e ≤ 64 ∧ 0 ≤ l ∧ l ≤ 1099511627776) by omega) with h1 | ⟨h1, h2⟩ | ⟨h1, h2, h3⟩ | ⟨h1, h2, h3, h4⟩ | ⟨h1, h2, h3, h4⟩
  all_goals
    go_wp2_with (refine wpList_box_agg rfl 123 _ rfl (cnt e l) rfl ?_; rw [HW.out])
    go_ret
    exact ⟨ret_bool (by rw [HR.out]; unfold cnok; simp_all <;> omega), hb0⟩

theorem rnright_any (e l : Int) (w : World) : Calls Tryz.prog 68 #[.int .i64 e, .int .i64 l] w fun r w' => r = .returned (.bool (cnok e l)) ∧ w = w' := by
  obtain ⟨r, hr⟩ : ∃ r, r = cnok e l := ⟨_, rfl⟩
  rw [← hr]
  have HR := Lib.hid hr
  clear hr
  go_enter Tryz.func68, Tryz.ntmps68
  rcases (show ¬ 0 ≤ e ∨ (0 ≤ e ∧ ¬ e ≤ 64) ∨ (0 ≤ e ∧ e ≤ 64 ∧ ¬ 0 ≤ l) ∨ (0 ≤ e ∧ e ≤ 64 ∧ 0 ≤ l ∧ ¬ l ≤ 1099511627776) ∨ (0 ≤ e ∧ e ≤ 64 ∧ 0 ≤ l ∧ l ≤ 1099511627776) by omega) with h1 | ⟨h1, h2⟩ | ⟨h1, h2, h3⟩ | ⟨h1, h2, h3, h4⟩ | ⟨h1, h2, h3, h4⟩
  all_goals
    go_wp2
    go_ret
    exact ⟨ret_bool (by rw [HR.out]; unfold cnok; simp_all <;> omega), rfl⟩

/-- What Turn tells. -/
def turnE (e l ep : Int) : Int := if cnok e l = true ∧ e < ep ∧ ep ≤ 64 then 0 else 1
def turnC (e l ep : Int) : List Value := if cnok e l = true ∧ e < ep ∧ ep ≤ 64 then cnt ep l else cnt 0 0

end Go.Proofs.YtlnoopmblmkgkaaGreatDoor

namespace Go.Proofs.YtlnoopmblmkgkaaGreatDoor
set_option maxRecDepth 100000
open Go Go.RowKit
set_option linter.unusedVariables false
set_option linter.unusedSimpArgs false

/-- The nonce of a counter, or nothing. -/
def nbL (e l : Int) : List UInt8 := if cnok e l = true then nonceL e.toNat l.toNat else []
def nbE (e l : Int) : Int := if cnok e l = true then 0 else 1
theorem nbL_le (e l : Int) : (nbL e l).length ≤ 12 := by unfold nbL; split <;> simp [nonceL_len]

theorem nonce_splice (a b : List UInt8) (ha : a.length = 4) (hb : b.length = 8) : splice (splice (zeros .u8 12) 0 (cb a)) 4 (cb b) = cb (a ++ b) := by
  rw [zeros_cb, ← cb_splice, ← cb_splice]
  congr 1
  unfold splice
  simp [ha, hb]

theorem size_n12 : (Tryz.prog.info? 158).map (·.size) = some 12 := by kernel_rfl

theorem zero_n12 : (Tryz.prog.info? 158).map (·.zero) = some (some (.agg (zeros .u8 12).toArray)) := by kernel_rfl

set_option maxHeartbeats 1000000 in
theorem nbytes_any (e l : Int) (w : World) : Calls Tryz.prog 93 #[.agg (cnt e l).toArray] w (RetBytes 158 w (nbL e l).length (nbL e l)) := by
  obtain ⟨W, HW, b0, hb0, hsz, hc0, hc1⟩ := put_cn w e l 123
  have HB := Lib.hid b0
  have hcall := nright_any e l W
  by_cases hok : cnok e l = true
  · obtain ⟨h0, h1, h2, h3⟩ := (cnok_iff e l).1 hok
    obtain ⟨en, rfl⟩ : ∃ en : Nat, e = en := ⟨e.toNat, by omega⟩
    obtain ⟨ln, rfl⟩ : ∃ ln : Nat, l = ln := ⟨l.toNat, by omega⟩
    rw [hok] at hcall
    have HC := Lib.hid hcall
    have HL : Hid (nbL en ln = stored en false ++ told8 ln) := by unfold Hid nbL; rw [if_pos hok]; rfl
    obtain ⟨R, hR⟩ : ∃ R, R = nbL en ln := ⟨_, rfl⟩
    rw [← hR] at HL ⊢
    have HRL : Hid (R.length = 12) := by unfold Hid; rw [HL.out, List.length_append, stored_len, told8_len]
    rw [HRL.out]
    have hwe : IntKind.u32.wrap (en : Int) = (en : Int) := by simp only [IntKind.wrap_u32]; omega
    have hwl : IntKind.u64.wrap (ln : Int) = (ln : Int) := by simp only [IntKind.wrap_u64]; omega
    have HWE := Lib.hid hwe
    have HWL := Lib.hid hwl
    clear hok h0 h1 h2 h3 hcall hsz hR hc0 hc1 hwe hwl
    go_enter Tryz.func93, Tryz.ntmps93
    go_wp2_with (first
      | (refine wpList_box_agg rfl 123 _ rfl (cnt en ln) rfl ?_; rw [HW.out])
      | (refine wpList_load_mid rfl 123 _ rfl _ _ rfl (cnt en ln) _ HB.out.whole Tryz.underlying123 rfl size_cn ?_)
      | (go_at_call 92; refine HC.out.mono ?_; rintro r w3 ⟨rfl, hb3⟩)
      | (refine wpList_alloc_zero rfl 158 rfl (zeros .u8 12) zero_n12 ?_)
      | fail)
    replace b0 := b0.next hb3
    replace hb0 := next hb0 hb3
    have b4 := Bl.new w3 (zeros .u8 12) 158
    have hb4 : Below w3.heap.size w3 (w3.alloc (.cells (zeros .u8 12).toArray 158)) := (Below.refl _ w3).alloc (Nat.le_refl _) _
    obtain ⟨W4, hW4⟩ : ∃ W, W = w3.alloc (.cells (zeros .u8 12).toArray 158) := ⟨_, rfl⟩
    rw [← hW4] at b4 hb4
    obtain ⟨g, hg⟩ : ∃ g, g = w3.heap.size := ⟨_, rfl⟩
    have hgl : w.heap.size < g := by rw [hg]; exact b0.lt
    rw [← hg] at b4
    have hbl : Below w.heap.size w W4.drew := (next hb0 hb4).drew
    have b4d := b4.drew
    have b0d := (b0.next hb4).drew
    have hd0 : W4.drew.cell? ⟨w.heap.size, 0, none⟩ = some (.int .i64 (en : Int)) := by rw [b0d.cell]; rfl
    have HW4 := Lib.hid hW4
    have HG := Lib.hid hg
    obtain ⟨S1, hS1⟩ : ∃ x, x = stored en false := ⟨_, rfl⟩
    obtain ⟨S2, hS2⟩ : ∃ x, x = told8 ln := ⟨_, rfl⟩
    have HS1L : Hid (S1.length = 4) := by unfold Hid; rw [hS1, stored_len]
    have HS2L : Hid (S2.length = 8) := by unfold Hid; rw [hS2, told8_len]
    rw [← hS1, ← hS2] at HL
    have HS1 := Lib.hid hS1
    have HS2 := Lib.hid hS2
    have hsa := run_slice_arr_to (P := Tryz.prog) (t := 158) (e := 5) (g := g) (o := 0) (n := 12) (ht := Tryz.underlying158) (he := u8_size) (kh := .i64) (H := 4) (h := 4) (eH := rfl) (h2 := by omega) (_h3 := by omega)
    have hsb := run_slice_arr_from (P := Tryz.prog) (t := 158) (e := 5) (g := g) (o := 0) (n := 12) (ht := Tryz.underlying158) (he := u8_size) (kl := .i64) (L := 4) (l := 4) (eL := rfl) (h3 := by omega)
    have HSA := Lib.hid hsa
    have HSB := Lib.hid hsb
    clear hW4 hg hS1 hS2 hsa hsb b0 hb0 b4 hb4 hb3
    rw [← HW4.out, ← HG.out]
    refine wp_region_any (by kernel_rfl) ?_
    change wpAny _ _ _ _ _ _ _ (World.drew _)
    refine wpAny_take (i := 0) (v := (.slice (some ⟨g, 0, none⟩) 4 12)) rfl (by kernel_rfl) (by kernel_rfl) (by kernel_rfl) (fun _ _ _ h => h) (Or.inl ⟨by rfl, fun _ => by go_simp⟩) ?_
    simp only [List.getElem_toArray, List.getElem_cons_succ, List.getElem_cons_zero, Act.put, List.setIfInBounds_toArray, List.set_cons_zero, List.set_cons_succ]
    refine wpAny_take (i := 1) (v := (.pointer (some ⟨w.heap.size, 0, none⟩))) rfl (by kernel_rfl) (by kernel_rfl) (by kernel_rfl) (fun _ _ _ h => h) (Or.inl ⟨by rfl, fun _ => by go_simp⟩) ?_
    simp only [List.getElem_toArray, List.getElem_cons_succ, List.getElem_cons_zero, Act.put, List.setIfInBounds_toArray, List.set_cons_zero, List.set_cons_succ]
    refine wpAny_one (i := 2) (by kernel_rfl) rfl (by rfl) (fun K hK => ?_)
    simp only [List.getElem_toArray, List.getElem_cons_succ, List.getElem_cons_zero, Act.put, List.setIfInBounds_toArray, List.set_cons_zero, List.set_cons_succ]
    go_simp
    refine hK.out _ _ ?_
    clear hK K
    refine wpAny_take (i := 3) (v := (.int .u32 (en : Int))) rfl (by kernel_rfl) (by kernel_rfl) (by kernel_rfl) (fun _ _ _ h => h) (Or.inl ⟨by rfl, fun _ => by go_simp; rw [HWE.out]⟩) ?_
    simp only [List.getElem_toArray, List.getElem_cons_succ, List.getElem_cons_zero, Act.put, List.setIfInBounds_toArray, List.set_cons_zero, List.set_cons_succ]
    refine wpAny_one (i := 4) (by kernel_rfl) rfl (by rfl) (fun K hK => ?_)
    simp only [List.getElem_toArray, List.getElem_cons_succ, List.getElem_cons_zero, Act.put, List.setIfInBounds_toArray, List.set_cons_zero, List.set_cons_succ]
    go_simp
    refine (store_any en false _).mono ?_
    rintro r w5 ⟨A5, c5, rfl, n5⟩
    rw [← HS1.out] at n5
    refine hK.out _ _ ?_
    clear hK K
    have b5 := b4d.next n5.below
    have b05 := b0d.next n5.below
    have hb5 := next hbl n5.below
    obtain ⟨w6, hcp, b6, hg6⟩ := run_copy_but (P := Tryz.prog) w5 22 22 3 5 Tryz.underlying22 u8_size g 0 4 12 _ A5 4 c5 (cb S1) n5.sl _ _ b5 (by rw [zeros_len]; omega) (cb_one _)
    rw [List.take_of_length_le (by rw [cb_len, HS1L.out]; omega)] at b6
    have b06 := b05.grown hg6 (by intro e; injection e with e; omega)
    have hb6 : Below w.heap.size w w6 := below_but hb5 hg6 hb5.size (by omega)
    have HCP := Lib.hid hcp
    clear hcp b5 b05 hb5 hg6 n5 b4d b0d hbl
    refine wpAny_one (i := 5) (by kernel_rfl) rfl (by rfl) (fun K hK => ?_)
    simp only [List.getElem_toArray, List.getElem_cons_succ, List.getElem_cons_zero, Act.put, List.setIfInBounds_toArray, List.set_cons_zero, List.set_cons_succ]
    go_simp
    rw [HCP.out]
    go_simp
    refine hK.out _ _ ?_
    clear hK K
    refine wpAny_done (by kernel_rfl) ?_ _
    go_wp2_with fail
    have hc6 : w6.drew.cell? ⟨w.heap.size, 1, none⟩ = some (.int .i64 (ln : Int)) := by rw [b06.drew.cell]; rfl
    refine wp_region_any (by kernel_rfl) ?_
    change wpAny _ _ _ _ _ _ _ (World.drew _)
    refine wpAny_take (i := 0) (v := (.slice (some ⟨g, 4, none⟩) 8 8)) rfl (by kernel_rfl) (by kernel_rfl) (by kernel_rfl) (fun _ _ _ h => h) (Or.inl ⟨by rfl, fun _ => by go_simp⟩) ?_
    simp only [List.getElem_toArray, List.getElem_cons_succ, List.getElem_cons_zero, Act.put, List.setIfInBounds_toArray, List.set_cons_zero, List.set_cons_succ]
    refine wpAny_take (i := 1) (v := (.pointer (some ⟨w.heap.size, 1, none⟩))) rfl (by kernel_rfl) (by kernel_rfl) (by kernel_rfl) (fun _ _ _ h => h) (Or.inl ⟨by rfl, fun _ => by go_simp⟩) ?_
    simp only [List.getElem_toArray, List.getElem_cons_succ, List.getElem_cons_zero, Act.put, List.setIfInBounds_toArray, List.set_cons_zero, List.set_cons_succ]
    refine wpAny_one (i := 2) (by kernel_rfl) rfl (by rfl) (fun K hK => ?_)
    simp only [List.getElem_toArray, List.getElem_cons_succ, List.getElem_cons_zero, Act.put, List.setIfInBounds_toArray, List.set_cons_zero, List.set_cons_succ]
    go_simp
    refine hK.out _ _ ?_
    clear hK K
    refine wpAny_take (i := 3) (v := (.int .u64 (ln : Int))) rfl (by kernel_rfl) (by kernel_rfl) (by kernel_rfl) (fun _ _ _ h => h) (Or.inl ⟨by rfl, fun _ => by go_simp; rw [HWL.out]⟩) ?_
    simp only [List.getElem_toArray, List.getElem_cons_succ, List.getElem_cons_zero, Act.put, List.setIfInBounds_toArray, List.set_cons_zero, List.set_cons_succ]
    refine wpAny_one (i := 4) (by kernel_rfl) rfl (by rfl) (fun K hK => ?_)
    simp only [List.getElem_toArray, List.getElem_cons_succ, List.getElem_cons_zero, Act.put, List.setIfInBounds_toArray, List.set_cons_zero, List.set_cons_succ]
    go_simp
    refine (tell_any ln _).mono ?_
    rintro r w7 ⟨A7, c7, rfl, n7⟩
    rw [← HS2.out] at n7
    refine hK.out _ _ ?_
    clear hK K
    have b7 := b6.drew.next n7.below
    have hb7 := next hb6.drew n7.below
    obtain ⟨w8, hcp, b8, hg8⟩ := run_copy_but (P := Tryz.prog) w7 22 22 3 5 Tryz.underlying22 u8_size g 4 8 8 _ A7 8 c7 (cb S2) n7.sl _ _ b7 (by unfold splice; simp [zeros_len, cb_len, HS1L.out]) (cb_one _)
    rw [List.take_of_length_le (by rw [cb_len, HS2L.out]; omega), nonce_splice _ _ HS1L.out HS2L.out, ← HL.out] at b8
    have hb8 : Below w.heap.size w w8 := below_but hb7 hg8 hb7.size (by omega)
    have HCP2 := Lib.hid hcp
    clear hcp b7 hb7 hg8 n7 b6 b06 hb6 hc6 hd0
    refine wpAny_one (i := 5) (by kernel_rfl) rfl (by rfl) (fun K hK => ?_)
    simp only [List.getElem_toArray, List.getElem_cons_succ, List.getElem_cons_zero, Act.put, List.setIfInBounds_toArray, List.set_cons_zero, List.set_cons_succ]
    go_simp
    rw [HCP2.out]
    go_simp
    refine hK.out _ _ ?_
    clear hK K
    refine wpAny_done (by kernel_rfl) ?_ _
    go_wp2
    go_ret
    exact retBytes rfl rfl (own_of_block b8 (by omega) (by rw [cb_len, HRL.out]) (by decide)) hb8
  · rw [Bool.not_eq_true] at hok
    rw [hok] at hcall
    have HC := Lib.hid hcall
    have HL : nbL e l = [] := by unfold nbL; rw [if_neg (by rw [hok]; simp)]
    rw [HL]
    clear hok hcall hsz hc0 hc1
    go_enter Tryz.func93, Tryz.ntmps93
    go_wp2_with (first
      | (refine wpList_box_agg rfl 123 _ rfl (cnt e l) rfl ?_; rw [HW.out])
      | (refine wpList_load_mid rfl 123 _ rfl _ _ rfl (cnt e l) _ HB.out.whole Tryz.underlying123 rfl size_cn ?_)
      | (go_at_call 92; refine HC.out.mono ?_; rintro r w3 ⟨rfl, hb3⟩))
    go_ret
    exact ⟨none, 0, rfl, World.ownsRow_nil _ _ _ _, next hb0 hb3⟩

/-- A counter that is written into a new variable: the world behind it under a name. -/
theorem put_cn2 (w : World) (e l : Int) (T : TypeId) : ∃ W, Hid ((w.alloc (.cells (cnt 0 0).toArray T)).setCells w.heap.size 0 (cnt e l).toArray.toList = W) ∧ (w.alloc (.cells (cnt 0 0).toArray T)).there w.heap.size 0 (cnt e l).toArray.size ∧
    Bl W w.heap.size (cnt e l) T ∧ Below w.heap.size w W ∧ W.heap.size = w.heap.size + 1 ∧ W.cell? ⟨w.heap.size, 0, none⟩ = some (.int .i64 e) ∧ W.cell? ⟨w.heap.size, 1, none⟩ = some (.int .i64 l) := by
  obtain ⟨b0, hb0, hsz0⟩ := put_new w (cnt 0 0) (cnt e l) T rfl
  exact ⟨_, (rfl : _ = _), (Bl.new w (cnt 0 0) T).there_ (by simp [cnt]), b0, hb0, hsz0, by rw [b0.cell]; rfl, by rw [b0.cell]; rfl⟩

set_option maxHeartbeats 1000000 in
theorem nof_any (e l : Int) (w : World) : Calls Tryz.prog 61 #[.int .i64 e, .int .i64 l] w (RetFill 158 w (nbL e l) (nbE e l)) := by
  obtain ⟨W, HW, hth, b0, hb0, hsz, hc0, hc1⟩ := put_cn2 w e l 123
  have hcall := nright_any e l W
  by_cases hok : cnok e l = true
  · have HE : nbE e l = 0 := by unfold nbE; rw [if_pos hok]
    rw [HE]
    rw [hok] at hcall
    have HC := Lib.hid hcall
    have HB := Lib.hid b0
    clear hok hcall hc0 hc1 hsz HE b0
    go_enter Tryz.func61, Tryz.ntmps61
    go_wp2_with (first
      | (refine wpList_build_to rfl 123 _ rfl (cnt e l) (built_cn e l) ?_)
      | (refine wpList_alloc_zero rfl 123 rfl (cnt 0 0) zero_cn ?_)
      | (refine wpList_store_mid rfl 123 _ _ rfl _ _ (cnt e l).toArray rfl rfl hth size_cn (all_oneCell_toArray (cnt_one _ _)) ?_; rw [HW.out])
      | (refine wpList_load_mid rfl 123 _ rfl _ _ rfl (cnt e l) _ HB.out.whole Tryz.underlying123 rfl size_cn ?_)
      | (refine wpList_load_mid rfl 123 _ rfl _ _ rfl (cnt e l) _ (HB.out.next hb3).whole Tryz.underlying123 rfl size_cn ?_)
      | (go_at_call 92; refine HC.out.mono ?_; rintro r w3 ⟨rfl, hb3⟩)
      | (go_at_call 93; refine (nbytes_any e l _).mono ?_; rintro r w4 ⟨A4, c4, rfl, n4⟩))
    go_ret2
    exact ⟨A4, _, c4, rfl, n4.down (next hb0 hb3)⟩
  · rw [Bool.not_eq_true] at hok
    have HE : nbE e l = 1 := by unfold nbE; rw [if_neg (by rw [hok]; simp)]
    have HL : nbL e l = [] := by unfold nbL; rw [if_neg (by rw [hok]; simp)]
    rw [HE, HL]
    rw [hok] at hcall
    have HC := Lib.hid hcall
    have HB := Lib.hid b0
    clear hok hcall hc0 hc1 hsz HE HL b0
    go_enter Tryz.func61, Tryz.ntmps61
    go_wp2_with (first
      | (refine wpList_build_to rfl 123 _ rfl (cnt e l) (built_cn e l) ?_)
      | (refine wpList_alloc_zero rfl 123 rfl (cnt 0 0) zero_cn ?_)
      | (refine wpList_store_mid rfl 123 _ _ rfl _ _ (cnt e l).toArray rfl rfl hth size_cn (all_oneCell_toArray (cnt_one _ _)) ?_; rw [HW.out])
      | (refine wpList_load_mid rfl 123 _ rfl _ _ rfl (cnt e l) _ HB.out.whole Tryz.underlying123 rfl size_cn ?_)
      | (go_at_call 92; refine HC.out.mono ?_; rintro r w3 ⟨rfl, hb3⟩))
    go_ret2
    exact ⟨none, 0, 0, rfl, World.ownsRow_nil _ _ _ _, next hb0 hb3⟩

/-- What twelve bytes are read as. -/
def rdB (b : List UInt8) : Bool := decide (b.length = 12) && (decide (val (b.take 4) ≤ 64) && decide (val (b.drop 4) ≤ 1099511627776))
def rdP (b : List UInt8) : Nat := if rdB b = true then val (b.take 4) else 0
def rdN (b : List UInt8) : Nat := if rdB b = true then val (b.drop 4) else 0
def rdE (b : List UInt8) : Int := if rdB b = true then 0 else 5
theorem rdB_iff (b : List UInt8) : rdB b = true ↔ b.length = 12 ∧ val (b.take 4) ≤ 64 ∧ val (b.drop 4) ≤ 1099511627776 := by unfold rdB; simp

theorem rd_ok {b : List UInt8} (h : b.length = 12) : cnok (val (b.take 4)) (IntKind.i64.wrap (val (b.drop 4))) = rdB b := by
  have v4 := val_lt (b.take 4)
  have v8 := val_lt (b.drop 4)
  rw [List.length_take, h] at v4
  rw [List.length_drop, h] at v8
  rw [Bool.eq_iff_iff, cnok_iff, rdB_iff]
  generalize val (b.take 4) = x at *
  generalize val (b.drop 4) = y at *
  simp only [IntKind.wrap_i64]
  simp at v4 v8
  omega

theorem rd_nonce (e n : Nat) (he : e ≤ 64) (hn : n ≤ 1099511627776) : rdP (nonceL e n) = e ∧ rdN (nonceL e n) = n ∧ rdE (nonceL e n) = 0 := by
  have h4 : (nonceL e n).take 4 = stored e false := by unfold nonceL; rw [List.take_append_of_le_length (by rw [stored_len]; omega), List.take_of_length_le (by rw [stored_len]; omega)]
  have h8 : (nonceL e n).drop 4 = told8 n := by unfold nonceL; rw [List.drop_append, List.drop_of_length_le (by rw [stored_len]; omega), stored_len]; simp
  have v4 : val (stored e false) = e := by unfold stored; simp only [Bool.false_eq_true, if_false]; rw [val_le, Nat.mod_eq_of_lt (by omega)]
  have v8 : val (told8 n) = n := by unfold told8; rw [val_le, Nat.mod_eq_of_lt (by omega)]
  have hb : rdB (nonceL e n) = true := (rdB_iff _).2 ⟨nonceL_len _ _, by rw [h4, v4]; exact he, by rw [h8, v8]; exact hn⟩
  refine ⟨?_, ?_, ?_⟩
  · unfold rdP; rw [hb, if_pos rfl, h4, v4]
  · unfold rdN; rw [hb, if_pos rfl, h8, v8]
  · unfold rdE; rw [hb, if_pos rfl]
theorem nb_rd {b : List UInt8} (h : rdB b = true) : nbL (rdP b) (rdN b) = b ∧ nbE (rdP b) (rdN b) = 0 ∧ rdE b = 0 := by
  obtain ⟨h1, h2, h3⟩ := (rdB_iff b).1 h
  have e1 : rdP b = val (b.take 4) := by unfold rdP; rw [if_pos h]
  have e2 : rdN b = val (b.drop 4) := by unfold rdN; rw [if_pos h]
  have hc : cnok (rdP b : Nat) (rdN b : Nat) = true := (cnok_iff _ _).2 (by rw [e1, e2]; omega)
  refine ⟨?_, ?_, ?_⟩
  · unfold nbL; rw [if_pos hc, e1, e2]; simpa using nonceL_of h1
  · unfold nbE; rw [if_pos hc]
  · unfold rdE; rw [if_pos h]
theorem rd_no {b : List UInt8} (h : rdB b = false) : rdP b = 0 ∧ rdN b = 0 ∧ rdE b = 5 := by
  unfold rdP rdN rdE
  simp [h]

end Go.Proofs.YtlnoopmblmkgkaaGreatDoor

namespace Go.Proofs.YtlnoopmblmkgkaaGreatDoor
set_option maxRecDepth 100000
open Go Go.RowKit
set_option linter.unusedVariables false

/-- An operation that gives a value and leaves the world as it is, as a step. -/
theorem wpList_value {P : Program} {ops : Array Oper} {rest : List Oper} {o : Oper} {a : Act} {w : World} {Q : Exit → Act → World → Prop} (hgd : o.guard = none) (v : Value) (hr : (execOp a.eval o).run P w = .ok (.value v) w) (h : wpList P ops Q rest (a.put o.dst v) w) : wpList P ops Q (o :: rest) a w := by
  refine wpList_plain hgd fun K hK => ?_
  unfold Oper.wp
  rw [hr]
  exact hK _ _ h

theorem cn_guard : Tryz.prog.eqGuardType Tryz.prog.depth 123 = false := by kernel_rfl

theorem cn_fields : (Tryz.prog.fieldsOf 123).toList.map (fun f => (f.name == "_", f.type, f.offset)) = [(false, 3, 0), (false, 3, 1)] := by kernel_rfl

theorem cn_struct : Tryz.prog.underlying 123 = some (.struct (Tryz.prog.fieldsOf 123)) := by kernel_rfl

theorem cn_stood : Tryz.prog.stoodInHeld 123 = false := by kernel_rfl

theorem eqIn_cn (w : World) (a b c d : Int) : (Op.equalIn 10000 123 (.agg (cnt a b).toArray) (.agg (cnt c d).toArray)).run Tryz.prog w = .ok (decide (a = c) && decide (b = d)) w := by
  rw [run_equalIn_agg w 9999 _ _ _ cn_struct cn_stood]
  have hf := cn_fields
  have hlen : (Tryz.prog.fieldsOf 123).toList.length = 2 := by have := congrArg List.length hf; simpa using this
  generalize (Tryz.prog.fieldsOf 123).toList = fs at hf hlen
  match fs, hlen with
  | [f, g], _ =>
    simp only [List.map_cons, List.map_nil, List.cons.injEq, Prod.mk.injEq, and_true] at hf
    obtain ⟨⟨f1, f2, f3⟩, ⟨g1, g2, g3⟩⟩ := hf
    simp only [beq_eq_false_iff_ne] at f1 g1
    have pt : ∀ (xs : Array Value) (o : Nat) (v : Value), xs[o]? = some v → (part 3 xs o).run Tryz.prog w = .ok v w := by
      intro xs o v hv
      have hs : (Tryz.prog.info? 3).map (·.size) = some 1 := by kernel_rfl
      cases hq2 : Tryz.prog.info? 3 with
      | none => simp [hq2] at hs
      | some ii =>
        have hsz : ii.size = 1 := by simpa [hq2] using hs
        have hagg : (isAgg 3).run Tryz.prog w = .ok false w := by
          unfold isAgg
          rw [Sem.run_bind, run_underlying Tryz.underlying3 w]
          rfl
        simp [part, hagg, sizeOf, typeInfo, hq2, hsz, hv]
    have e1 : ∀ (x y : Int), (Op.equalIn 9999 3 (.int .i64 x) (.int .i64 y)).run Tryz.prog w = .ok (x == y) w := fun x y => run_equalIn_int w 9998 _ .i64 .i64 x y Tryz.underlying3
    simp only [Op.eqFields, ne_eq, f1, g1, not_false_eq_true, if_true, Sem.run_bind, f2, f3, g2, g3]
    rw [pt _ 0 (.int .i64 a) rfl]
    simp only [Result.andThen_ok]
    rw [pt _ 0 (.int .i64 c) rfl]
    simp only [Result.andThen_ok, e1]
    by_cases h1 : a = c
    · subst h1
      simp only [beq_self_eq_true, Bool.not_true, Bool.false_eq_true, if_false, Sem.run_bind]
      rw [pt _ 1 (.int .i64 b) rfl]
      simp only [Result.andThen_ok]
      rw [pt _ 1 (.int .i64 d) rfl]
      simp only [Result.andThen_ok, e1]
      by_cases h2 : b = d
      · subst h2; simp
      · have : (b == d) = false := by simpa using h2
        simp [this, h2]
    · have : (a == c) = false := by simpa using h1
      simp [this, h1]

theorem exec_neq_cn {x9 : Act} {o : Oper} (w : World) (x y : Operand) (t : TypeId) (a b c d : Int) (ho : o.op = .binOp .neq 123 x y t) (hx : x9.eval x = .agg (cnt a b).toArray) (hy : x9.eval y = .agg (cnt c d).toArray) (r : Bool) (hr : r = !(decide (a = c) && decide (b = d))) :
    (execOp x9.eval o).run Tryz.prog w = .ok (.value (.bool r)) w := by
  unfold execOp
  simp only [ho, hx, hy, Sem.run_bind, run_eqGuard_agg w .neq _ x y _ _ cn_guard, Result.andThen_ok, run_neq_struct, eqIn_cn w, hr]
  rfl

theorem exec_eql_cn {x9 : Act} {o : Oper} (w : World) (x y : Operand) (t : TypeId) (a b c d : Int) (ho : o.op = .binOp .eql 123 x y t) (hx : x9.eval x = .agg (cnt a b).toArray) (hy : x9.eval y = .agg (cnt c d).toArray) (r : Bool) (hr : r = (decide (a = c) && decide (b = d))) :
    (execOp x9.eval o).run Tryz.prog w = .ok (.value (.bool r)) w := by
  unfold execOp
  simp only [ho, hx, hy, Sem.run_bind, run_eqGuard_agg w .eql _ x y _ _ cn_guard, Result.andThen_ok, run_eql_struct, eqIn_cn w, hr]
  rfl

end Go.Proofs.YtlnoopmblmkgkaaGreatDoor

namespace Go.Proofs.YtlnoopmblmkgkaaGreatDoor
set_option maxRecDepth 100000
open Go Go.RowKit
set_option linter.unusedVariables false
set_option linter.unusedSimpArgs false

/-- The nonces of the next k numbers. -/
def nls (e l k : Nat) : List (List UInt8) := (List.range k).map fun i => nonceL e (l + 1 + i)
theorem nls_len (e l k : Nat) : (nls e l k).length = k := by simp [nls]
theorem nls_next (e l k : Nat) : nls e l (k + 1) = nls e l k ++ [nonceL e (l + k + 1)] := by
  unfold nls
  rw [List.range_succ, List.map_append]
  simp
  congr 1; omega
theorem nls_at {e l k j : Nat} (h : j < (nls e l k).length) : (nls e l k)[j] = nonceL e (l + 1 + j) := by simp [nls]
/-- What Take tells. -/
def takeE (e l n : Int) : Int := if cnok e l = true ∧ 0 ≤ n ∧ n ≤ 4096 then (if 1099511627776 - l < n then 10 else 0) else 1
def takeC (e l n : Int) : List Value := if takeE e l n = 0 then cnt e (l + n) else cnt 0 0
def takeL (e l n : Int) : List (List UInt8) := if takeE e l n = 0 then nls e.toNat l.toNat n.toNat else []
def TakePost (w : World) (e l n : Int) (r : Ending) (w' : World) : Prop := ∃ v, r = .returned (.tuple #[v, .agg (takeC e l n).toArray, .int .i64 (takeE e l n)]) ∧ OwnParts 22 w' w.heap.size v (takeL e l n) ∧ Below w.heap.size w w' /- 123 -/

theorem nbytes_ok (e l : Nat) (he : e ≤ 64) (hl : l ≤ 1099511627776) (L : Int) (hL : L = (l : Int)) (w : World) : Calls Tryz.prog 93 #[.agg (cnt e L).toArray] w (RetBytes 158 w 12 (nonceL e l)) := by
  subst hL
  have h := nbytes_any e l w
  have e1 : nbL e l = nonceL e l := by unfold nbL; rw [if_pos ((cnok_iff _ _).2 (by omega))]; simp
  rw [e1, nonceL_len] at h
  exact h

theorem takePost_no {w w' : World} {e l n : Int} {E : Int} (he : takeE e l n = E) (h0 : E ≠ 0) (hb : Below w.heap.size w w') : TakePost w e l n (.returned (.tuple #[.slice none 0 0, .agg (cnt 0 0).toArray, .int .i64 E])) w' := by
  refine ⟨.slice none 0 0, ?_, ?_, hb⟩
  · unfold takeC; rw [he, if_neg h0]
  · unfold takeL; rw [he, if_neg h0]; exact ownParts_nil _ _ _

/-- How long a slice is. -/
def slLen : Value → Nat
  | .slice _ n _ => n
  | _ => 0

end Go.Proofs.YtlnoopmblmkgkaaGreatDoor

namespace Go.Proofs.YtlnoopmblmkgkaaGreatDoor
set_option maxRecDepth 100000
open Go Go.RowKit
set_option linter.unusedVariables false
set_option linter.unusedSimpArgs false

set_option maxHeartbeats 1000000 in
theorem rnof_any (e l : Int) (w : World) : Calls Tryz.prog 40 #[.int .i64 e, .int .i64 l] w (RetFill 5 w (nbL e l) (nbE e l)) := by
  obtain ⟨i0, hi, hz0, hz1, hz2⟩ := info_parts u8_info
  have hcall := rnright_any e l w
  by_cases hok : cnok e l = true
  · obtain ⟨h0, h1, h2, h3⟩ := (cnok_iff e l).1 hok
    have HE : nbE e l = 0 := by unfold nbE; rw [if_pos hok]
    obtain ⟨en, rfl⟩ : ∃ en : Nat, e = en := ⟨e.toNat, by omega⟩
    obtain ⟨ln, rfl⟩ : ∃ ln : Nat, l = ln := ⟨l.toNat, by omega⟩
    have HL : Hid (nbL en ln = stored en false ++ told8 ln) := by unfold Hid nbL; rw [if_pos hok]; rfl
    rw [HE]
    rw [hok] at hcall
    obtain ⟨R, hR⟩ : ∃ R, R = nbL en ln := ⟨_, rfl⟩
    rw [← hR] at HL ⊢
    obtain ⟨S1, hS1⟩ : ∃ x, x = stored en false := ⟨_, rfl⟩
    obtain ⟨S2, hS2⟩ : ∃ x, x = told8 ln := ⟨_, rfl⟩
    have e1 : (le en 4).reverse = S1 := by rw [hS1]; unfold stored; simp
    have e2 : (le ln 8).reverse = S2 := by rw [hS2]; rfl
    rw [← hS1, ← hS2] at HL
    have HE1 := Lib.hid e1
    have HE2 := Lib.hid e2
    have HS1L : Hid (S1.length = 4) := by unfold Hid; rw [hS1, stored_len]
    have HS2L : Hid (S2.length = 8) := by unfold Hid; rw [hS2, told8_len]
    have hwe : IntKind.u64.wrap (en : Int) = (en : Int) := by simp only [IntKind.wrap_u64]; omega
    have hwl : IntKind.u64.wrap (ln : Int) = (ln : Int) := by simp only [IntKind.wrap_u64]; omega
    have HC := Lib.hid hcall
    have HEN : Hid (en < 18446744073709551616) := by unfold Hid; omega
    have HLN : Hid (ln < 18446744073709551616) := by unfold Hid; omega
    clear hok h0 h1 h2 h3 hcall HE hR hS1 hS2 e1 e2
    go_enter Tryz.func40, Tryz.ntmps40
    go_wp2_with (first
      | (go_at_call 68; refine HC.out.mono ?_; rintro r w1 ⟨rfl, rfl⟩)
      | fail)
    refine (told_any en 4 _ HEN.out (by omega)).mono ?_
    rintro r w1 ⟨A1, c1, rfl, n1⟩
    rw [HE1.out] at n1
    go_wp2_with fail
    refine (told_any ln 8 _ HLN.out (by omega)).mono ?_
    rintro r w2 ⟨A2, c2, rfl, n2⟩
    rw [HE2.out] at n2
    have hown := own_below n1.own n2.below
    have hb2 := next n1.below n2.below
    go_wp2_with (at_builtin; refine wpList_append_sl _ rfl _ _ 22 rfl w.heap.size 5 i0 (.int .u8 0) 1 Tryz.underlying22 hi hz0 hz1 hz2 rfl _ 4 _ rfl hown _ A2 8 c2 (cb S2) rfl n2.sl n2.none_ (cb_one _) (by unfold maxLen; omega) (by omega) hb2.size ?_; intro v3 w3 hown3 hgrow3 hat3)
    have hb3 := below_app hb2 (Nat.le_refl _) hown hgrow3
    rw [← cb_append, ← HL.out] at hown3
    have HO := Lib.hid hown3
    clear hown3 hgrow3 hat3 hown n1 n2
    go_wp2
    go_ret2
    exact retFill rfl rfl HO.out hb3
  · rw [Bool.not_eq_true] at hok
    have HE : nbE e l = 1 := by unfold nbE; rw [if_neg (by rw [hok]; simp)]
    have HL : nbL e l = [] := by unfold nbL; rw [if_neg (by rw [hok]; simp)]
    rw [HE, HL]
    rw [hok] at hcall
    have HC := Lib.hid hcall
    clear hok hcall HE HL
    go_enter Tryz.func40, Tryz.ntmps40
    go_wp2_with (go_at_call 68; refine HC.out.mono ?_; rintro r w1 ⟨rfl, rfl⟩)
    go_ret2
    exact ⟨none, 0, 0, rfl, World.ownsRow_nil _ _ _ _, Below.refl _ _⟩

end Go.Proofs.YtlnoopmblmkgkaaGreatDoor

namespace Go.Proofs.YtlnoopmblmkgkaaGreatDoor
set_option maxRecDepth 100000
open Go Go.RowKit
set_option linter.unusedVariables false
set_option linter.unusedSimpArgs false

theorem rnof_ok (e l : Nat) (he : e ≤ 64) (hl : l ≤ 1099511627776) (L : Int) (hL : L = (l : Int)) (w : World) : Calls Tryz.prog 40 #[.int .i64 e, .int .i64 L] w fun r w' => ∃ A c, r = .returned (.tuple #[.slice A 12 c, .int .i64 0]) ∧ NewBytes 5 w 12 (nonceL e l) A c w' := by
  subst hL
  have h := rnof_any e l w
  have h1 : cnok e l = true := (cnok_iff _ _).2 (by omega)
  have e1 : nbL e l = nonceL e l := by unfold nbL; rw [if_pos h1]; simp
  have e2 : nbE e l = 0 := by unfold nbE; rw [if_pos h1]
  rw [e1, e2] at h
  refine h.mono ?_
  rintro r w' ⟨A, n, c, rfl, hn⟩
  have hl : n = 12 := by rw [← nonceL_len e l, ← cb_len]; exact hn.sl.1.symm
  subst hl
  exact ⟨A, c, rfl, hn⟩

/-- What the document's Take tells. -/
def rtakeN (e l n : Int) : Int := if takeE e l n = 0 then l + n else 0
def RTakePost (w : World) (e l n : Int) (r : Ending) (w' : World) : Prop := ∃ v, r = .returned (.tuple #[v, .int .i64 (rtakeN e l n), .int .i64 (takeE e l n)]) ∧ OwnParts 22 w' w.heap.size v (takeL e l n) ∧ Below w.heap.size w w' /- 123 -/
theorem rtakePost_no {w w' : World} {e l n : Int} {E : Int} (he : takeE e l n = E) (h0 : E ≠ 0) (hb : Below w.heap.size w w') : RTakePost w e l n (.returned (.tuple #[.slice none 0 0, .int .i64 0, .int .i64 E])) w' := by
  refine ⟨.slice none 0 0, ?_, ?_, hb⟩
  · unfold rtakeN; rw [he, if_neg h0]
  · unfold takeL; rw [he, if_neg h0]; exact ownParts_nil _ _ _

end Go.Proofs.YtlnoopmblmkgkaaGreatDoor
