/- A source of bytes in memory; where the bytes of a slice lie; structs loaded at any address. -/
import Derived.Test.YtmemgiekkedeoaaLG
import Derived.Test.YtmemgiekkedeoaaLW
namespace Go.Proofs.Ytmemgiekkedeoaa
set_option maxRecDepth 100000
open Go.RowKit
set_option linter.unusedVariables false
set_option linter.unusedSimpArgs false

/-- Where the bytes of a slice lie: in memory that is new since w, or where another one's lay. -/
def From (w : World) (n : Nat) (A : Option Addr) (n' : Nat) (A' : Option Addr) : Prop := 0 < n' → ∀ ad', A' = some ad' → w.heap.size ≤ ad'.block ∨ (0 < n ∧ ∃ ad, A = some ad ∧ ad.block = ad'.block)

theorem From.refl (w : World) (n : Nat) (A : Option Addr) : From w n A n A := fun hn ad e => .inr ⟨hn, ad, e, rfl⟩

theorem from_new {w : World} {n n' : Nat} {A A' : Option Addr} (h : ∀ ad, A' = some ad → w.heap.size ≤ ad.block) : From w n A n' A' := fun _ ad e => .inl (h ad e)

theorem from_cut (w : World) (n k c : Nat) (A : Option Addr) : From w n A (n - k) (if c = k then A else A.map (·.add k)) := by
  intro hn ad e
  right
  refine ⟨by omega, ?_⟩
  split at e
  · exact ⟨ad, e, rfl⟩
  · rcases A with _ | a
    · cases e
    · injection e with e; exact ⟨a, rfl, by rw [← e, add_block]⟩

theorem From.off {w : World} {n n' g : Nat} {A A' : Option Addr} (h : From w n A n' A') (ho : Off g n A) (hg : g < w.heap.size) : Off g n' A' := by
  intro hn ad e
  rcases h hn ad e with h1 | ⟨h0, a, ea, eb⟩
  · omega
  · rw [← eb]; exact ho h0 a ea

theorem From.down {w w1 : World} {n n' : Nat} {A A' : Option Addr} (h : From w1 n A n' A') (hs : w.heap.size ≤ w1.heap.size) : From w n A n' A' := by
  intro hn ad e
  rcases h hn ad e with h1 | h1
  · exact .inl (by omega)
  · exact .inr h1

/-- The bytes of a slice lie where another one's lay. -/
def Cut (n : Nat) (A : Option Addr) (n' : Nat) (A' : Option Addr) : Prop := 0 < n' → ∀ ad', A' = some ad' → 0 < n ∧ ∃ ad, A = some ad ∧ ad.block = ad'.block

theorem Cut.refl (n : Nat) (A : Option Addr) : Cut n A n A := fun hn ad e => ⟨hn, ad, e, rfl⟩

theorem cut_head {n k : Nat} (A : Option Addr) (h : k ≤ n) : Cut n A k A := fun hn ad e => ⟨by omega, ad, e, rfl⟩

theorem cut_none (n : Nat) (A A' : Option Addr) : Cut n A 0 A' := fun hn => absurd hn (by omega)

theorem cut_tail (n k c : Nat) (A : Option Addr) : Cut n A (n - k) (if c = k then A else A.map (·.add k)) := by
  intro hn ad e
  refine ⟨by omega, ?_⟩
  split at e
  · exact ⟨ad, e, rfl⟩
  · rcases A with _ | a
    · cases e
    · injection e with e; exact ⟨a, rfl, by rw [← e, add_block]⟩

theorem Cut.from_ {n n' : Nat} {A A' : Option Addr} (h : Cut n A n' A') (w : World) : From w n A n' A' := fun hn ad e => .inr (h hn ad e)

theorem Cut.off {n n' g : Nat} {A A' : Option Addr} (h : Cut n A n' A') (ho : Off g n A) : Off g n' A' := by
  intro hn ad e
  obtain ⟨h0, a, ea, eb⟩ := h hn ad e
  rw [← eb]; exact ho h0 a ea

theorem Cut.lt {w : World} {B n n' : Nat} {A A' : Option Addr} {xs : List Value} (h : Cut n A n' A') (hs : Sl w B A n xs) : 0 < n' → ∀ ad, A' = some ad → ad.block < B := by
  intro hn ad e
  obtain ⟨h0, a, ea, eb⟩ := h hn ad e
  obtain ⟨a2, ea2, hb, _⟩ := hs.2 h0
  rw [ea] at ea2; injection ea2 with ea2; subst ea2
  rw [← eb]; exact hb

/-- What is owned, cut at its head. -/
theorem own_head {w : World} {base : Nat} {e : TypeId} {A : Option Addr} {n c h : Nat} {xs : List Value} (ho : w.ownsRow base e 1 (.slice A n c) n xs) (hn : h ≤ n) : w.ownsRow base e 1 (.slice A h c) h (xs.take h) := by
  obtain ⟨h1, h2⟩ := ho
  refine ⟨by rw [List.length_take]; omega, ?_⟩
  rcases h2 with ⟨h2, h0⟩ | ⟨g, cap, cur, hv, hb, hh, hc, hm, hs, ht⟩
  · injection h2 with a1 a2 a3
    subst a1; subst a3
    exact .inl ⟨by rw [show h = 0 by omega], by omega⟩
  · injection hv with a1 a2 a3
    subst a1; subst a3
    refine .inr ⟨g, c, cur, rfl, hb, hh, by omega, hm, hs, ?_⟩
    rw [← ht, List.take_take]
    congr 1
    omega

/-- 'append(s, make([]T, m)...)' as a step. -/
theorem wpList_append_zeros {P : Program} (w : World) {ops : Array Oper} {rest : List Oper} {o : Oper} {a : Act} {Q : Exit → Act → World → Prop} (hgd : o.guard = none) (s x : Operand) (t tn : TypeId)
    (ho : o.op = .call { callee := .builtin .append, args := #[s, x], argTypes := #[t, tn] }) (v v' : Value) (k : IntKind) (m : Int) (w' : World) (hs : a.eval s = v) (hx : a.eval x = .int k m)
    (hr : (Builtin.append_ #[t, tn] o.type #[v, .int k m]).run P w = .ok v' w') (h : wpList P ops Q rest (a.put o.dst v') w') : wpList P ops Q (o :: rest) a w := by
  refine wpList_plain hgd fun K hK => ?_
  unfold Oper.wp execOp
  simp only [ho, resolve, invoke, builtin, Sem.run_bind, Sem.run_pure, Result.andThen_ok, List.map_toArray, List.map_cons, List.map_nil, hs, hx, hr]
  exact hK _ _ h

/-- The cells of a struct at any address. -/
theorem run_loadVar_at {P : Program} (w : World) (p : Addr) (ty : TypeId) (cs : List Value) (d : TypeDesc) (hc : ∀ j v, cs[j]? = some v → w.cell? (p.add j) = some v)
    (hu : P.underlying ty = some d) (hd : d.isRow = true) (hi : (P.info? ty).map (·.size) = some cs.length) :
    (loadVar ty p).run P w = .ok (.agg cs.toArray) w := by
  have hl : (loadCells p cs.length).run P w = .ok cs.toArray w := run_loadCells_list (P := P) w p cs hc
  cases hq : P.info? ty with
  | none => simp [hq] at hi
  | some i =>
    have hs : i.size = cs.length := by simpa [hq] using hi
    have hagg : (isAgg ty).run P w = .ok true w := by
      unfold isAgg
      rw [Sem.run_bind, run_underlying hu w]
      cases d <;> simp_all
    simp [loadVar, Sem.run_bind, hagg, sizeOf, typeInfo, hq, hs, hl]

theorem wpList_load_at {P : Program} {ops : Array Oper} {rest : List Oper} {o : Oper} {a : Act} {w : World} {Q : Exit → Act → World → Prop} (hgd : o.guard = none) (ty : TypeId) (x : Operand) (ho : o.op = .load ty x)
    (p : Addr) (hx : a.eval x = .pointer (some p)) (cs : List Value) (d : TypeDesc) (hc : ∀ j v, cs[j]? = some v → w.cell? (p.add j) = some v)
    (hu : P.underlying ty = some d) (hd : d.isRow = true) (hi : (P.info? ty).map (·.size) = some cs.length)
    (h : wpList P ops Q rest (a.put o.dst (.agg cs.toArray)) w) : wpList P ops Q (o :: rest) a w := by
  refine wpList_plain hgd fun K hK => ?_
  unfold Oper.wp execOp
  simp only [ho, hx, Instr.loadAt, Instr.sureAddr, Sem.run_bind, Sem.run_pure, Result.andThen_ok, run_loadVar_at w p ty cs d hc hu hd hi]
  exact hK _ _ h

/-- A source: its block g holds the bytes l that are left (they lie at A) and the number of those that were drawn. -/
structure Src (w : World) (g : Nat) (A : Option Addr) (n c : Nat) (l : List UInt8) (d : Nat) : Prop where
  bl : Bl w g [.slice A n c, .int .i64 (d : Int)] 45
  sl : Sl w w.heap.size A n (cb l)
  len : n = l.length
  cap : n ≤ c
  nn : A = none → c = 0
  off : Off g n A

section
variable {w w' : World} {g n c d k : Nat} {A : Option Addr} {l : List UInt8}
/- of a program with (*hypogeum/entropy.Source) 45 -/
theorem Src.lt (h : Src w g A n c l d) : g < w.heap.size := h.bl.lt
theorem Src.next (h : Src w g A n c l d) (hb : Below w.heap.size w w') : Src w' g A n c l d := ⟨h.bl.next hb, h.sl.nx hb, h.len, h.cap, h.nn, h.off⟩
theorem Src.but (h : Src w g A n c l d) (hg : w.grownBy w' (some k)) (hk : k ≠ g) (ho : Off k n A) : Src w' g A n c l d := ⟨h.bl.grown hg (fun e => by injection e with e; exact hk e), h.sl.nb hg ho, h.len, h.cap, h.nn, h.off⟩
theorem Src.row {row : Option Nat} (h : Src w g A n c l d) (hg : w.grownBy w' row) (hk : row ≠ some g) (ho : 0 < n → ∀ ad, A = some ad → row ≠ some ad.block) : Src w' g A n c l d := ⟨h.bl.grown hg hk, sl_row h.sl hg ho, h.len, h.cap, h.nn, h.off⟩
/-- Nothing below B has turned, and the source lies below B. -/
theorem Src.low {B : Nat} (h : Src w g A n c l d) (hb : Below B w w') (hB : B ≤ w.heap.size) (hg : g < B) (ha : 0 < n → ∀ ad, A = some ad → ad.block < B) : Src w' g A n c l d :=
  ⟨h.bl.below hb hg, ⟨h.sl.1, fun hn => by
    obtain ⟨ad, e, hlt, hc⟩ := h.sl.2 hn
    refine ⟨ad, e, Nat.lt_of_lt_of_le hlt hb.size, fun j u hu => ?_⟩
    rw [hb.cell (by rw [add_block]; exact ha hn ad e)]
    exact hc j u hu⟩, h.len, h.cap, h.nn, h.off⟩
end

/-- Only g has turned of what was there; then a row that was not there yet. -/
theorem but_row {a b c : World} {g : Nat} {row : Option Nat} (h : a.grownBy b (some g)) (k : b.grownBy c row) (hr : ∀ j, row = some j → a.heap.size ≤ j) : a.grownBy c (some g) :=
  ⟨k.os.trans h.os, k.tape.trans h.tape, k.output.trans h.output, Nat.le_trans h.size k.size, fun i hi hne => (k.block i (Nat.lt_of_lt_of_le hi h.size) (fun e => by have := hr i e.symm; omega)).trans (h.block i hi hne)⟩
theorem but_next {a b c : World} {g : Nat} (h : a.grownBy b (some g)) (k : Below b.heap.size b c) : a.grownBy c (some g) := but_trans h (but_below k)

/-- Bytes of the call's own, one of which is counted up. -/
theorem own_up {wr : World} {base gx n cx j : Nat} {xs : List UInt8} {e : TypeId} (h : wr.ownsRow base e 1 (.slice (some ⟨gx, 0, none⟩) n cx) n (cb xs)) (hj : j < xs.length) :
    wr.cell? ⟨gx, j, none⟩ = some (.int .u8 (xs[j].toNat : Int)) ∧ wr.frozen? ⟨gx, j, none⟩ = false ∧ Hid (((xs[j].toNat : Int) + 1) % 256 = ((UInt8.ofNat ((xs[j].toNat + 1) % 256)).toNat : Int)) ∧
    Hid ((wr.setCell ⟨gx, j, none⟩ (.int .u8 ((UInt8.ofNat ((xs[j].toNat + 1) % 256)).toNat : Int))).ownsRow base e 1 (.slice (some ⟨gx, 0, none⟩) n cx) n (cb (xs.set j (UInt8.ofNat ((xs[j].toNat + 1) % 256))))) := by
  have hn : xs.length = n := by have := h.1; rw [cb_len] at this; omega
  refine ⟨by rw [h.cellAt j (by omega), cb_at hj], h.frozenAt j, byte_up xs[j], ?_⟩
  have := (h.stored j (bc (UInt8.ofNat ((xs[j].toNat + 1) % 256)))).1
  rw [← cb_set] at this
  exact this

/-- What Draw tells: bytes, error, what is left. -/
def drawE (l : List UInt8) (N : Int) : Int := if N < 0 ∨ 4096 < N then 1 else if (l.length : Int) < N then 9 else 0
def drawL (l : List UInt8) (N : Int) : List UInt8 := if drawE l N = 0 then l.take N.toNat else []
def drawR (l : List UInt8) (N : Int) : List UInt8 := if drawE l N = 0 then l.drop N.toNat else l
theorem draw_join (l : List UInt8) (N : Int) : drawL l N ++ drawR l N = l := by
  unfold drawL drawR
  split <;> simp
theorem draw_len (l : List UInt8) (N : Int) : (drawL l N).length + (drawR l N).length = l.length := by
  rw [← List.length_append, draw_join]
theorem draw_ok {l : List UInt8} {N : Int} (h : drawE l N = 0) : 0 ≤ N ∧ N ≤ 4096 ∧ N ≤ l.length := by
  unfold drawE at h
  split at h
  · cases h
  · split at h
    · cases h
    · omega
theorem draw_fit {l : List UInt8} {N : Int} (h : drawE l N = 0) : ((drawL l N).length : Int) = N := by
  obtain ⟨h0, h1, h2⟩ := draw_ok h
  unfold drawL
  rw [if_pos h, List.length_take]
  omega
theorem draw_none {l : List UInt8} {N : Int} (h : drawE l N ≠ 0) : drawL l N = [] ∧ drawR l N = l := by
  unfold drawL drawR
  rw [if_neg h, if_neg h]
  exact ⟨rfl, rfl⟩

end Go.Proofs.Ytmemgiekkedeoaa

namespace Go.Proofs.Ytmemgiekkedeoaa
set_option maxRecDepth 100000
open Go.RowKit
set_option linter.unusedVariables false
set_option linter.unusedSimpArgs false

set_option maxHeartbeats 400000 in
theorem grow_any (m : Nat) (w : World) (hm : m ≤ 1000000) :
    Calls Try.prog 21 #[.slice none 0 0, .int .i64 (m : Int)] w (RetBytes 5 w 0 []) := by
  obtain ⟨i0, hi, hz0, hz1, hz2⟩ := info_parts u8_info
  rcases Nat.eq_zero_or_pos m with h0 | h0
  · subst h0
    go_enter Try.func21, Try.ntmps21
    go_wp2
    go_ret
    exact retBytes rfl rfl (World.ownsRow_nil _ _ _ _) (Below.refl _ _)
  · have hq : ¬ ((m : Int) < 0) := by omega
    have hq2 : (0 : Int) < (m : Int) := by omega
    obtain ⟨v6, w6, hr6, own6, grow6, _⟩ := run_append_own_zeros (P := Try.prog) w w.heap.size 22 3 22 5 i0 .i64 .i64 .u8 Try.underlying22 Try.underlying3 hi hz0 hz1 1 hz2 (.slice none 0 0) 0 [] (World.ownsRow_nil _ _ _ _) m (by unfold maxLen; omega) (by omega) (by omega) (Nat.le_refl _)
    obtain ⟨A6, c6, rfl⟩ := own_form own6
    have hb6 : Below w.heap.size w w6 := (Below.refl _ w).grown grow6 (Nat.le_refl _) (by simp [Value.ownBlock])
    have own7 := own_head own6 (Nat.zero_le _)
    have HO := Lib.hid own7
    clear own6 own7 grow6
    go_enter Try.func21, Try.ntmps21
    go_wp2_with (first
      | (at_builtin; refine wpList_append_zeros w rfl _ _ 22 3 rfl _ _ .i64 _ w6 rfl rfl hr6 ?_)
      | (refine wpList_slice_h rfl 22 _ _ rfl 5 Try.underlying22 u8_size _ _ _ 0 .i64 _ rfl rfl rfl (by omega) ?_))
    go_ret
    exact retBytes rfl rfl HO.out hb6

set_option maxHeartbeats 1000000 in
theorem concat_any (ls : List (List UInt8)) (w : World) (A : Option Addr) (n c : Nat) (hp : Parts w w.heap.size A n ls) (hn : n ≤ 1000000) (T : Nat) (F : List UInt8) (hT : T = F.length) (hF : ls.flatten = F) (hm : T ≤ 1000000) :
    Calls Try.prog 20 #[.slice A n c] w (RetBytes 5 w T F) := by
  obtain ⟨i0, hi, hz0, hz1, hz2⟩ := info_parts u8_info
  have hpl := hp.len
  subst hpl
  have HT := Lib.hid hT
  have HFF := Lib.hid hF
  replace hm : ls.flatten.length ≤ 1000000 := by rw [hF]; omega
  have HM := Lib.hid hm
  clear hT hF hm
  go_enter Try.func20, Try.ntmps20
  go_wp2
  go_loop [3, 11] (fun s i => ∃ k N : Nat, k ≤ ls.length ∧ i = .int .i64 k ∧ s = .int .i64 (N : Int) ∧ Hid (N = (ls.take k).flatten.length)) (fun _ i => ls.length - (intOf i).toNat)
  case atStart => exact ⟨0, 0, by omega, rfl, rfl, by unfold Hid; simp⟩
  case round =>
    obtain ⟨k, N, hk, rfl, rfl, HN⟩ := hrel
    have hNle : N ≤ 1000000 := by have h1 := HN.out; have h2 := flat_le ls k; have h3 := HM.out; omega
    by_cases hlt : k < ls.length
    · obtain ⟨ad, A', c', rfl, hcell, _, hcc, _⟩ := hp.at_ hlt
      have HN2 : Hid (N + ls[k].length = (ls.take (k + 1)).flatten.length) := by unfold Hid; rw [flat_take ls k hlt, List.length_append, HN.out]
      have hle : N + ls[k].length ≤ 1000000 := by have h1 := HN2.out; have h2 := flat_le ls (k + 1); have h3 := HM.out; omega
      have hq : ¬ ((N : Int) + (ls[k].length : Int) < 0) := by omega
      go_wp2
      go_round
      case rel => exact ⟨k + 1, N + ls[k].length, by omega, by go_num, by go_num, HN2⟩
      case measure => simp [intOf]; omega
    · have HK : Hid (N = ls.flatten.length) := by unfold Hid; rw [HN.out, List.take_of_length_le (by omega)]
      have hkI : ¬ (k : Int) < (ls.length : Int) := by omega
      clear HN
      go_wp2_with fail
      refine (grow_any N w hNle).mono ?_
      rintro e w1 ⟨A1, c1, rfl, h1⟩
      have hb1 := h1.below
      have own1 := h1.own
      clear h1
      go_wp2
      go_loopw [6, 27] (fun v i wr => ∃ k N : Nat, k ≤ ls.length ∧ i = .int .i64 k ∧ Hid (N = (ls.take k).flatten.length) ∧ wr.ownsRow w.heap.size 5 1 v N (cb (ls.take k).flatten) ∧ Below w.heap.size w wr) (fun _ i _ => ls.length - (intOf i).toNat)
      case atStart => exact ⟨0, 0, by omega, rfl, by unfold Hid; simp, by simpa [cb] using own1, hb1⟩
      case round =>
        clear own1 hb1
        obtain ⟨k2, N2, hk2, rfl, HN2, hown, hb⟩ := hrel
        obtain ⟨Aa, ca, rfl⟩ := own_form hown
        have hN2le : N2 ≤ 1000000 := by have h1 := HN2.out; have h2 := flat_le ls k2; have h3 := HM.out; omega
        by_cases hlt2 : k2 < ls.length
        · have hp2 := hp.below hb
          obtain ⟨ad, A', c', rfl, hcell, hsl, hcc, hnn⟩ := hp2.at_ hlt2
          have HL : Hid ((ls.take (k2 + 1)).flatten = (ls.take k2).flatten ++ ls[k2]) := flat_take ls k2 hlt2
          have hle : N2 + ls[k2].length ≤ 1000000 := by have h1 := HL.out; have h2 := flat_le ls (k2 + 1); rw [h1, List.length_append] at h2; have h3 := HN2.out; have h4 := HM.out; omega
          clear hp2
          go_wp2_with (at_builtin; refine wpList_append_sl _ rfl _ _ 22 rfl w.heap.size 5 i0 (.int .u8 0) 1 Try.underlying22 hi hz0 hz1 hz2 rfl _ N2 _ rfl hown _ A' ls[k2].length c' (cb ls[k2]) rfl hsl hnn (cb_one _) (by unfold maxLen; omega) (by omega) hb.size ?_; intro v5 w5 hown5 hgrow5 hat5; obtain ⟨A5, c5, rfl⟩ := own_form hown5)
          have hb5 := below_app hb (Nat.le_refl _) hown hgrow5
          rw [← cb_append, ← HL.out] at hown5
          go_roundw
          case rel => exact ⟨k2 + 1, N2 + ls[k2].length, by omega, by go_num, by unfold Hid; rw [HL.out, List.length_append, HN2.out], hown5, hb5⟩
          case measure => simp [intOf]; omega
        · have hk2I : ¬ (k2 : Int) < (ls.length : Int) := by omega
          have HF : Hid ((ls.take k2).flatten = ls.flatten) := by unfold Hid; rw [List.take_of_length_le (by omega)]
          go_wp2
          go_ret
          exact retBytes (by rw [HN2.out, HF.out, HFF.out, HT.out]) (by rw [HF.out, HFF.out]) hown hb

end Go.Proofs.Ytmemgiekkedeoaa

namespace Go.Proofs.Ytmemgiekkedeoaa
set_option maxRecDepth 100000
open Go.RowKit
set_option linter.unusedVariables false
set_option linter.unusedSimpArgs false

/-- What put and More do: the source has the bytes l left, in new memory; its block alone has turned. -/
def PutPost (w : World) (g N : Nat) (l : List UInt8) (d : Nat) (e : Ending) (w' : World) : Prop := e = .returned (.tuple #[]) ∧ ∃ A c, Src w' g A N c l d ∧ (∀ ad, A = some ad → w.heap.size ≤ ad.block) ∧ w.grownBy w' (some g) /- 45 -/

/-- What is written into a source's first cell. -/
theorem src_put {w : World} {g n c d N c' : Nat} {A A' : Option Addr} {l' : List UInt8} (h : Bl w g [.slice A n c, .int .i64 (d : Int)] 45) (hs : Sl w w.heap.size A' N (cb l')) (hl : N = l'.length) (hc : N ≤ c') (hz : A' = none → c' = 0) (ho : Off g N A') :
    Src (w.setCell ⟨g, 0, none⟩ (.slice A' N c')) g A' N c' l' d :=
  ⟨h.set 0 _, hs.nb (but_setCell (but_refl w g) 0 _) ho, hl, hc, hz, ho⟩

set_option maxHeartbeats 400000 in
theorem put_any (g : Nat) (l b : List UInt8) (d : Nat) (w : World) (A A1 : Option Addr) (n c n1 c1 : Nat) (h : Src w g A n c l d) (h1 : Sl w w.heap.size A1 n1 (cb b)) (k1 : n1 ≤ c1) (z1 : A1 = none → c1 = 0) (hm : n + n1 ≤ 1000000) :
    Calls Try.prog 16 #[.pointer (some ⟨g, 0, none⟩), .slice A1 n1 c1] w (PutPost w g (n + n1) (l ++ b) d) := by
  have hn1 : n1 = b.length := by rw [← h1.1, cb_len]
  have HN1 := Lib.hid hn1
  have HN := Lib.hid h.len
  obtain ⟨hp, hb⟩ := list_two_n 22 h.len hn1 h.sl h.cap h.nn h1 k1 z1
  have hc0 : w.cell? ⟨g, 0, none⟩ = some (.slice A n c) := by rw [h.bl.cell]; rfl
  have hgl := h.bl.lt
  have hbl := h.bl
  clear hn1 h h1
  go_enter Try.func16, Try.ntmps16
  go_wp2_with fail
  refine (concat_any [l, b] _ _ 2 2 hp (by omega) (n + n1) (l ++ b) (by rw [List.length_append, HN.out, HN1.out]) (by simp) hm).mono ?_
  rintro e w2 ⟨A2, c2, rfl, h2⟩
  have hb2 := next hb h2.below
  have b2 := hbl.next hb2
  have hc2 : w2.cell? ⟨g, 0, none⟩ = some (.slice A n c) := by rw [b2.cell]; rfl
  have hf2 := b2.frozen 0
  have hnew : ∀ ad, A2 = some ad → w.heap.size ≤ ad.block := fun ad e => Nat.le_trans hb.size (own_new (w' := w2) h2.own ad e)
  have HS : Hid (Src (w2.setCell ⟨g, 0, none⟩ (.slice A2 (n + n1) c2)) g A2 (n + n1) c2 (l ++ b) d) := src_put b2 h2.sl (by rw [List.length_append, HN.out, HN1.out]) (own_cap h2.own) h2.none_ (fun _ ad e => by have := hnew ad e; omega)
  have HG : Hid (w.grownBy (w2.setCell ⟨g, 0, none⟩ (.slice A2 (n + n1) c2)) (some g)) := but_setCell (but_below hb2) 0 _
  clear hc0 hp hb h2
  go_wp2
  exact bodyPost_ret (results_none rfl _ _ _) rfl ⟨rfl, A2, c2, HS.out, hnew, HG.out⟩

theorem made_bl {w w1 : World} {n : Nat} (hown : w1.ownsRow w.heap.size 5 1 (.slice (some ⟨w.heap.size, 0, none⟩) n n) n (madeCells (Value.int .u8 0).cells (n * 1)).toList) (hgrow : w.grownBy w1 none) :
    Bl w1 w.heap.size (cb (List.replicate n 0)) 5 ∧ Below w.heap.size w w1 := by
  refine ⟨?_, (Below.refl w.heap.size w).grown hgrow (Nat.le_refl _) (by simp)⟩
  have hown1 : w1.ownsRow w.heap.size 5 1 (.slice (some ⟨w.heap.size, 0, none⟩) n n) n (cb (List.replicate n 0)) := by
    rw [cb_zeros]
    have := toList_madeCells_one (.int .u8 0) n
    simpa [Value.cells, this] using hown
  exact block_of_own hown1

theorem splice_all (k : Nat) (l : List UInt8) (hk : k ≤ l.length) : splice (cb (List.replicate k 0)) 0 ((cb l).take k) = cb (l.take k) := by
  have h1 : (cb l).take k = cb (l.take k) := by simp [cb]
  rw [h1]
  unfold splice
  rw [List.take_zero, List.nil_append, Nat.zero_add, List.drop_of_length_le (by rw [cb_len, cb_len]; simp; omega), List.append_nil]

/-- What take and Draw do: the bytes L in new memory; what is left is R. -/
def TakePost (w : World) (g n : Nat) (A : Option Addr) (L R : List UInt8) (d : Nat) (X : Option Addr) (k cx : Nat) (w' : World) : Prop := w'.ownsRow w.heap.size 5 1 (.slice X k cx) k (cb L) ∧ (∃ A2 n2 c2, Src w' g A2 n2 c2 R (d + k) ∧ Cut n A n2 A2) ∧ w.grownBy w' (some g)

set_option maxHeartbeats 1000000 in
theorem take_any (g : Nat) (l : List UInt8) (d k : Nat) (w : World) (A : Option Addr) (n c : Nat) (h : Src w g A n c l d) (hk : k ≤ n) (hk2 : k ≤ 4096) (hd : d + n ≤ 1000000000) :
    Calls Try.prog 19 #[.pointer (some ⟨g, 0, none⟩), .int .i64 (k : Int)] w fun e w' => ∃ X cx, e = .returned (.slice X k cx) ∧ TakePost w g n A (l.take k) (l.drop k) d X k cx w' := by
  obtain ⟨i0, hi, hz0, hz1, hz2⟩ := info_parts u8_info
  have HN := Lib.hid h.len
  have hgl := h.bl.lt
  have hcap := h.cap
  have hnn := h.nn
  go_enter Try.func19, Try.ntmps19
  go_wp2_with (at_make; refine wpList_make_full _ rfl _ _ 22 rfl w.heap.size 5 i0 (.int .u8 0) 1 Try.underlying22 hi hz0 hz1 .i64 .i64 _ _ k rfl rfl rfl rfl (by rw [hz2]; omega) (by unfold maxLen; omega) (Nat.le_refl _) ?_; intro w1 hown hgrow; obtain ⟨b1, hb1⟩ := made_bl hown hgrow; have s1 := h.next hb1; have hc1 : w1.cell? ⟨g, 0, none⟩ = some (.slice A n c) := (by rw [s1.bl.cell]; rfl); clear hown hgrow)
  obtain ⟨w2, hr2, b2, hg2⟩ := run_copy_but (P := Try.prog) w1 22 22 3 5 Try.underlying22 u8_size w.heap.size 0 k k _ A n c _ s1.sl _ _ b1 (by rw [cb_len]; simp) (cb_one _)
  rw [hr2]
  rw [splice_all k l (by have := HN.out; omega)] at b2
  have s2 := s1.but hg2 (by omega) (fun h0 ad e => by
    obtain ⟨ad2, e2, hlt, _⟩ := h.sl.2 h0
    rw [e] at e2; injection e2 with e2; subst e2; omega)
  have hcc0 : w2.cell? ⟨g, 0, none⟩ = some (.slice A n c) := by rw [s2.bl.cell]; rfl
  have hcc1 : w2.cell? ⟨g, 1, none⟩ = some (.int .i64 (d : Int)) := by rw [s2.bl.cell]; rfl
  have hff0 := s2.bl.frozen 0
  have hff1 := s2.bl.frozen 1
  have hbb : w.grownBy w2 (some g) := ⟨hg2.os.trans hb1.os, hg2.tape.trans hb1.tape, hg2.output.trans hb1.output, Nat.le_trans hb1.size hg2.size, fun j hj _ => (hg2.block j (Nat.lt_of_lt_of_le hj hb1.size) (fun e => by injection e with e; omega)).trans (hb1.block j hj)⟩
  have hdk : d + k ≤ 1000000000 := by omega
  have HH := Lib.hid h
  clear hr2 hc1 s1 b1 hb1 hg2 h
  go_wp2_with (refine wpList_slice_from rfl 22 _ _ rfl 5 Try.underlying22 u8_size A n c k .i64 _ rfl rfl rfl (by omega) hcap hnn ?_; intro A2 HA2)
  go_ret
  have hw : ∀ v : Value, (w2.setCell ⟨g, 0, none⟩ v).grownBy ((w2.setCell ⟨g, 0, none⟩ v).setCell ⟨g, 1, none⟩ (.int .i64 ((d : Int) + (k : Int)))) (some g) := fun v => but_setCell (but_refl _ g) 1 _
  have hs2 := sl_cut (k := k) s2.sl hk hcap
  rw [← HA2.out, show (cb l).drop k = cb (l.drop k) by simp [cb]] at hs2
  have ho2 : Off g (n - k) A2 := by rw [HA2.out]; exact off_cut s2.off
  refine ⟨_, _, rfl, ?_, ⟨A2, n - k, c - k, ⟨?_, ?_, ?_, by omega, ?_, ho2⟩, ?_⟩, ?_⟩
  · exact own_of_block (((b2.set_other _ _ (by simp; omega)).set_other _ _ (by simp; omega))) (Nat.le_refl _) (by rw [cb_len, List.length_take]; have := HN.out; omega) (by unfold maxLen; omega)
  · have := (s2.bl.set 0 (.slice A2 (n - k) (c - k))).set 1 (.int .i64 ((d + k : Nat) : Int))
    simpa using this
  · exact (hs2.nb (but_setCell (but_refl w2 g) 0 _) ho2).nb (hw _) ho2
  · rw [List.length_drop, HN.out]
  · intro e
    rw [HA2.out] at e
    split at e
    · rename_i hck; omega
    · rcases A with _ | a
      · have := hnn rfl; omega
      · cases e
  · rw [HA2.out]; exact cut_tail n k c A
  · exact but_setCell (but_setCell hbb 0 _) 1 _

end Go.Proofs.Ytmemgiekkedeoaa

namespace Go.Proofs.Ytmemgiekkedeoaa
set_option maxRecDepth 100000
open Go.RowKit
set_option linter.unusedVariables false
set_option linter.unusedSimpArgs false

theorem left_any (g : Nat) (l : List UInt8) (d : Nat) (w : World) (A : Option Addr) (n c : Nat) (h : Src w g A n c l d) :
    Calls Try.prog 11 #[.pointer (some ⟨g, 0, none⟩)] w fun e w' => e = .returned (.int .i64 (n : Int)) ∧ w = w' := by
  have hc0 : w.cell? ⟨g, 0, none⟩ = some (.slice A n c) := by rw [h.bl.cell]; rfl
  clear h
  go_enter Try.func11, Try.ntmps11
  go_wp2
  go_ret
  exact ⟨rfl, rfl⟩

theorem drawn_any (g : Nat) (l : List UInt8) (d : Nat) (w : World) (A : Option Addr) (n c : Nat) (h : Src w g A n c l d) :
    Calls Try.prog 12 #[.pointer (some ⟨g, 0, none⟩)] w fun e w' => e = .returned (.int .i64 (d : Int)) ∧ w = w' := by
  have hc0 : w.cell? ⟨g, 1, none⟩ = some (.int .i64 (d : Int)) := by rw [h.bl.cell]; rfl
  clear h
  go_enter Try.func12, Try.ntmps12
  go_wp2
  go_ret
  exact ⟨rfl, rfl⟩

theorem nleft_any (w : World) : Calls Try.prog 11 #[.pointer none] w fun e w' => e = .returned (.int .i64 0) ∧ w = w' := by
  go_enter Try.func11, Try.ntmps11
  go_wp2
  go_ret
  exact ⟨rfl, rfl⟩

theorem ndrawn_any (w : World) : Calls Try.prog 12 #[.pointer none] w fun e w' => e = .returned (.int .i64 0) ∧ w = w' := by
  go_enter Try.func12, Try.ntmps12
  go_wp2
  go_ret
  exact ⟨rfl, rfl⟩

theorem nmore_any (w : World) (A : Option Addr) (n c : Nat) : Calls Try.prog 13 #[.pointer none, .slice A n c] w fun e w' => e = .returned (.tuple #[]) ∧ w = w' := by
  go_enter Try.func13, Try.ntmps13
  go_wp2
  exact bodyPost_end (results_none rfl _ _ _) rfl ⟨rfl, rfl⟩

theorem ncopy_any (w : World) : Calls Try.prog 15 #[.pointer none] w fun e w' => e = .returned (.pointer none) ∧ w = w' := by
  go_enter Try.func15, Try.ntmps15
  go_wp2
  go_ret
  exact ⟨rfl, rfl⟩

theorem ndraw_any (N : Int) (w : World) : Calls Try.prog 14 #[.pointer none, .int .i64 N] w fun e w' => e = .returned (.tuple #[.slice none 0 0, .int .i64 (if N < 0 ∨ 4096 < N then 1 else 9)]) ∧ w = w' := by
  by_cases h1 : N < 0
  · have HE : Hid ((if N < 0 ∨ 4096 < N then 1 else 9 : Int) = 1) := if_pos (.inl h1)
    rw [HE.out]
    go_enter Try.func14, Try.ntmps14
    go_wp2
    go_ret2
    exact ⟨rfl, rfl⟩
  · by_cases h2 : 4096 < N
    · have HE : Hid ((if N < 0 ∨ 4096 < N then 1 else 9 : Int) = 1) := if_pos (.inr h2)
      rw [HE.out]
      go_enter Try.func14, Try.ntmps14
      go_wp2
      go_ret2
      exact ⟨rfl, rfl⟩
    · have HE : Hid ((if N < 0 ∨ 4096 < N then 1 else 9 : Int) = 9) := if_neg (by omega)
      rw [HE.out]
      go_enter Try.func14, Try.ntmps14
      go_wp2
      go_ret2
      exact ⟨rfl, rfl⟩

theorem emore_any (g : Nat) (l b : List UInt8) (d : Nat) (w : World) (A A1 : Option Addr) (n c n1 c1 : Nat) (h : Src w g A n c l d) (h1 : Sl w w.heap.size A1 n1 (cb b)) (k1 : n1 ≤ c1) (z1 : A1 = none → c1 = 0) (hm : n + n1 ≤ 1000000) :
    Calls Try.prog 13 #[.pointer (some ⟨g, 0, none⟩), .slice A1 n1 c1] w (PutPost w g (n + n1) (l ++ b) d) := by
  go_enter Try.func13, Try.ntmps13
  go_wp2_with fail
  refine (put_any g l b d w A A1 n c n1 c1 h h1 k1 z1 hm).mono ?_
  rintro e w2 ⟨rfl, h2⟩
  clear h h1
  go_wp2
  exact bodyPost_ret (results_none rfl _ _ _) rfl ⟨rfl, h2⟩

theorem zero_src : Try.prog.built 45 [] = some #[.slice none 0 0, .int .i64 0] := by kernel_rfl

/-- What New does. -/
def NewPost (w : World) (N : Nat) (l : List UInt8) (d : Nat) (e : Ending) (w' : World) : Prop := ∃ g A c, e = .returned (.pointer (some ⟨g, 0, none⟩)) ∧ w.heap.size ≤ g ∧ Src w' g A N c l d ∧ (∀ ad, A = some ad → w.heap.size ≤ ad.block) ∧ Below w.heap.size w w' /- 45 -/

theorem enew_any (b : List UInt8) (w : World) (A1 : Option Addr) (n1 c1 : Nat) (h1 : Sl w w.heap.size A1 n1 (cb b)) (k1 : n1 ≤ c1) (z1 : A1 = none → c1 = 0) (hm : n1 ≤ 1000000) :
    Calls Try.prog 9 #[.slice A1 n1 c1] w (NewPost w n1 b 0) := by
  have hb : Below w.heap.size w (w.alloc (.cells #[.slice none 0 0, .int .i64 0] 45)) := (Below.refl _ w).alloc (Nat.le_refl _) _
  have hsrc : Src (w.alloc (.cells #[.slice none 0 0, .int .i64 0] 45)) w.heap.size none 0 0 [] 0 := ⟨Bl.newA w _ _, Sl.nil_, rfl, Nat.le_refl _, fun _ => rfl, fun h => absurd h (by omega)⟩
  have h2 := h1.nx hb
  obtain ⟨W, hW⟩ : ∃ W, W = w.alloc (.cells #[.slice none 0 0, .int .i64 0] 45) := ⟨_, rfl⟩
  rw [← hW] at hb hsrc h2
  have HW := Lib.hid hW
  clear hW
  go_enter Try.func9, Try.ntmps9
  go_wp2_with fail
  rw [← HW.out]
  refine (put_any w.heap.size [] b 0 W none A1 0 0 n1 c1 hsrc h2 k1 z1 (by omega)).mono ?_
  rintro e w2 ⟨rfl, A2, c2, h3, hnew, hgr⟩
  rw [Nat.zero_add, List.nil_append] at h3
  clear h1 h2 hsrc
  go_wp2
  go_ret
  exact ⟨_, A2, c2, rfl, Nat.le_refl _, h3, fun ad e => Nat.le_trans hb.size (hnew ad e), below_but hb hgr hb.size (Nat.le_refl _)⟩

/-- What Draw does. -/
def DrawPost (w : World) (g n : Nat) (A : Option Addr) (l : List UInt8) (d : Nat) (N : Int) (e : Ending) (w' : World) : Prop := ∃ X k cx, e = .returned (.tuple #[.slice X k cx, .int .i64 (drawE l N)]) ∧ TakePost w g n A (drawL l N) (drawR l N) d X k cx w' /- 45 -/

theorem drawPost_none {w : World} {g n c d : Nat} {A : Option Addr} {l : List UInt8} {N : Int} (h : Src w g A n c l d) (e : Int) (he : drawE l N = e) (h0 : e ≠ 0) : DrawPost w g n A l d N (.returned (.tuple #[.slice none 0 0, .int .i64 e])) w := by
  have h1 := draw_none (l := l) (N := N) (by rw [he]; exact h0)
  refine ⟨none, 0, 0, by rw [he], ?_, ⟨A, n, c, ?_, Cut.refl n A⟩, but_refl w g⟩
  · rw [h1.1]; exact World.ownsRow_nil _ _ _ _
  · rw [h1.2]; exact h

set_option maxHeartbeats 400000 in
theorem edraw_any (g : Nat) (l : List UInt8) (d : Nat) (N : Int) (w : World) (A : Option Addr) (n c : Nat) (h : Src w g A n c l d) (hd : d + n ≤ 1000000000) :
    Calls Try.prog 14 #[.pointer (some ⟨g, 0, none⟩), .int .i64 N] w (DrawPost w g n A l d N) := by
  have HN := Lib.hid h.len
  by_cases h1 : N < 0
  · have HE : Hid (drawE l N = 1) := by unfold Hid drawE; rw [if_pos (.inl h1)]
    go_enter Try.func14, Try.ntmps14
    go_wp2
    go_ret2
    exact drawPost_none h 1 HE.out (by decide)
  · by_cases h2 : 4096 < N
    · have HE : Hid (drawE l N = 1) := by unfold Hid drawE; rw [if_pos (.inr h2)]
      go_enter Try.func14, Try.ntmps14
      go_wp2
      go_ret2
      exact drawPost_none h 1 HE.out (by decide)
    · by_cases h3 : (n : Int) < N
      · have HE : Hid (drawE l N = 9) := by unfold Hid drawE; rw [if_neg (by omega), if_pos (by rw [← HN.out]; exact h3)]
        go_enter Try.func14, Try.ntmps14
        go_wp2_with (go_at_call 11; refine (left_any g l d w A n c h).mono ?_; rintro e w1 ⟨rfl, rfl⟩)
        go_ret2
        exact drawPost_none h 9 HE.out (by decide)
      · have HE : Hid (drawE l N = 0) := by unfold Hid drawE; rw [if_neg (by omega), if_neg (by rw [← HN.out]; exact h3)]
        obtain ⟨k, rfl⟩ : ∃ k : Nat, N = (k : Int) := ⟨N.toNat, by omega⟩
        have HL : Hid (drawL l (k : Int) = l.take k) := by unfold Hid drawL; rw [if_pos HE.out]; simp
        have HR : Hid (drawR l (k : Int) = l.drop k) := by unfold Hid drawR; rw [if_pos HE.out]; simp
        have hkn : k ≤ n := by omega
        have hk4 : k ≤ 4096 := by omega
        go_enter Try.func14, Try.ntmps14
        go_wp2_with (go_at_call 11; refine (left_any g l d w A n c h).mono ?_; rintro e w1 ⟨rfl, rfl⟩)
        refine (take_any g l d k w A n c h hkn hk4 hd).mono ?_
        rintro e w2 ⟨X, cx, rfl, h5⟩
        go_wp2
        go_ret2
        refine ⟨X, k, cx, by rw [HE.out]; rfl, ?_⟩
        rw [HL.out, HR.out]
        exact h5

set_option maxHeartbeats 400000 in
theorem ecopy_any (g : Nat) (l : List UInt8) (d : Nat) (w : World) (A : Option Addr) (n c : Nat) (h : Src w g A n c l d) (hm : n ≤ 1000000) :
    Calls Try.prog 15 #[.pointer (some ⟨g, 0, none⟩)] w (NewPost w n l d) := by
  have hc0 : w.cell? ⟨g, 0, none⟩ = some (.slice A n c) := by rw [h.bl.cell]; rfl
  go_enter Try.func15, Try.ntmps15
  go_wp2_with fail
  refine (enew_any l w A n c h.sl h.cap h.nn hm).mono ?_
  rintro e w2 ⟨g2, A2, c2, rfl, hg2, h3, hnew, hb⟩
  have hc1 : w2.cell? ⟨g, 1, none⟩ = some (.int .i64 (d : Int)) := by rw [(h.next hb).bl.cell]; rfl
  have hc2 : w2.cell? ⟨g2, 1, none⟩ = some (.int .i64 ((0 : Nat) : Int)) := by rw [h3.bl.cell]; rfl
  have hf2 := h3.bl.frozen 1
  clear hc0
  go_wp2
  go_ret
  exact ⟨g2, A2, c2, rfl, hg2, ⟨h3.bl.set 1 _, h3.sl.nb (but_setCell (but_refl w2 g2) 1 _) h3.off, h3.len, h3.cap, h3.nn, h3.off⟩, hnew, hb.setCell (by simpa using hg2) _⟩

end Go.Proofs.Ytmemgiekkedeoaa
