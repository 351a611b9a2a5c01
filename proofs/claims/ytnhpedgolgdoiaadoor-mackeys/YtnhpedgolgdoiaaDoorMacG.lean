/- each and Many of package mac. -/
import Derived.Test.YtnhpedgolgdoiaaDoorMacF
namespace Go.Proofs.YtnhpedgolgdoiaaDoor
open Go.RowKit
set_option linter.unusedVariables false
set_option linter.unusedSimpArgs false

theorem made_zeros_many (k : IntKind) (m n : Nat) (hm : 0 < m) : (madeCells (zeros k m).toArray n).toList = zeros k n := by
  apply List.ext_getElem
  · simp [madeCells, zeros]
  · intro j h1 h2
    have h3 : j % m < m := Nat.mod_lt _ hm
    simp [madeCells, zeros, h3]
/-- 'make([]T, n)' where T is an array of integers. -/
theorem wpList_make_rows {P : Program} (w : World) {ops : Array Oper} {rest : List Oper} {o : Oper} {a : Act} {Q : Exit → Act → World → Prop}
    (hg : o.guard = none) (l c : Operand) (t : TypeId) (hop : o.op = Op.makeSlice t l c) (e : TypeId) (i : TypeInfo) (k : IntKind) (s : Nat) (hs : 0 < s) (h1 : P.underlying t = some (.slice e)) (h2 : P.info? e = some i) (h3 : i.zero = some (.agg (zeros k s).toArray)) (h4 : i.size = s)
    (kl kc : IntKind) (n : Nat) (hl : a.eval l = .int kl (n : Int)) (hc : a.eval c = .int kc (n : Int)) (b2 : i.bytes * n ≤ 281474976710656) (b3 : n ≤ maxLen)
    (hK : wpList P ops Q rest (a.put o.dst (.slice (some ⟨w.heap.size, 0, none⟩) n n)) (w.alloc (.cells (zeros k (n * s)).toArray e))) :
    wpList P ops Q (o :: rest) a w := by
  refine wpList_plain hg fun K hK' => ?_
  simp [maxLen] at b3
  have hb' : (i.bytes : Int) * (n : Int) ≤ 281474976710656 := by
    have h : ((i.bytes * n : Nat) : Int) ≤ 281474976710656 := by omega
    rwa [Int.natCast_mul] at h
  have hr := run_make (P := P) w t e i _ h1 h2 h3 kl kc (n : Int) (n : Int) (by omega) (by omega) hb' (by omega)
  have hmz : madeCells (zeros k s).toArray (n * s) = (zeros k (n * s)).toArray := by rw [← made_zeros_many k s (n * s) hs]
  simp only [Int.toNat_natCast, h4, Value.cells, hmz] at hr
  unfold Oper.wp
  simp [execOp, hop, hl, hc, hr, Result.andThen]
  exact hK' _ _ hK

/-- Sums one after the other, noughts behind them. -/
def sumsTo (ts : List (List UInt8)) (k : Nat) : List UInt8 := (ts.take k).flatten ++ List.replicate (32 * (ts.length - k)) 0
theorem flat32 : ∀ (ts : List (List UInt8)), (∀ t ∈ ts, t.length = 32) → ts.flatten.length = 32 * ts.length
  | [], _ => rfl
  | t :: ts, h => by
    rw [List.flatten_cons, List.length_append, h t (by simp), flat32 ts (fun x hx => h x (by simp [hx])), List.length_cons]; omega
theorem sumsTo_zero (ts : List (List UInt8)) : sumsTo ts 0 = List.replicate (32 * ts.length) 0 := by simp [sumsTo]
theorem sumsTo_all (ts : List (List UInt8)) : sumsTo ts ts.length = ts.flatten := by simp [sumsTo]
theorem sumsTo_pre (ts : List (List UInt8)) (h : ∀ t ∈ ts, t.length = 32) (k : Nat) (hk : k ≤ ts.length) : (ts.take k).flatten.length = 32 * k := by
  rw [flat32 _ (fun t ht => h t (List.mem_of_mem_take ht)), List.length_take, Nat.min_eq_left hk]
theorem sumsTo_len (ts : List (List UInt8)) (h : ∀ t ∈ ts, t.length = 32) (k : Nat) (hk : k ≤ ts.length) : (sumsTo ts k).length = 32 * ts.length := by
  unfold sumsTo
  rw [List.length_append, sumsTo_pre ts h k hk, List.length_replicate]; omega
theorem sumsTo_next (ts : List (List UInt8)) (h : ∀ t ∈ ts, t.length = 32) (k : Nat) (hk : k < ts.length) : splice (cb (sumsTo ts k)) (32 * k) (cb ts[k]) = cb (sumsTo ts (k + 1)) := by
  have hp := sumsTo_pre ts h k (by omega)
  have hl : ts[k].length = 32 := h _ (List.getElem_mem hk)
  unfold splice sumsTo
  rw [cb_append, List.take_append_of_le_length (by rw [cb_len]; omega), List.take_of_length_le (by rw [cb_len]; omega), List.drop_append, List.drop_of_length_le (by rw [cb_len, cb_len]; omega), List.nil_append, flat_take ts k hk,
    cb_append, cb_append, List.append_assoc, cb_len, cb_len, hp, hl]
  congr 2
  rw [show 32 * k + 32 - 32 * k = 32 by omega, show 32 * (ts.length - k) = 32 + 32 * (ts.length - (k + 1)) by omega]
  simp [cb]

set_option maxRecDepth 100000 in
set_option maxHeartbeats 600000 in
theorem each_any (p : Option Addr) (key : List UInt8) (ls : List (List UInt8)) (w : World) (B : Nat) (A : Option Addr) (n c : Nat) (hk : Kp w p key) (hp : Parts w B A n ls) (hB : B ≤ w.heap.size) (hn : n ≤ 1000000) (hT : Tabs w) (hm : ∀ l ∈ ls, l.length ≤ 10000000) :
    Calls Tryd.prog 26 #[.func (.func 16) #[.pointer p] #[], .slice A n c] w fun e w' => ∃ g, e = .returned (.slice (some ⟨g, 0, none⟩) n n) ∧ w.heap.size ≤ g ∧ Bl w' g (cb (ls.map (hmac key)).flatten) 28 ∧ Below w.heap.size w w' := by
  have hpl := hp.len
  subst hpl
  have HT := Lib.hid hT
  clear hT
  obtain ⟨ts, hts⟩ : ∃ ts, ts = ls.map (hmac key) := ⟨_, rfl⟩
  have htl : ts.length = ls.length := by rw [hts]; simp
  have ht32 : ∀ t ∈ ts, t.length = 32 := by
    intro t ht
    rw [hts] at ht
    obtain ⟨l, _, rfl⟩ := List.mem_map.1 ht
    exact hmac_len _ _
  have htk : ∀ k (h : k < ls.length) (h' : k < ts.length), ts[k] = hmac key ls[k] := by
    intro k h h'
    subst hts
    simp
  rw [← hts]
  have HTL := Lib.hid htl
  have HT32 := Lib.hid ht32
  have HTK := Lib.hid htk
  clear hts htl ht32 htk
  have hz := zero_sum
  have hs := size_sum
  cases hi : Tryd.prog.info? 28 with
  | none => simp [hi] at hz
  | some i =>
  have hz' : i.zero = some (.agg (zeros .u8 32).toArray) := by simpa [hi] using hz
  have hs' : i.size = 32 := by simpa [hi] using hs
  have hby : i.bytes = 32 := by have h : (Tryd.prog.info? 28).map (·.bytes) = some 32 := by kernel_rfl
                                simpa [hi] using h
  clear hz hs
  have HI := Lib.hid hi
  clear hi
  have b0 : Bl (w.alloc (.cells (zeros .u8 (ls.length * 32)).toArray 28)) w.heap.size (cb (sumsTo ts 0)) 28 := by
    rw [sumsTo_zero, HTL.out, Nat.mul_comm 32, ← zeros_cb]; exact Bl.new _ _ _
  have hb0 : Below w.heap.size w (w.alloc (.cells (zeros .u8 (ls.length * 32)).toArray 28)) := (Below.refl _ w).alloc (Nat.le_refl _) _
  have hmf : ∀ (fn : Fn) (first cap : Array Value) (w : World), (Instr.makeFunc fn first cap).run Tryd.prog w = .ok (.func fn first cap) w := fun _ _ _ _ => rfl
  go_enter Tryd.func26, Tryd.ntmps26
  go_wp2_with (at_make; refine wpList_make_rows _ rfl _ _ 35 rfl 28 i .u8 32 (by omega) Tryd.underlying35 HI.out hz' hs' .i64 .i64 ls.length rfl rfl (by rw [hby]; omega) (by unfold maxLen; omega) ?_)
  go_loopw [13] (fun i wr => ∃ k : Nat, k ≤ ls.length ∧ i = .int .i64 k ∧ Bl wr w.heap.size (cb (sumsTo ts k)) 28 ∧ Below w.heap.size w wr) (fun i _ => ls.length - (intOf i).toNat)
  case atStart => exact ⟨0, by omega, rfl, b0, hb0⟩
  case round =>
    clear b0 hb0
    obtain ⟨k, hk2, rfl, b0, hb⟩ := hrel
    by_cases hlt : k < ls.length
    · have hp2 := hp.below (hb.mono hB)
      obtain ⟨ad, A', c', rfl, hcell, hsl, hcc, hnn⟩ := hp2.at_ hlt
      have hbs := hb.size
      have hml := hm _ (List.getElem_mem hlt)
      clear hp2
      go_wp2_with fail
      obtain ⟨hp1, hbp⟩ := list_one 22 (hsl.up (by omega)) hcc hnn
      have hbw1 := hb.trans (hbp.mono hb.size)
      have hk1 := hk.next hbw1
      refine (kptag_any p key [ls[k]] _ _ _ _ _ hk1 hp1 (Nat.le_refl _) (by omega) (HT.out.next hbw1) (by simp; omega)).mono ?_
      rintro e w3 ⟨rfl, hb3⟩
      rw [show [ls[k]].flatten = ls[k] by simp, ← HTK.out k hlt (by rw [HTL.out]; exact hlt)]
      have b03 := (b0.next hbp).next hb3
      have hbw3 := next hbw1 hb3
      clear hp1 hbp hbw1 hk1 hb3 hsl b0 hb hcell
      obtain ⟨T, hTk⟩ : ∃ T, T = ts[k]'(by rw [HTL.out]; exact hlt) := ⟨_, rfl⟩
      have hTl : T.length = 32 := by rw [hTk]; exact HT32.out _ (List.getElem_mem _)
      rw [← hTk]
      have HTl := Lib.hid hTl
      have hsl3 := sumsTo_len ts HT32.out k (by rw [HTL.out]; exact hk2)
      have b04 := Bl.sets w.heap.size 28 (cb T) (k * 32) _ _ b03 (by rw [cb_len, cb_len, hTl, hsl3, HTL.out]; omega)
      have hnx := sumsTo_next ts HT32.out k (by rw [HTL.out]; exact hlt)
      rw [← hTk, Nat.mul_comm] at hnx
      rw [hnx] at b04
      have HB4 := Lib.hid b04
      have hth : w3.there w.heap.size (k * 32) (cb T).toArray.size := b03.there_ (by rw [List.size_toArray, cb_len, cb_len, hTl, hsl3, HTL.out]; omega)
      have hbw4 := below_setCells hbw3 (Nat.le_refl _) (k * 32) (cb T)
      clear hTk hTl hsl3 b04 hnx b03 hbw3
      go_wp2_with (refine wpList_store_mid rfl 28 _ _ rfl _ _ (cb T).toArray rfl rfl hth (by rw [size_sum, List.size_toArray, cb_len, HTl.out]) (all_oneCell_toArray (cb_one _)) ?_)
      go_roundw
      case rel => exact ⟨k + 1, by omega, by go_num, HB4.out, hbw4⟩
      case measure => simp [intOf]; omega
    · have HK : Hid (k = ts.length) := (by have := HTL.out; omega : k = ts.length)
      rw [HK.out, sumsTo_all] at b0
      go_wp2
      go_ret
      exact ⟨w.heap.size, rfl, Nat.le_refl _, b0, hb⟩

theorem many_any (p : Option Addr) (key : List UInt8) (ls : List (List UInt8)) (w : World) (B : Nat) (A : Option Addr) (n c : Nat) (hk : Kp w p key) (hp : Parts w B A n ls) (hB : B ≤ w.heap.size) (hn : n ≤ 1000000) (hT : Tabs w) (hm : ∀ l ∈ ls, l.length ≤ 10000000) :
    Calls Tryd.prog 17 #[.pointer p, .slice A n c] w fun e w' => ∃ g, e = .returned (.slice (some ⟨g, 0, none⟩) n n) ∧ w.heap.size ≤ g ∧ Bl w' g (cb (ls.map (hmac key)).flatten) 28 ∧ Below w.heap.size w w' := by
  have hmf : ∀ (fn : Fn) (first cap : Array Value) (w : World), (Instr.makeFunc fn first cap).run Tryd.prog w = .ok (.func fn first cap) w := fun _ _ _ _ => rfl
  go_enter Tryd.func17, Tryd.ntmps17
  go_wp2_with fail
  refine (each_any p key ls _ _ _ _ _ hk hp hB hn hT hm).mono ?_
  rintro e w1 ⟨g, rfl, hg, hb1, hb⟩
  go_wp2
  go_ret
  exact ⟨g, rfl, hg, hb1, hb⟩

end Go.Proofs.YtnhpedgolgdoiaaDoor

