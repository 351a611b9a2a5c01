/- Layer 9, label: a ring in memory; New, Master, a ring that is not there. -/
import Derived.Test.YtkkpdeembndneaaDoorLabR
import Derived.Test.YtkkpdeembndneaaDoorMapF
import Derived.Maps.RangeWalk
import Derived.Lib.SlKeysI
namespace Go.Proofs.YtkkpdeembndneaaDoor
set_option maxRecDepth 100000
open Go Go.RowKit Go.Maps
set_option linter.unusedVariables false
set_option linter.unusedSimpArgs false

/-- A ring: epochs and their masters, in the order in which they came. -/
abbrev RM := List (Nat × List UInt8)
def rfind (m : RM) (e : Int) : Option (List UInt8) := (m.find? fun x => decide ((x.1 : Int) = e)).map (·.2)
/-- What the map has. -/
def rf (m : RM) : Lit → Option Value
  | .int .i64 k => (rfind m k).map fun l => .agg (cb l).toArray
  | _ => none
structure RingOk (m : RM) : Prop where
  each : ∀ x ∈ m, 1 ≤ x.1 ∧ x.1 ≤ 64 ∧ x.2.length = 32
  one : (m.map (·.1)).Nodup

theorem rfind_some {m : RM} {e : Int} {l : List UInt8} (h : rfind m e = some l) : ∃ x ∈ m, (x.1 : Int) = e ∧ x.2 = l := by
  unfold rfind at h
  obtain ⟨x, hx, rfl⟩ := Option.map_eq_some_iff.1 h
  have := List.find?_some hx
  exact ⟨x, List.mem_of_find?_eq_some hx, by simpa using this, rfl⟩
theorem rfind_none {m : RM} {e : Int} (h : rfind m e = none) : ∀ x ∈ m, (x.1 : Int) ≠ e := by
  unfold rfind at h
  rw [Option.map_eq_none_iff, List.find?_eq_none] at h
  intro x hx he
  have := h x hx
  simp at this
  exact this he
theorem rfind_len {m : RM} (ok : RingOk m) {e : Int} {l : List UInt8} (h : rfind m e = some l) : l.length = 32 := by
  obtain ⟨x, hx, _, rfl⟩ := rfind_some h
  exact (ok.each x hx).2.2
theorem rfind_epo {m : RM} (ok : RingOk m) {e : Int} {l : List UInt8} (h : rfind m e = some l) : 1 ≤ e ∧ e ≤ 64 := by
  obtain ⟨x, hx, he, rfl⟩ := rfind_some h
  have := ok.each x hx
  omega
theorem rfind_app {m : RM} {en : Nat} {l : List UInt8} (e : Int) : rfind (m ++ [(en, l)]) e = match rfind m e with | some x => some x | none => if (en : Int) = e then some l else none := by
  unfold rfind
  rw [List.find?_append]
  cases h : m.find? (fun x => decide ((x.1 : Int) = e)) with
  | some x => rfl
  | none =>
    by_cases he : (en : Int) = e
    · simp [he]
    · simp [he]
theorem ring_nil : RingOk [] := ⟨fun x h => absurd h (by simp), List.nodup_nil⟩
theorem ring_put {m : RM} (ok : RingOk m) {en : Nat} {l : List UInt8} (h1 : 1 ≤ en) (h2 : en ≤ 64) (hl : l.length = 32) (hn : rfind m en = none) : RingOk (m ++ [(en, l)]) := by
  refine ⟨fun x hx => ?_, ?_⟩
  · rcases List.mem_append.1 hx with hx | hx
    · exact ok.each x hx
    · rw [List.mem_singleton.1 hx]; exact ⟨h1, h2, hl⟩
  · rw [List.map_append, List.nodup_append]
    refine ⟨ok.one, by simp, fun a ha b hb => ?_⟩
    obtain ⟨x, hx, rfl⟩ := List.mem_map.1 ha
    simp at hb
    subst hb
    intro he
    exact rfind_none hn x hx (by simp [he])
theorem MapF.congr {w : World} {P : Program} {k : TypeId} {b n : Nat} {f f' : Lit → Option Value} (h : MapF w P k b n f) (hf : ∀ kl, WideAt.IsKeyLit kl → f kl = f' kl) : MapF w P k b n f' := by
  obtain ⟨D, h1, h2⟩ := h
  exact ⟨D, h1, fun kl hk => by rw [← hf kl hk]; exact h2 kl hk⟩
theorem rf_put {m : RM} {en : Nat} {l : List UInt8} (hn : rfind m en = none) (kl : Lit) : setF (rf m) (.int .i64 (en : Int)) (some (.agg (cb l).toArray)) kl = rf (m ++ [(en, l)]) kl := by
  unfold setF
  cases kl with
  | int q k =>
    cases q
    case i64 =>
      by_cases he : k = (en : Int)
      · subst he
        rw [if_pos (by simp [Lit.sameKey])]
        simp only [rf, rfind_app, hn, if_pos, Option.map_some]
      · rw [if_neg (by simp [Lit.sameKey, he])]
        simp only [rf, rfind_app]
        cases h : rfind m k with
        | some x => rfl
        | none => rw [if_neg (by omega)]
    all_goals (rw [if_neg (by simp [Lit.sameKey])]; rfl)
  | _ => rw [if_neg (by simp [Lit.sameKey])]; rfl

/-- A ring in memory, all of it below B. -/
def Rg (w : World) (B g : Nat) (m : RM) : Prop :=
  g < B ∧ RingOk m ∧ ∃ p : Option Nat, Bl w g [.map p] 64 ∧ ((p = none ∧ m = []) ∨ ∃ b, p = some b ∧ b < B ∧ b ≠ g ∧ MapF w Tryd.prog 3 b m.length (rf m))
section
variable {w w' : World} {B g : Nat} {m : RM}
theorem Rg.lt (h : Rg w B g m) : g < w.heap.size := by obtain ⟨_, _, p, hb, _⟩ := h; exact hb.lt
theorem Rg.up (h : Rg w B g m) {B' : Nat} (hB : B ≤ B') : Rg w B' g m := by
  obtain ⟨hg, ok, p, hb, hm⟩ := h
  refine ⟨by omega, ok, p, hb, ?_⟩
  rcases hm with hm | ⟨b, e, hb1, hb2, hf⟩
  · exact .inl hm
  · exact .inr ⟨b, e, by omega, hb2, hf⟩
theorem Rg.keep (h : Rg w B g m) (hk : ∀ j, j < B → j < w.heap.size → w'.heap[j]? = w.heap[j]?) : Rg w' B g m := by
  obtain ⟨hg, ok, p, hb, hm⟩ := h
  refine ⟨hg, ok, p, hb.keep (hk g hg hb.lt), ?_⟩
  rcases hm with hm | ⟨b, e, hb1, hb2, hf⟩
  · exact .inl hm
  · exact .inr ⟨b, e, hb1, hb2, hf.keep (hk b hb1 hf.lt)⟩
theorem Rg.next (h : Rg w B g m) (hb : Below w.heap.size w w') : Rg w' B g m := h.keep fun j _ hj => hb.block j hj
theorem Rg.row (h : Rg w B g m) {row : Option Nat} (hg : w.grownBy w' row) (hr : ∀ j, row = some j → B ≤ j) : Rg w' B g m := h.keep fun j hj hs => hg.block j hs (fun e => by have := hr j e.symm; omega)
end

theorem look_zero (w : World) : (zeroValue 29).run Tryd.prog w = .ok (.agg (zeros .u8 32).toArray) w := by
  cases hq : Tryd.prog.info? 29 with
  | none => have := zero_32; rw [hq] at this; cases this
  | some i =>
    have := zero_32
    rw [hq] at this
    simp at this
    simp [zeroValue, typeInfo, hq, this]

set_option maxHeartbeats 400000 in
theorem lnew_any (w : World) : Calls Tryd.prog 13 #[] w fun e w' => e = .returned (.pointer (some ⟨w.heap.size, 0, none⟩)) ∧ Rg w' w'.heap.size w.heap.size [] ∧ Below w.heap.size w w' := by
  have hr : Rg (w.alloc (.cells #[.map none] 64)) (w.alloc (.cells #[.map none] 64)).heap.size w.heap.size [] := ⟨by simp, ring_nil, none, Bl.newA w #[.map none] _, .inl ⟨rfl, rfl⟩⟩
  go_enter Tryd.func13, Tryd.ntmps13
  go_wp2
  go_ret
  exact ⟨rfl, hr, (Below.refl _ w).alloc (Nat.le_refl _) _⟩

theorem lmaster_nil (e : Int) (w : World) : Calls Tryd.prog 22 #[.pointer none, .int .i64 e] w fun r w' => r = .returned (.slice none 0 0) ∧ w = w' := by
  go_enter Tryd.func22, Tryd.ntmps22
  go_wp2
  go_ret
  exact ⟨rfl, rfl⟩
theorem lepochs_nil (w : World) : Calls Tryd.prog 18 #[.pointer none] w fun r w' => r = .returned (.slice none 0 0) ∧ w = w' := by
  go_enter Tryd.func18, Tryd.ntmps18
  go_wp2
  go_ret
  exact ⟨rfl, rfl⟩
theorem llast_nil (w : World) : Calls Tryd.prog 20 #[.pointer none] w fun r w' => r = .returned (.int .i64 0) ∧ w = w' := by
  go_enter Tryd.func20, Tryd.ntmps20
  go_wp2
  go_ret
  exact ⟨rfl, rfl⟩
theorem lput_nil (e : Int) (A : Option Addr) (n c : Nat) (w : World) : Calls Tryd.prog 16 #[.pointer none, .int .i64 e, .slice A n c] w fun r w' => r = .returned (.int .i64 1) ∧ w = w' := by
  go_enter Tryd.func16, Tryd.ntmps16
  go_wp2
  go_ret
  exact ⟨rfl, rfl⟩

theorem int_key {e : Int} (h : (Lit.int .i64 e).wf = true) : keyOf Tryd.prog 3 (.int .i64 e) = some (.int .i64 e) := keyOf_int_mk Tryd.underlying3 h
theorem epo_wf {e : Int} (h : epo e = true) : (Lit.int .i64 e).wf = true := by
  unfold epo at h
  simp only [Bool.and_eq_true, decide_eq_true_eq] at h
  have h1 : IntKind.i64.min = -9223372036854775808 := by decide
  have h2 : IntKind.i64.max = 9223372036854775807 := by decide
  simp only [Lit.wf, h1, h2, Bool.and_eq_true, decide_eq_true_eq]
  omega
/-- A look-up in a map that is not there. -/
theorem look_nil (w : World) {e : Int} (h : (Lit.int .i64 e).wf = true) : (Instr.lookup 62 (.map none) (.int .i64 e) true).run Tryd.prog w = .ok (.tuple #[.agg (zeros .u8 32).toArray, .bool false]) w := by
  have hc := (int_keyed Tryd.underlying3).check w true (int_key h)
  have hf : (Instr.findKey 3 (.int .i64 e) []).run Tryd.prog w = .ok none w := by
    unfold Instr.findKey
    simp only [Sem.run_bind, run_underlying Tryd.underlying3, Result.andThen_ok, Instr.findNow]
    rfl
  unfold Instr.lookup
  simp only [Sem.run_bind, run_underlying Tryd.underlying62, Result.andThen_ok, Sem.run_pure]
  simp only [Array.isEmpty_empty, hc, hf, Result.andThen_ok]
  simp [look_zero]
  rfl

set_option maxHeartbeats 1000000 in
theorem lmaster_any (g B : Nat) (m : RM) (e : Int) (w : World) (hr : Rg w B g m) (hw : (Lit.int .i64 e).wf = true) :
    Calls Tryd.prog 22 #[.pointer (some ⟨g, 0, none⟩), .int .i64 e] w (RetBytes 29 w ((rfind m e).getD []).length ((rfind m e).getD [])) := by
  obtain ⟨hg, ok, p, hb, hm⟩ := hr
  have hc0 : w.cell? ⟨g, 0, none⟩ = some (.map p) := hb.cell 0
  obtain ⟨v, hlk, hv, hvs⟩ : ∃ v : List UInt8, (Instr.lookup 62 (.map p) (.int .i64 e) true).run Tryd.prog w = .ok (.tuple #[.agg (cb v).toArray, .bool (rfind m e).isSome]) w ∧ v.length = 32 ∧ (∀ l, rfind m e = some l → v = l) := by
    rcases hm with ⟨rfl, rfl⟩ | ⟨b, rfl, _, _, hf⟩
    · exact ⟨List.replicate 32 0, by rw [look_nil w hw, zeros_cb]; rfl, by simp, fun l h => by cases h⟩
    · have := hf.look_ok (int_keyed Tryd.underlying3) Tryd.underlying62 (look_zero w) (int_key hw)
      rw [this]
      cases h : rfind m e with
      | none => exact ⟨List.replicate 32 0, by simp only [rf, h]; rw [zeros_cb]; rfl, by simp, fun l h => by cases h⟩
      | some l => exact ⟨l, by simp only [rf, h]; rfl, rfind_len ok h, fun l' h' => by injection h'⟩
  obtain ⟨pn1, pn2, pn3⟩ := put_new w (zeros .u8 32) (cb v) 29 (by rw [cb_len, hv, zeros_len])
  have bz := Bl.new w (zeros .u8 32) 29
  have HV := Lib.hid hv
  cases hfd : rfind m e with
  | none =>
    rw [hfd] at hlk
    clear hm hfd hvs
    go_enter Tryd.func22, Tryd.ntmps22
    go_wp2_with (first
      | (refine wpList_alloc_zero rfl 29 rfl (zeros .u8 32) zero_32 ?_)
      | (refine wpList_store_mid rfl 29 _ _ rfl _ _ (cb v).toArray rfl rfl (bz.there_ (by simp [zeros, cb_len, HV.out])) (by rw [size_32, List.size_toArray, cb_len, HV.out]) (all_oneCell_toArray (cb_one _)) ?_))
    go_ret
    exact ⟨none, 0, rfl, ⟨rfl, .inl ⟨rfl, rfl⟩⟩, pn2⟩
  | some l =>
    rw [hfd] at hlk
    obtain rfl := hvs l hfd
    clear hm hfd hvs
    go_enter Tryd.func22, Tryd.ntmps22
    go_wp2_with (first
      | (refine wpList_alloc_zero rfl 29 rfl (zeros .u8 32) zero_32 ?_)
      | (refine wpList_store_mid rfl 29 _ _ rfl _ _ (cb v).toArray rfl rfl (bz.there_ (by simp [zeros, cb_len, HV.out])) (by rw [size_32, List.size_toArray, cb_len, HV.out]) (all_oneCell_toArray (cb_one _)) ?_))
    go_ret
    exact retBytes (n := v.length) HV.out.symm rfl (own_of_block pn1 (Nat.le_refl _) (by rw [cb_len]; exact HV.out) (by decide)) pn2

end Go.Proofs.YtkkpdeembndneaaDoor
