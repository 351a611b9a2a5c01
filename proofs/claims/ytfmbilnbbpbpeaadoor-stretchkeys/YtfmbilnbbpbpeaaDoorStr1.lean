/- The walk of the law StretchKeys; how its argument, a struct, is opened. -/
import Derived.Test.YtfmbilnbbpbpeaaDoorStrV
import Derived.Test.YtfmbilnbbpbpeaaDoorLift
import Derived.Lib.SmallJoins
namespace Go.Proofs.YtfmbilnbbpbpeaaDoor
open Go.ChangeShapes Go.WideShapes Go.ChangeAt Go.RowKit
set_option linter.unusedVariables false
set_option linter.unusedSimpArgs false

/-- What a walk is told of bytes that came in as a part of a struct. -/
structure InSl (w : World) (A : Option Addr) (n c : Nat) (l : List UInt8) : Prop where
  sl : Sl w w.heap.size A n (cb l)
  len : n = l.length
  cap : n ≤ c
  none_ : A = none → c = 0
  room : c ≤ maxLen
theorem open_sl {H : Type} {enc : TypeId × Value → H} {P : Program} {W : World} {t e : TypeId} {fuel : Nat} {v : Value} {y : DataW H × List MemPlace}
    (ht : P.underlying t = some (.slice e)) (he : P.underlying e = some (.int .u8)) (hc : P.cellsOf e = 1)
    (hf : DataW.trod enc P W 0 (fun _ => true) true fuel t [v] = some y) (lt0 : ∀ x ∈ y.2, x.block < W.heap.size) :
    ∃ (A : Option Addr) (len cap : Nat) (l : List UInt8), v = .slice A len cap ∧ InSl W A len cap l := by
  rcases open_ints ht he hc hf with ⟨hcs, hx⟩ | ⟨a, len, c, zs, hcs, _, hl, hm, hz, hx, hcell, hwz⟩
  · simp only [List.cons.injEq, and_true] at hcs
    exact ⟨none, 0, 0, [], hcs, Sl.nil_, rfl, Nat.le_refl _, fun _ => rfl, Nat.zero_le _⟩
  · simp only [List.cons.injEq, and_true] at hcs
    subst hx
    simp only [if_true] at hz
    obtain ⟨l, hl'⟩ := cells_of_ints (zs.take len) (fun n hn => hwz n (List.mem_of_mem_take hn))
    have hlen : len = l.length := by
      have := congrArg List.length hl'
      rw [cb_len, List.length_map, List.length_take] at this
      omega
    refine ⟨some a, len, c, l, hcs, ⟨by rw [cb_len]; exact hlen.symm, fun hn => ⟨_, rfl, ?_, ?_⟩⟩, hlen, hl, (fun h => by cases h), hm⟩
    · exact lt0 (.cell a.block a.off) (MemPlace.mem_row.2 ⟨0, by omega, by simp⟩)
    · intro i u hu
      rw [← hl'] at hu
      have hi : i < len := by
        rcases Nat.lt_or_ge i len with h | h
        · exact h
        · rw [List.getElem?_eq_none (by simp; omega)] at hu; cases hu
      have := hcell i (by omega)
      rw [this]
      rw [List.getElem?_map, List.getElem?_take_of_lt hi] at hu
      simp only [Option.map_eq_some_iff] at hu
      obtain ⟨z, hz', rfl⟩ := hu
      rw [List.getD_eq_getElem?_getD, hz']
      rfl
theorem open_i64 {H : Type} {enc : TypeId × Value → H} {P : Program} {W : World} {t : TypeId} {fuel : Nat} {v : Value} {y : DataW H × List MemPlace}
    (ht : P.underlying t = some (.int .i64)) (hf : DataW.trod enc P W 0 (fun _ => true) true fuel t [v] = some y) : ∃ z, v = .int .i64 z ∧ (Lit.int .i64 z).wf = true := by
  obtain ⟨n, hcs, _, hw⟩ := DataW.trod_int ht hf
  simp only [List.cons.injEq, and_true] at hcs
  exact ⟨n, hcs, hw⟩
/-- What a walk is told of an Ask. -/
structure InAsk (w : World) (v : Value) (A0 : Option Addr) (n0 c0 : Nat) (l0 : List UInt8) (A1 : Option Addr) (n1 c1 : Nat) (l1 : List UInt8) (r n : Int) : Prop where
  val : v = .agg #[.slice A0 n0 c0, .slice A1 n1 c1, .int .i64 r, .int .i64 n]
  pass : InSl w A0 n0 c0 l0
  salt : InSl w A1 n1 c1 l1
  rounds : (Lit.int .i64 r).wf = true
  many : (Lit.int .i64 n).wf = true
/-- An Ask that came in. -/
def AskIn (w : World) (v : Value) : Prop := ∃ A0 n0 c0 l0 A1 n1 c1 l1 r n, InAsk w v A0 n0 c0 l0 A1 n1 c1 l1 r n
theorem open_ask {H : Type} {enc : TypeId × Value → H} {W : World} {b0 : Nat} {r : Reach} {v : Value} {d : DataW H} {p : List MemPlace} (hv : Value.okWide Tryd.prog W r b0 24 v)
    (h : DataW.Trod enc Tryd.prog W 0 (fun _ => true) true 24 v d p) (lt0 : ∀ x ∈ p, x.block < W.heap.size) : AskIn W v := by
  obtain ⟨v0, v1, v2, v3, y0, y1, y2, y3, n, rfl, _, rfl, h0, h1, h2, h3⟩ := Joins.open_agg4 Tryd.underlying24 (by kernel_rfl) (by kernel_rfl) hv h
  obtain ⟨A0, n0, c0, l0, rfl, i0⟩ := open_sl Tryd.underlying22 Tryd.underlying5 (by kernel_rfl) h0 (fun x hx => lt0 x (by simp [hx]))
  obtain ⟨A1, n1, c1, l1, rfl, i1⟩ := open_sl Tryd.underlying22 Tryd.underlying5 (by kernel_rfl) h1 (fun x hx => lt0 x (by simp [hx]))
  obtain ⟨r, rfl, hr⟩ := open_i64 Tryd.underlying3 h2
  obtain ⟨n, rfl, hn⟩ := open_i64 Tryd.underlying3 h3
  exact ⟨A0, n0, c0, l0, A1, n1, c1, l1, r, n, rfl, i0, i1, hr, hn⟩

/-- The argument's cells, in a variable of its own. -/
def askC (A0 : Option Addr) (n0 c0 : Nat) (A1 : Option Addr) (n1 c1 : Nat) (r n : Int) : List Value := [.slice A0 n0 c0, .slice A1 n1 c1, .int .i64 r, .int .i64 n]
theorem ask_cells {w : World} {g : Nat} {A0 : Option Addr} {n0 c0 : Nat} {A1 : Option Addr} {n1 c1 : Nat} {r n : Int} (h : Bl w g (askC A0 n0 c0 A1 n1 c1 r n) 24) :
    w.cell? ⟨g, 0, none⟩ = some (.slice A0 n0 c0) ∧ w.cell? ⟨g, 1, none⟩ = some (.slice A1 n1 c1) ∧ w.cell? ⟨g, 2, none⟩ = some (.int .i64 r) ∧ w.cell? ⟨g, 3, none⟩ = some (.int .i64 n) :=
  ⟨h.cell 0, h.cell 1, h.cell 2, h.cell 3⟩
/-- Is the play's bound kept? -/
def askBig (n0 n1 : Nat) (r : Int) : Bool := decide (64 < r ∧ r ≤ 4096) || decide (400 < n0) || decide (400 < n1)

set_option maxRecDepth 100000 in
set_option maxHeartbeats 1000000 in
theorem stretchKeys_ask (A0 : Option Addr) (n0 c0 : Nat) (l0 : List UInt8) (A1 : Option Addr) (n1 c1 : Nat) (l1 : List UInt8) (r n : Int) (w : World) (hT : Tabs w)
    (s0 : InSl w A0 n0 c0 l0) (s1 : InSl w A1 n1 c1 l1) (wr : (Lit.int .i64 r).wf = true) (wn : (Lit.int .i64 n).wf = true) :
    Calls Tryd.prog 3 #[.agg #[.slice A0 n0 c0, .slice A1 n1 c1, .int .i64 r, .int .i64 n]] w fun e w' => e = .returned (.bool true) ∧ Below w.heap.size w w' := by
  have y0 := s0.sl
  have z0 := s0.none_
  have e0 := s0.len
  have y1 := s1.sl
  have z1 := s1.none_
  have e1 := s1.len
  have k0 := s0.cap
  have k1 := s1.cap
  clear s0 s1
  subst e0; subst e1
  have HT := Lib.hid hT
  clear hT
  obtain ⟨W0, hW0⟩ : ∃ W, W = w.alloc (.cells (askC A0 l0.length c0 A1 l1.length c1 r n).toArray 24) := ⟨_, rfl⟩
  have b0 : Bl W0 w.heap.size (askC A0 l0.length c0 A1 l1.length c1 r n) 24 := by rw [hW0]; exact Bl.new _ _ _
  have hb0 : Below w.heap.size w W0 := by rw [hW0]; exact (Below.refl _ w).alloc (Nat.le_refl _) _
  have HW0 : Hid (w.alloc (.cells #[.slice A0 l0.length c0, .slice A1 l1.length c1, .int .i64 r, .int .i64 n] 24) = W0) := hW0.symm
  clear hW0
  obtain ⟨p0, p1, p2, p3⟩ := ask_cells b0
  by_cases hsm : (¬ (64 < r ∧ r ≤ 4096)) ∧ l0.length ≤ 400 ∧ l1.length ≤ 400
  · obtain ⟨hr, h0, h1⟩ := hsm
    have q0 : decide (400 < (l0.length : Int)) = false := by simp; omega
    have q1 : decide (400 < (l1.length : Int)) = false := by simp; omega
    obtain ⟨S, hSd⟩ : ∃ S : World → Prop, S = fun w' => w'.cell? ⟨w.heap.size, 0, none⟩ = some (.slice A0 l0.length c0) ∧ w'.cell? ⟨w.heap.size, 1, none⟩ = some (.slice A1 l1.length c1) := ⟨_, rfl⟩
    have HSI : Hid (∀ w', Below W0.heap.size W0 w' → S w') := by unfold Hid; intro w' hb; rw [hSd]; have := ask_cells (b0.next hb); exact ⟨this.1, this.2.1⟩
    have HS0 : Hid (∀ w', S w' → w'.cell? ⟨w.heap.size, 0, none⟩ = some (.slice A0 l0.length c0)) := by unfold Hid; intro w' h; rw [hSd] at h; exact h.1
    have HS1 : Hid (∀ w', S w' → w'.cell? ⟨w.heap.size, 1, none⟩ = some (.slice A1 l1.length c1)) := by unfold Hid; intro w' h; rw [hSd] at h; exact h.2
    clear hSd
    have HB0 := Lib.hid b0
    clear b0
    obtain ⟨E, hE⟩ : ∃ E, E = keyE r n := ⟨_, rfl⟩
    obtain ⟨L, hL⟩ : ∃ L, L = keyL l0 l1 r n := ⟨_, rfl⟩
    have HE := Lib.hid hE
    have HL := Lib.hid hL
    clear hE hL
    have hEE : (E == E) = true := by simp
    have hrr : (decide (64 < r) = false ∧ (1 : Nat) ≤ 2) ∨ (decide (64 < r) = true ∧ decide (r ≤ 4096) = false) := by
      rcases (show r ≤ 64 ∨ (64 < r ∧ 4096 < r) by omega) with hr1 | ⟨hr1, hr2⟩
      · exact .inl ⟨by simp; omega, by omega⟩
      · exact .inr ⟨by simp; omega, by simp; omega⟩
    rcases hrr with ⟨qr, qs⟩ | ⟨qr, qs⟩
    all_goals
      go_enter Tryd.func3, Tryd.ntmps3
      go_wp2
      rw [HW0.out]
      clear p0 p1 p2 p3
      have hbd : Below W0.heap.size W0 W0.drew := (Below.refl _ W0).drew
      have hS := HSI.out _ hbd
      refine wp_region_held_drew (S := S) (by kernel_rfl) hS (fun _ => ?_)
      refine wpAnyH_take (i := 0) (v := (.pointer (some ⟨w.heap.size, 0, none⟩))) rfl (by kernel_rfl) (by kernel_rfl) (by kernel_rfl) (fun _ _ _ h => h) (Or.inl ⟨by rfl, fun _ hSw => by go_simp⟩) hS ?_
      simp only [List.getElem_toArray, List.getElem_cons_succ, List.getElem_cons_zero, Act.put, List.setIfInBounds_toArray, List.set_cons_zero, List.set_cons_succ]
      refine wpAnyH_take (i := 1) (v := .slice A0 l0.length c0) rfl (by kernel_rfl) (by kernel_rfl) (by kernel_rfl) (fun _ _ _ h => h) (Or.inl ⟨by rfl, fun w' hSw => by have hq := HS0.out w' hSw; go_simp⟩) hS ?_
      simp only [List.getElem_toArray, List.getElem_cons_succ, List.getElem_cons_zero, Act.put, List.setIfInBounds_toArray, List.set_cons_zero, List.set_cons_succ]
      refine wpAnyH_take (i := 3) (v := (.pointer (some ⟨w.heap.size, 1, none⟩))) rfl (by kernel_rfl) (by kernel_rfl) (by kernel_rfl) (fun _ _ _ h => h) (Or.inl ⟨by rfl, fun _ hSw => by go_simp⟩) hS ?_
      simp only [List.getElem_toArray, List.getElem_cons_succ, List.getElem_cons_zero, Act.put, List.setIfInBounds_toArray, List.set_cons_zero, List.set_cons_succ]
      refine wpAnyH_take (i := 4) (v := .slice A1 l1.length c1) rfl (by kernel_rfl) (by kernel_rfl) (by kernel_rfl) (fun _ _ _ h => h) (Or.inl ⟨by rfl, fun w' hSw => by have hq := HS1.out w' hSw; go_simp⟩) hS ?_
      simp only [List.getElem_toArray, List.getElem_cons_succ, List.getElem_cons_zero, Act.put, List.setIfInBounds_toArray, List.set_cons_zero, List.set_cons_succ]
      refine wpAnyH_ready (rs := [2]) (by kernel_rfl) (by simp) (AllReadyH.cons rfl (fun K hK => ?_) AllReadyH.nil)
      simp only [List.getElem_toArray, List.getElem_cons_succ, List.getElem_cons_zero, Act.put, List.setIfInBounds_toArray, List.set_cons_zero, List.set_cons_succ]
      go_simp
      refine (own_any l0 _ _ _ _ _ (y0.nx (next hb0 hbd)) z0 (by omega) (Nat.le_refl _)).mono ?_
      rintro e w1 ⟨X0, d0, rfl, h1'⟩
      have hb1 := next hbd h1'.below
      have x0 := h1'.sl
      have f0 := h1'.none_
      have g0 := own_cap h1'.own
      replace hS := HSI.out _ hb1
      refine hK.out _ _ hS (fun _ => ?_)
      clear hK K h1' hbd
      refine wpAnyH_ready (rs := [5]) (by kernel_rfl) (by simp) (AllReadyH.cons rfl (fun K hK => ?_) AllReadyH.nil)
      simp only [List.getElem_toArray, List.getElem_cons_succ, List.getElem_cons_zero, Act.put, List.setIfInBounds_toArray, List.set_cons_zero, List.set_cons_succ]
      go_simp
      refine (own_any l1 _ _ _ _ _ (y1.nx (next hb0 hb1)) z1 (by omega) (Nat.le_refl _)).mono ?_
      rintro e w2 ⟨X1, d1, rfl, h2'⟩
      have hb2 := next hb1 h2'.below
      replace x0 := x0.nx h2'.below
      have x1 := h2'.sl
      have f1 := h2'.none_
      have g1 := own_cap h2'.own
      replace hS := HSI.out _ hb2
      refine hK.out _ _ hS (fun _ => ?_)
      clear hK K h2' hb1
      refine wpAnyH_take (i := 6) (v := (.slice X0 l0.length d0)) rfl (by kernel_rfl) (by kernel_rfl) (by kernel_rfl) (fun _ _ _ h => h) (Or.inl ⟨by rfl, fun _ hSw => by go_simp⟩) hS ?_
      simp only [List.getElem_toArray, List.getElem_cons_succ, List.getElem_cons_zero, Act.put, List.setIfInBounds_toArray, List.set_cons_zero, List.set_cons_succ]
      refine wpAnyH_take (i := 7) (v := (.slice X1 l1.length d1)) rfl (by kernel_rfl) (by kernel_rfl) (by kernel_rfl) (fun _ _ _ h => h) (Or.inl ⟨by rfl, fun _ hSw => by go_simp⟩) hS ?_
      simp only [List.getElem_toArray, List.getElem_cons_succ, List.getElem_cons_zero, Act.put, List.setIfInBounds_toArray, List.set_cons_zero, List.set_cons_succ]
      refine wpAnyH_done (by kernel_rfl) ?_ _
      clear hS HSI HS0 HS1
      obtain ⟨p0, p1, p2, p3⟩ := ask_cells (HB0.out.next hb2)
      have hb3 := next hb0 hb2
      go_wp2_with fail
      refine (key_any l0 l1 r n _ _ _ _ _ _ _ _ x0 g0 f0 (by omega) x1 g1 f1 (by omega) (Nat.le_refl _) (HT.out.next hb3)).mono ?_
      rintro e w3 ⟨X3, n3, d3, rfl, h3⟩
      rw [← HE.out]
      rw [← HL.out] at h3
      have hbw3 := next hb2 h3.below
      replace x0 := x0.nx h3.below
      replace x1 := x1.nx h3.below
      have x3 := h3.sl
      clear h3 p0 p1 p2 p3 hb2 hb3
      obtain ⟨p0, p1, p2, p3⟩ := ask_cells (HB0.out.next hbw3)
      have hb4 := next hb0 hbw3
      go_wp2_with fail
      refine (rkey_any l0 l1 r n _ _ _ _ _ _ _ _ (y0.nx hb4) z0 (by omega) (y1.nx hb4) z1 (by omega) (Nat.le_refl _)).mono ?_
      rintro e w4 ⟨X4, n4, d4, rfl, h4⟩
      rw [← HE.out]
      rw [← HL.out] at h4
      have hbw4 := next hbw3 h4.below
      have hb5 := next hb0 hbw4
      have u0 := u8_str (x0.nx h4.below) d0
      have u1 := u8_str (x1.nx h4.below) d1
      have u3 := u8_str (x3.nx h4.below) d3
      have u4 := u8_str h4.sl d4
      have v0 := u8_str (y0.nx hb5) c0
      have v1 := u8_str (y1.nx hb5) c1
      clear h4 p0 p1 p2 p3 hbw3 hb4 x0 x1 x3 y0 y1
      obtain ⟨p0, p1, p2, p3⟩ := ask_cells (HB0.out.next hbw4)
      have hTw := HT.out.next hb5
      go_wp2_with fail
      refine (awake4_any _ hTw).mono ?_
      rintro e w9 ⟨rfl, hb9⟩
      clear u0 u1 u3 u4 v0 v1 p0 p1 p2 p3
      go_wp2
      go_ret
      exact ⟨rfl, next hb5 hb9⟩
  · clear b0
    have hrr : (decide (64 < r) = true ∧ decide (r ≤ 4096) = true ∧ (1 : Nat) ≤ 2 ∧ (1 : Nat) ≤ 2) ∨ (decide (64 < r) = false ∧ (1 : Nat) ≤ 2 ∧ decide (400 < (l0.length : Int)) = true ∧ (1 : Nat) ≤ 2) ∨ (decide (64 < r) = true ∧ decide (r ≤ 4096) = false ∧ decide (400 < (l0.length : Int)) = true ∧ (1 : Nat) ≤ 2) ∨
        (decide (64 < r) = false ∧ (1 : Nat) ≤ 2 ∧ decide (400 < (l0.length : Int)) = false ∧ decide (400 < (l1.length : Int)) = true) ∨ (decide (64 < r) = true ∧ decide (r ≤ 4096) = false ∧ decide (400 < (l0.length : Int)) = false ∧ decide (400 < (l1.length : Int)) = true) := by
      simp only [decide_eq_true_eq, decide_eq_false_iff_not]
      omega
    clear hsm
    rcases hrr with ⟨qr, qs, q0, q1⟩ | ⟨qr, qs, q0, q1⟩ | ⟨qr, qs, q0, q1⟩ | ⟨qr, qs, q0, q1⟩ | ⟨qr, qs, q0, q1⟩
    all_goals
      go_enter Tryd.func3, Tryd.ntmps3
      go_wp2_with (go_at_call 7; rw [HW0.out]; refine (awake4_any _ (HT.out.next hb0)).mono ?_; rintro e w' ⟨rfl, hb⟩)
      go_ret
      exact ⟨rfl, next hb0 hb⟩

theorem stretchKeys_walk (v : Value) (w : World) (hT : Tabs w) (h : AskIn w v) :
    Calls Tryd.prog 3 #[v] w fun e w' => e = .returned (.bool true) ∧ Below w.heap.size w w' := by
  obtain ⟨A0, n0, c0, l0, A1, n1, c1, l1, r, n, rfl, i0, i1, hr, hn⟩ := h
  exact stretchKeys_ask A0 n0 c0 l0 A1 n1 c1 l1 r n w hT i0 i1 hr hn

end Go.Proofs.YtfmbilnbbpbpeaaDoor

