/- Layer 9, label: Key and Last of a ring. -/
import Derived.Test.YtkkpdeembndneaaDoorLabC
namespace Go.Proofs.YtkkpdeembndneaaDoor
set_option maxRecDepth 100000
open Go Go.RowKit Go.Maps
set_option linter.unusedVariables false
set_option linter.unusedSimpArgs false

/-- What a ring's Key answers. -/
def rkeyR (m : RM) (p : List UInt8) (e : Int) : List UInt8 := match rfind m e with
  | some k => lkeyR k p e
  | none => []
def rkeyE (m : RM) (p : List UInt8) (e : Int) : Int := if (purp p && epo e) = true then (match rfind m e with
  | some k => lkeyE k p e
  | none => 24) else 1
theorem rkeyR_len (m : RM) (p : List UInt8) (e : Int) : (rkeyR m p e).length ≤ 32 := by
  unfold rkeyR
  split
  · exact lkeyR_len _ _ _
  · simp
theorem lkeyR_bad {k p : List UInt8} {e : Int} (h : (purp p && epo e) = false) : lkeyR k p e = [] := by
  unfold lkeyR lfit
  rw [h]; simp
theorem rkeyR_bad {m : RM} {p : List UInt8} {e : Int} (h : (purp p && epo e) = false) : rkeyR m p e = [] := by
  unfold rkeyR
  split
  · exact lkeyR_bad h
  · rfl

set_option maxHeartbeats 1000000 in
theorem lrkey_nil (p : List UInt8) (e : Int) (w : World) :
    Calls Tryd.prog 14 #[.pointer none, .string ⟨p.toArray⟩, .int .i64 e] w fun r w' => r = .returned (.tuple #[.slice none 0 0, .int .i64 (rkeyE [] p e)]) ∧ w = w' := by
  have cp := ispurp_any p
  have ce := isepo_any e
  have cm := lmaster_nil e
  obtain ⟨R, hR⟩ : ∃ R, R = rkeyE [] p e := ⟨_, rfl⟩
  rw [← hR]
  have HR := Lib.hid hR
  have HM := Lib.hid cm
  clear hR cm
  cases hp : purp p with
  | false =>
    have HB : Hid (rkeyE [] p e = 1) := by unfold Hid rkeyE; rw [hp]; simp
    rw [hp] at cp
    have HP := Lib.hid cp
    clear cp ce hp
    go_enter Tryd.func14, Tryd.ntmps14
    go_wp2_with (go_at_call 25; refine (HP.out _).mono ?_; rintro e w1 ⟨rfl, rfl⟩)
    go_ret2
    exact ⟨by rw [HR.out, HB.out]; rfl, rfl⟩
  | true =>
    rw [hp] at cp
    have HP := Lib.hid cp
    cases he : epo e with
    | false =>
      have HB : Hid (rkeyE [] p e = 1) := by unfold Hid rkeyE; rw [hp, he]; simp
      rw [he] at ce
      have HC := Lib.hid ce
      clear cp ce hp he
      go_enter Tryd.func14, Tryd.ntmps14
      go_wp2_with (first
        | (go_at_call 25; refine (HP.out _).mono ?_; rintro e w1 ⟨rfl, rfl⟩)
        | (go_at_call 26; refine (HC.out _).mono ?_; rintro e w1 ⟨rfl, rfl⟩))
      go_ret2
      exact ⟨by rw [HR.out, HB.out]; rfl, rfl⟩
    | true =>
      have HB : Hid (rkeyE [] p e = 24) := by unfold Hid rkeyE; rw [hp, he]; rfl
      rw [he] at ce
      have HC := Lib.hid ce
      clear cp ce hp he
      go_enter Tryd.func14, Tryd.ntmps14
      go_wp2_with (first
        | (go_at_call 25; refine (HP.out _).mono ?_; rintro e w1 ⟨rfl, rfl⟩)
        | (go_at_call 26; refine (HC.out _).mono ?_; rintro e w1 ⟨rfl, rfl⟩)
        | (go_at_call 22; refine (HM.out _).mono ?_; rintro e w1 ⟨rfl, rfl⟩))
      go_ret2
      exact ⟨by rw [HR.out, HB.out]; rfl, rfl⟩

set_option maxHeartbeats 1000000 in
theorem lrkey_any (g B : Nat) (m : RM) (p : List UInt8) (e : Int) (w : World) (hr : Rg w B g m) (hT : Tabs w) :
    Calls Tryd.prog 14 #[.pointer (some ⟨g, 0, none⟩), .string ⟨p.toArray⟩, .int .i64 e] w (RetFill 55 w (rkeyR m p e) (rkeyE m p e)) := by
  have cp := ispurp_any p
  have ce := isepo_any e
  obtain ⟨R, hR⟩ : ∃ R, R = rkeyR m p e := ⟨_, rfl⟩
  obtain ⟨E, hE⟩ : ∃ R, R = rkeyE m p e := ⟨_, rfl⟩
  rw [← hR, ← hE]
  have HR := Lib.hid hR
  have HE := Lib.hid hE
  clear hR hE
  have hres : ∀ err, RetFill 55 w [] err (.returned (.tuple #[.slice none 0 0, .int .i64 err])) w := fun err => ⟨none, 0, 0, rfl, ⟨rfl, .inl ⟨rfl, rfl⟩⟩, Below.refl _ _⟩
  have HRS := Lib.hid hres
  clear hres
  cases hp : purp p with
  | false =>
    have HB : Hid (rkeyE m p e = 1 ∧ rkeyR m p e = []) := by unfold Hid; refine ⟨?_, rkeyR_bad (by rw [hp]; rfl)⟩; unfold rkeyE; rw [hp]; simp
    rw [hp] at cp
    have HP := Lib.hid cp
    clear cp ce hp
    go_enter Tryd.func14, Tryd.ntmps14
    go_wp2_with (go_at_call 25; refine (HP.out _).mono ?_; rintro e w1 ⟨rfl, rfl⟩)
    go_ret2
    rw [HR.out, HE.out, HB.out.1, HB.out.2]
    exact HRS.out _
  | true =>
    rw [hp] at cp
    have HP := Lib.hid cp
    cases he : epo e with
    | false =>
      have HB : Hid (rkeyE m p e = 1 ∧ rkeyR m p e = []) := by unfold Hid; refine ⟨?_, rkeyR_bad (by rw [hp, he]; rfl)⟩; unfold rkeyE; rw [hp, he]; simp
      rw [he] at ce
      have HC := Lib.hid ce
      clear cp ce hp he
      go_enter Tryd.func14, Tryd.ntmps14
      go_wp2_with (first
        | (go_at_call 25; refine (HP.out _).mono ?_; rintro e w1 ⟨rfl, rfl⟩)
        | (go_at_call 26; refine (HC.out _).mono ?_; rintro e w1 ⟨rfl, rfl⟩))
      go_ret2
      rw [HR.out, HE.out, HB.out.1, HB.out.2]
      exact HRS.out _
    | true =>
      have cm := lmaster_any g B m e w hr (epo_wf he)
      have hok := hr.2.1
      cases hfd : rfind m e with
      | none =>
        have HB : Hid (rkeyE m p e = 24 ∧ rkeyR m p e = []) := by unfold Hid rkeyE rkeyR; rw [hp, he, hfd]; exact ⟨rfl, rfl⟩
        rw [hfd] at cm
        have HM : Hid (Calls Tryd.prog 22 #[.pointer (some ⟨g, 0, none⟩), .int .i64 e] w (RetBytes 29 w 0 [])) := cm
        rw [he] at ce
        have HC := Lib.hid ce
        clear cp ce hp he cm hfd
        go_enter Tryd.func14, Tryd.ntmps14
        go_wp2_with (first
          | (go_at_call 25; refine (HP.out _).mono ?_; rintro e w1 ⟨rfl, rfl⟩)
          | (go_at_call 26; refine (HC.out _).mono ?_; rintro e w1 ⟨rfl, rfl⟩)
          | (go_at_call 22; refine HM.out.mono ?_; rintro e w1 ⟨A1, c1, rfl, x1⟩))
        go_ret2
        rw [HR.out, HE.out, HB.out.1, HB.out.2]
        exact ⟨none, 0, 0, rfl, ⟨rfl, .inl ⟨rfl, rfl⟩⟩, x1.below⟩
      | some k =>
        have hk32 := rfind_len hok hfd
        have HB : Hid (rkeyE m p e = lkeyE k p e ∧ rkeyR m p e = lkeyR k p e) := by unfold Hid rkeyE rkeyR; rw [hp, he, hfd]; exact ⟨rfl, rfl⟩
        rw [hfd] at cm
        have HM : Hid (Calls Tryd.prog 22 #[.pointer (some ⟨g, 0, none⟩), .int .i64 e] w (RetBytes 29 w 32 k)) := by unfold Hid; rw [← hk32]; exact cm
        rw [he] at ce
        have HC := Lib.hid ce
        have HT := Lib.hid hT
        clear cp ce hp he cm hfd hk32 hT
        go_enter Tryd.func14, Tryd.ntmps14
        go_wp2_with (first
          | (go_at_call 25; refine (HP.out _).mono ?_; rintro e w1 ⟨rfl, rfl⟩)
          | (go_at_call 26; refine (HC.out _).mono ?_; rintro e w1 ⟨rfl, rfl⟩)
          | (go_at_call 22; refine HM.out.mono ?_; rintro e w1 ⟨A1, c1, rfl, x1⟩)
          | (go_at_call 8; refine (lkey_any k p e w1 A1 32 c1 x1.sl (own_cap x1.own) x1.none_ (HT.out.next x1.below)).mono ?_; rintro e w2 ⟨A2, n2, c2, rfl, x2⟩))
        go_ret2
        rw [HR.out, HE.out, HB.out.1, HB.out.2]
        exact ⟨A2, n2, c2, rfl, x2.down x1.below⟩

/-- The last epoch of a ring. -/
def IsLast (m : RM) (L : Int) : Prop := (∀ x ∈ m, (x.1 : Int) ≤ L) ∧ (L = 0 ∨ ∃ x ∈ m, (x.1 : Int) = L)
theorem last_one {m : RM} {L L' : Int} (h : IsLast m L) (h' : IsLast m L') : L = L' := by
  have h0 : 0 ≤ L := by rcases h.2 with h | ⟨x, _, h⟩ <;> omega
  have h0' : 0 ≤ L' := by rcases h'.2 with h | ⟨x, _, h⟩ <;> omega
  have a : L ≤ L' := by
    rcases h.2 with e | ⟨x, hx, e⟩
    · omega
    · rw [← e]; exact h'.1 x hx
  have b : L' ≤ L := by
    rcases h'.2 with e | ⟨x, hx, e⟩
    · omega
    · rw [← e]; exact h.1 x hx
  omega

theorem rf_has {m : RM} (k : Int) : (rf m (.int .i64 k)).isSome = true ↔ ∃ x ∈ m, (x.1 : Int) = k := by
  simp only [rf, Option.isSome_map]
  constructor
  · intro h
    obtain ⟨l, hl⟩ := Option.isSome_iff_exists.1 h
    obtain ⟨x, hx, he, _⟩ := rfind_some hl
    exact ⟨x, hx, he⟩
  · rintro ⟨x, hx, he⟩
    cases h : rfind m k with
    | some l => rfl
    | none => exact absurd he (rfind_none h x hx)

set_option maxHeartbeats 1000000 in
theorem llast_any (g B : Nat) (m : RM) (w : World) (hr : Rg w B g m) :
    Calls Tryd.prog 20 #[.pointer (some ⟨g, 0, none⟩)] w fun r w' => ∃ L, r = .returned (.int .i64 L) ∧ IsLast m L ∧ Below w.heap.size w w' := by
  obtain ⟨hg, ok, p, hb, hm⟩ := hr
  have hc0 : w.cell? ⟨g, 0, none⟩ = some (.map p) := hb.cell 0
  rcases hm with ⟨rfl, rfl⟩ | ⟨b, rfl, hb1, hb2, hf⟩
  · have hrg := run_range_nilMap (P := Tryd.prog) w 62 _ _ Tryd.underlying62
    have hnx : ∀ ty, (Instr.next (.pointer (some ⟨w.heap.size, 0, none⟩)) false ty).run Tryd.prog (w.alloc (.mapIter none 0 #[] 0)) = _ := fun ty => run_next_nilMap _ ty 0 0 #[]
    go_enter Tryd.func20, Tryd.ntmps20
    go_wp2
    refine wp_loop_rounds 1 ?_
    rw [rounds_succ]
    go_wp2
    go_ret
    exact ⟨0, rfl, ⟨fun x h => absurd h (by simp), .inl rfl⟩, (Below.refl _ w).alloc (Nat.le_refl _) _⟩
  · have K := int_keyed (P := Tryd.prog) (k := 3) Tryd.underlying3
    obtain ⟨Ds, hso, hsf⟩ := hf
    have hbs := hso.lt
    have HSF := Lib.hid hsf
    clear hsf
    go_enter Tryd.func20, Tryd.ntmps20
    go_wp2_with (first
      | (at_range; refine wpList_range_own _ rfl _ 62 rfl 3 29 K Tryd.underlying62 heldR b _ _ rfl hso ?_; intro w0 hrg0 hg0 hs0)
      | go_in)
    go_frame
    have hbl0 : Below w.heap.size w w0 := (Below.refl _ w).grown hg0 (Nat.le_refl _) (by simp)
    go_loopw [3, 12] (fun x _ wr => ∃ (L : Int), x = .int .i64 L ∧ ∃ (left : Lit → Bool) (cnt : Nat) (ss : List Int), wr.ranges Tryd.prog 3 heldR b w.heap.size m.length Ds left cnt ∧ CollectedI Ds left ss ∧ (∀ y ∈ ss, y ≤ L) ∧ (L = 0 ∨ L ∈ ss) ∧ Below w.heap.size w wr)
      (fun _ _ wr => wr.rangeLeft b w.heap.size)
    case atStart => exact ⟨0, rfl, _, _, [], hrg0, CollectedI.start Ds, by simp, .inl rfl, hbl0⟩
    case round =>
      obtain ⟨L, rfl, left, cnt, ss, hrg, hC, hle, hL, hbw⟩ := hrel
      go_wp2_with (first
        | (at_next; refine wpList_next_ranges _ rfl _ rfl 3 K heldR encZ id (fun key kl hk => by obtain ⟨x, hx, _⟩ := Maps.keyOf_i64 Tryd.underlying3 hk; exact ⟨x, hx⟩) (fun v _ _ => ⟨v, rfl⟩) b w.heap.size _ _ _ _ rfl hrg ?_ ?_)
        | go_in)
      · intro hc0 hl0
        go_wp2
        go_ret
        have hmem : ∀ y : Int, y ∈ ss ↔ ∃ x ∈ m, (x.1 : Int) = y := fun y => by
          rw [hC.2 y, hl0, ← rf_has y, (HSF.out _ (show WideAt.IsKeyLit (.int .i64 y) from trivial)).1]
          simp
        exact ⟨L, rfl, ⟨fun x hx => hle _ ((hmem _).2 ⟨x, hx, rfl⟩), hL.imp id (fun h => (hmem L).1 h)⟩, hbw⟩
      · intro x c kl yd yp w2 cnt2 hkey hlk hv hat hrg2 hlt hg2 hs2 hen
        obtain ⟨x', ex, rfl, _⟩ := Maps.keyOf_i64 Tryd.underlying3 hkey
        obtain rfl : x = x' := encZ_inj ex
        have hC2 := hC.step hlk hat
        have hbw2 : Below w.heap.size w w2 := hbw.grown hg2 hbw.size (fun j hj => by cases hj; exact Nat.le_refl _)
        have HCC := Lib.hid hC2
        clear hs2 hC2
        by_cases hmx : L < x
        · have hle2 : ∀ y ∈ ss ++ [x], y ≤ x := by
            intro y hy
            rcases List.mem_append.1 hy with h | h
            · have := hle y h; omega
            · rw [List.mem_singleton.1 h]; exact Int.le_refl _
          have HX : Hid ((∀ y ∈ ss ++ [x], y ≤ x) ∧ (x = 0 ∨ x ∈ ss ++ [x])) := ⟨hle2, .inr (by simp)⟩
          clear hle2
          go_wp2
          go_roundw
          case rel => exact ⟨x, rfl, _, cnt2, ss ++ [x], hrg2, HCC.out, HX.out.1, HX.out.2, hbw2⟩
          case measure => rw [hrg2.left_eq, hrg.left_eq]; exact hlt
        · have hle2 : ∀ y ∈ ss ++ [x], y ≤ L := by
            intro y hy
            rcases List.mem_append.1 hy with h | h
            · exact hle y h
            · rw [List.mem_singleton.1 h]; omega
          have HX : Hid ((∀ y ∈ ss ++ [x], y ≤ L) ∧ (L = 0 ∨ L ∈ ss ++ [x])) := ⟨hle2, hL.imp id (fun h => by simp [h])⟩
          clear hle2
          go_wp2
          go_roundw
          case rel => exact ⟨L, rfl, _, cnt2, ss ++ [x], hrg2, HCC.out, HX.out.1, HX.out.2, hbw2⟩
          case measure => rw [hrg2.left_eq, hrg.left_eq]; exact hlt

end Go.Proofs.YtkkpdeembndneaaDoor
