/- Package span: Pick. -/
import Derived.Test.YtfmbehjllkmfiaaSpaQ
namespace Go.Proofs.Ytfmbehjllkmfiaa
set_option maxRecDepth 100000
open Go Go.RowKit
set_option linter.unusedVariables false
set_option linter.unusedSimpArgs false

theorem part_info : (Try.prog.info? 42).map (fun i => (i.zero, i.size, i.bytes)) = some (some (.agg #[.int .i64 0, .complex .f64 0 0]), 2, 24) := by kernel_rfl

/-- The row that is picked from, the parts so far, each in a variable in memory. -/
structure PkI (w : World) (gx gp : Nat) (A : Option Addr) (n c : Nat) (v : Value) (m : Nat) (xs : List Value) : Prop where
  bx : Bl w gx [.slice A n c] 24
  bp : Bl w gp [v] 38
  own : w.ownsRow (gx + 1) 42 2 v m xs
  ne : ∀ j, v.ownBlock = some j → j ≠ gp
  lt : gx < gp

set_option maxRecDepth 100000 in
set_option maxHeartbeats 2000000 in
theorem spkadd_any (L : List (Nat × Nat)) (i : Nat) (x z : Nat × Nat) (w : World) (gx gp : Nat) (A : Option Addr) (n c : Nat) (v : Value) (m : Nat) (xs : List Value)
    (hI : PkI w gx gp A n c v m xs) (hL : Cxs w A n c L) (hil : i < L.length) (hx : x = L[i]) (hn : n ≤ 1000000) (hm : m ≤ 1000000) (hox : SpOk x) (hoz : SpOk z) (hle : x.1 ≤ z.1) :
    Calls Try.prog 17 #[.int .i64 (i : Int), cxv z, .pointer (some ⟨gx, 0, none⟩), .pointer (some ⟨gp, 0, none⟩)] w fun e w' => e = .returned (.tuple #[]) ∧ (∃ v', PkI w' gx gp A n c v' (m + 1) (xs ++ [.int .i64 (i : Int), cxv (z.1 - x.1, z.2)])) ∧ Below (gx + 1) w w' := by
  obtain ⟨i0, hi, hz0, hz1, hz2⟩ := info_parts part_info
  have hin : i < n := by rw [hL.len]; exact hil
  obtain ⟨ad, rfl, hab, hac⟩ := hL.sl.2 (by omega)
  have hcx : w.cell? (ad.add i) = some (cxv x) := by rw [hx]; exact hac i _ (cxs_at hil)
  have cx : w.cell? ⟨gx, 0, none⟩ = some (.slice (some ad) n c) := hI.bx.cell 0
  have cp : w.cell? ⟨gp, 0, none⟩ = some v := hI.bp.cell 0
  obtain ⟨ex, hex⟩ : ∃ e, x.1 + x.2 = e := ⟨_, rfl⟩
  have PE := Lib.hid (sedges_any x ex w hox hex)
  have PM := Lib.hid (smove_any z x.1 w hoz hle)
  have k0 : (0 : Int) ≤ (i : Int) := by omega
  have k1 : (i : Int) < (n : Int) := by omega
  have x1 := hox.1
  obtain ⟨y, hy⟩ : ∃ y, y = (z.1 - x.1, z.2) := ⟨_, rfl⟩
  rw [← hy] at PM ⊢
  have hne := hI.ne
  have hlt := hI.lt
  have gpl := hI.bp.lt
  have own4 : (w.alloc (.cells #[.int .i64 (i : Int), cxv y] 42)).ownsRow (gx + 1) 42 2 v m xs := hI.own.alloc _
  have D4 : Below w.heap.size w (w.alloc (.cells #[.int .i64 (i : Int), cxv y] 42)) := (Below.refl _ w).alloc (Nat.le_refl _) _
  have bp4 := hI.bp.next D4
  have bx4 := hI.bx.next D4
  have s4 : Sl (w.alloc (.cells #[.int .i64 (i : Int), cxv y] 42)) (w.heap.size + 1) (some ⟨w.heap.size, 0, none⟩) (1 * 2) [.int .i64 (i : Int), cxv y] := Sl.new w #[.int .i64 (i : Int), cxv y] 42
  have hbu : Try.prog.built 42 [(0, .int .i64 (i : Int)), (1, cxv y)] = some ([.int .i64 (i : Int), cxv y] : List Value).toArray := by kernel_rfl
  have hbelow4 : Below (gx + 1) w (w.alloc (.cells #[.int .i64 (i : Int), cxv y] 42)) := D4.mono (by omega)
  have HNE := Lib.hid hne
  clear hac hL hI hx hex hy hne hox hoz hil
  go_enter Try.func17, Try.ntmps17
  go_wp2_with fail
  refine PE.out.mono ?_
  rintro e w1 ⟨rfl, rfl⟩
  go_wp2_with fail
  refine PM.out.mono ?_
  rintro e w1 ⟨rfl, rfl⟩
  go_wp2_with (first
    | (refine wpList_buildG rfl 42 _ rfl [.int .i64 (i : Int), cxv y] hbu ?_)
    | (at_builtin; refine wpList_append_slK _ rfl _ _ 38 rfl (gx + 1) 42 i0 (.agg #[.int .i64 0, .complex .f64 0 0]) 2 24 Try.underlying38 hi hz0 hz1 hz2 rfl (by decide) _ m xs rfl own4 _ (some ⟨w.heap.size, 0, none⟩) 1 1 [.int .i64 (i : Int), cxv y] rfl s4 (by intro h; cases h) (by intro u hu; simp at hu; rcases hu with rfl | rfl <;> rfl) (by unfold maxLen; omega) (by omega) (by simp; omega) ?_; intro v5 W5 hown5 hgrow5 hat5; obtain ⟨X5, d5, rfl⟩ := ownK_form hown5; have bp5 := bp4.grown hgrow5 (fun e => HNE.out _ e rfl); have bx5 := bx4.grown hgrow5 (fun e => by have := (own4.lt _ e).1; omega); have hc5 : W5.cell? ⟨gp, 0, none⟩ = some v := bp5.cell 0; have hf5 := bp5.frozen 0; clear cp cx)
    | fail)
  have bp6 := bp5.set 0 (.slice X5 (m + 1) d5)
  have bx6 := bx5.set_other ⟨gp, 0, none⟩ (.slice X5 (m + 1) d5) (by show gx ≠ gp; omega)
  have hne5 : ∀ j, (Value.slice X5 (m + 1) d5).ownBlock = some j → j ≠ gp := by
    intro j hj
    rcases hat5 with h5 | h5
    · exact HNE.out j (h5.symm.trans hj)
    · have h6 : some j = some _ := hj.symm.trans h5
      injection h6 with h6
      rw [h6, alloc_size]
      omega
  have hbel := below_app hbelow4 (by omega) own4 hgrow5
  go_end0
  exact ⟨rfl, ⟨_, bx6, bp6, own_keep hown5 (fun g hg => heap_setCell_other _ _ _ _ (hne5 g hg)), hne5, hlt⟩, hbel.setCell (by show gx + 1 ≤ gp; omega) _⟩

end Go.Proofs.Ytfmbehjllkmfiaa
