/- afterBlock of package digest: the rounds of a block. -/
import Derived.Test.YtfmbilnbbpbpeaaDoorDigB
namespace Go.Proofs.YtfmbilnbbpbpeaaDoor
open Go.RowKit

/-- The package's tables hold what their text lays. -/
structure Tabs (w : World) : Prop where
  ks : ∀ i, i < 64 → w.cell? ⟨1, i, none⟩ = some (.int .u32 (shaK.getD i 0 : Nat))
  ss : ∀ i, i < 8 → w.cell? ⟨0, i, none⟩ = some (.int .u32 (shaS.list.getD i 0 : Nat))
theorem Tabs.size {w : World} (h : Tabs w) : 2 ≤ w.heap.size := by
  have h1 := block_lt_of_cell (h.ks 0 (by omega))
  have h2 := block_lt_of_cell (h.ss 0 (by omega))
  simp at h1 h2
  omega
theorem Tabs.keep {w w' : World} (h : Tabs w) (hk : ∀ b, b < 2 → w'.heap[b]? = w.heap[b]?) : Tabs w' :=
  ⟨fun i hi => by rw [World.cell?_of_block (w := w) (hk _ (show 1 < 2 by decide))]; exact h.ks i hi, fun i hi => by rw [World.cell?_of_block (w := w) (hk _ (show 0 < 2 by decide))]; exact h.ss i hi⟩
theorem Tabs.below {w w' : World} {B : Nat} (h : Tabs w) (hb : Below B w w') (hB : 2 ≤ B) : Tabs w' := h.keep fun b hb2 => hb.block b (by omega)
theorem Tabs.next {w w' : World} (h : Tabs w) (hb : Below w.heap.size w w') : Tabs w' := h.below hb h.size
theorem Tabs.alloc {w : World} (h : Tabs w) (o : Obj) : Tabs (w.alloc o) := h.keep fun b hb => Below.heap_alloc w o b (by have := h.size; omega)

theorem zero_state8 : (Tryd.prog.info? 43).map (·.zero) = some (some (.agg (zeros .u32 8).toArray)) := by kernel_rfl
theorem size_state8 : (Tryd.prog.info? 43).map (·.size) = some 8 := by kernel_rfl
theorem list_len (s : W8) : s.list.length = 8 := rfl

theorem after_start (w : World) (X B Z : List Value) (T1 T2 : TypeId) :
    Bl (((w.alloc (.cells X.toArray T1)).alloc (.cells B.toArray T2)).alloc (.cells Z.toArray T1)) w.heap.size X T1 ∧
    Bl (((w.alloc (.cells X.toArray T1)).alloc (.cells B.toArray T2)).alloc (.cells Z.toArray T1)) (w.heap.size + 1) B T2 ∧
    Bl (((w.alloc (.cells X.toArray T1)).alloc (.cells B.toArray T2)).alloc (.cells Z.toArray T1)) (w.heap.size + 1 + 1) Z T1 ∧
    Below w.heap.size w (((w.alloc (.cells X.toArray T1)).alloc (.cells B.toArray T2)).alloc (.cells Z.toArray T1)) := by
  have e1 : (w.alloc (.cells X.toArray T1)).heap.size = w.heap.size + 1 := by simp
  have e2 : ((w.alloc (.cells X.toArray T1)).alloc (.cells B.toArray T2)).heap.size = w.heap.size + 1 + 1 := by simp
  have b2 : Bl ((w.alloc (.cells X.toArray T1)).alloc (.cells B.toArray T2)) (w.heap.size + 1) B T2 := by rw [← e1]; exact Bl.new _ _ _
  have b3 : Bl (((w.alloc (.cells X.toArray T1)).alloc (.cells B.toArray T2)).alloc (.cells Z.toArray T1)) (w.heap.size + 1 + 1) Z T1 := by rw [← e2]; exact Bl.new _ _ _
  exact ⟨((Bl.new w X T1).alloc _).alloc _, b2.alloc _, b3, (((Below.refl _ w).alloc (Nat.le_refl _) _).alloc (by simp) _).alloc (by simp; omega) _⟩

theorem Tabs.drewN {w : World} (h : Tabs w) (n : Nat) : Tabs (w.drewN n) := h.keep fun _ _ => rfl
set_option maxRecDepth 100000 in
set_option maxHeartbeats 600000 in
theorem after_any (s : W8) (buf : List UInt8) (w : World) (hs : s.ok) (hl : buf.length = 64) (hT : Tabs w) :
    Calls Tryd.prog 35 #[.agg (us s.list).toArray, .agg (cb buf).toArray] w fun e w' => e = .returned (.agg (us (blk s buf).list).toArray) ∧ Below w.heap.size w w' := by
  have HL := Lib.hid hl
  have HO := Lib.hid hs
  have HTab := Lib.hid hT
  clear hl hs hT
  obtain ⟨b0, b1, b2, hb⟩ := after_start w (us s.list) (cb buf) (zeros .u32 8) 43 41
  go_enter Tryd.func35, Tryd.ntmps35
  go_wp2_with (first
    | (refine wpList_alloc_zero rfl 43 rfl (zeros .u32 8) zero_state8 ?_)
    | (refine wpList_load_mid rfl 41 _ rfl _ _ rfl (cb buf) _ b1.whole Tryd.underlying41 rfl (by rw [size_block, cb_len, HL.out]) ?_))
  refine (sched_any buf _ HL.out).mono ?_
  rintro e w1 ⟨rfl, hb1⟩
  obtain ⟨l, el⟩ : ∃ l, l = ws buf 64 := ⟨_, rfl⟩
  have hll : l.length = 64 := by rw [el, ws_len]
  have hlt := ws_lt buf 64
  rw [← el] at hlt ⊢
  have EL := Lib.hid el
  have HLL := Lib.hid hll
  have HLT := Lib.hid hlt
  clear el hll hlt
  have c0 := b0.next hb1
  have c2 := b2.next hb1
  have hz : w.heap.size + 3 ≤ w1.heap.size := by have := hb1.size; simp at this; omega
  have hbw : Below w.heap.size w w1 := hb.trans (hb1.mono (by simp; omega))
  clear b0 b1 b2 hb hb1
  go_wp2_with (first
    | (refine wpList_alloc_zero rfl 68 rfl (zeros .u32 64) zero_words ?_)
    | (refine wpList_store_mid rfl 68 _ _ rfl _ _ (us l).toArray rfl rfl (Bl.there_ (Bl.new _ (zeros .u32 64) 68) (by simp [zeros, us_len, HLL.out])) (by rw [size_words, List.size_toArray, us_len, HLL.out]) (all_oneCell_toArray (us_one _)) ?_))
  obtain ⟨W2, hW2⟩ : ∃ W2, W2 = (w1.alloc (.cells (zeros .u32 64).toArray 68)).setCells w1.heap.size 0 (us l).toArray.toList := ⟨_, rfl⟩
  rw [← hW2]
  have d0 : Bl W2 w.heap.size (us s.list) 43 := by rw [hW2]; exact (c0.alloc _).sets_other (by omega) _ _
  have d2 : Bl W2 (w.heap.size + 1 + 1) (zeros .u32 8) 43 := by rw [hW2]; exact (c2.alloc _).sets_other (by omega) _ _
  have d5 : Bl W2 w1.heap.size (us l) 68 := by
    rw [hW2]
    exact (Bl.new w1 (zeros .u32 64) 68).over (by rw [us_len, HLL.out, zeros_len])
  have hbW : Below w.heap.size w W2 := by rw [hW2]; exact below_setCells (hbw.alloc (by omega) _) (by omega) _ _
  clear hW2 c0 c2 hbw
  have x0 : W2.cell? ⟨w.heap.size, 0, none⟩ = some (.int .u32 (s.a : Int)) := d0.cell 0
  have x1 : W2.cell? ⟨w.heap.size, 1, none⟩ = some (.int .u32 (s.b : Int)) := d0.cell 1
  have x2 : W2.cell? ⟨w.heap.size, 2, none⟩ = some (.int .u32 (s.c : Int)) := d0.cell 2
  have x3 : W2.cell? ⟨w.heap.size, 3, none⟩ = some (.int .u32 (s.d : Int)) := d0.cell 3
  have x4 : W2.cell? ⟨w.heap.size, 4, none⟩ = some (.int .u32 (s.e : Int)) := d0.cell 4
  have x5 : W2.cell? ⟨w.heap.size, 5, none⟩ = some (.int .u32 (s.f : Int)) := d0.cell 5
  have x6 : W2.cell? ⟨w.heap.size, 6, none⟩ = some (.int .u32 (s.g : Int)) := d0.cell 6
  have x7 : W2.cell? ⟨w.heap.size, 7, none⟩ = some (.int .u32 (s.h : Int)) := d0.cell 7
  go_quiet (fail)
  clear x0 x1 x2 x3 x4 x5 x6 x7
  go_wp2
  have hTW : Tabs W2 := HTab.out.next hbW
  go_loopw [6, 7, 8, 9, 10, 11, 12, 13, 35] (fun a b c d e f g h i wr => ∃ (k : Nat) (r : W8), k ≤ 64 ∧ Hid (r = rnds l s k) ∧ a = .int .u32 (r.a : Int) ∧ b = .int .u32 (r.b : Int) ∧ c = .int .u32 (r.c : Int) ∧ d = .int .u32 (r.d : Int)
    ∧ e = .int .u32 (r.e : Int) ∧ f = .int .u32 (r.f : Int) ∧ g = .int .u32 (r.g : Int) ∧ h = .int .u32 (r.h : Int) ∧ i = .int .i64 k ∧ Tabs wr
    ∧ Bl wr w.heap.size (us s.list) 43 ∧ Bl wr (w.heap.size + 1 + 1) (zeros .u32 8) 43 ∧ Bl wr w1.heap.size (us l) 68 ∧ Below w.heap.size w wr) (fun _ _ _ _ _ _ _ _ i _ => 64 - (intOf i).toNat)
  case atStart => exact ⟨0, s, by omega, (rfl : _ = _), rfl, rfl, rfl, rfl, rfl, rfl, rfl, rfl, rfl, hTW.drewN _, d0.drewN _, d2.drewN _, d5.drewN _, hbW.trans (Drew.below ⟨_, rfl⟩ _)⟩
  case round =>
    clear d0 d2 d5 hbW hTW
    obtain ⟨k, r, hk, HR, rfl, rfl, rfl, rfl, rfl, rfl, rfl, rfl, rfl, hT, d0, d2, d5, hbW⟩ := hrel
    obtain ⟨ha, hb, hc, hd, he, hf, hg, hh⟩ : r.ok := by rw [HR.out]; exact rnds_ok l s HO.out k
    by_cases hlt : k < 64
    · have ck := hT.ks k hlt
      have cw : wr.cell? ⟨w1.heap.size, k, none⟩ = some (.int .u32 (l.getD k 0 : Nat)) := by rw [d5.cell, us_at (by rw [HLL.out]; exact hlt)]
      obtain ⟨x, hx⟩ : ∃ x, x = l.getD k 0 := ⟨_, rfl⟩
      obtain ⟨y, hy⟩ : ∃ y, y = shaK.getD k 0 := ⟨_, rfl⟩
      have hx2 : x < 4294967296 := by rw [hx]; exact getD_lt32 HLT.out k
      have hy2 : y < 4294967296 := by rw [hy]; exact getD_lt32 shaK_lt k
      rw [← hx] at cw
      rw [← hy] at ck
      have hi0 : (0 : Int) ≤ (k : Int) := by omega
      have hi1 : (k : Int) < 64 := by omega
      have HX := Lib.hid hx
      have HY := Lib.hid hy
      clear hx hy
      go_wp2_with fail
      go_quiet ((go_at_call 41; exact Calls.quiet_of_same (still_of (bs1_any r.e _ he))))
      clear ck cw
      go_wp2_with (go_at_call 42; refine (bs0_any r.a _ ha).mono ?_; rintro e w' ⟨rfl, rfl⟩)
      go_roundw
      case rel =>
        rw [ch_eq _ _ _ _ (by decide) he hf hg, maj_eq _ _ _ ha hb hc]
        refine ⟨k + 1, rnd r y x, by omega, ?_, ?_, rfl, rfl, rfl, ?_, rfl, rfl, rfl, by go_num, hT.drewN _, d0.drewN _, d2.drewN _, d5.drewN _, hbW.trans (Drew.below ⟨_, rfl⟩ _)⟩
        · unfold Hid; rw [HX.out, HY.out, HR.out]; rfl
        · congr 1
        · congr 1
      case measure => simp [intOf]; omega
    · have HK : Hid (k = 64) := (by omega : k = 64)
      have x0 : wr.cell? ⟨w.heap.size, 0, none⟩ = some (.int .u32 (s.a : Int)) := d0.cell 0
      have x1 : wr.cell? ⟨w.heap.size, 1, none⟩ = some (.int .u32 (s.b : Int)) := d0.cell 1
      have x2 : wr.cell? ⟨w.heap.size, 2, none⟩ = some (.int .u32 (s.c : Int)) := d0.cell 2
      have x3 : wr.cell? ⟨w.heap.size, 3, none⟩ = some (.int .u32 (s.d : Int)) := d0.cell 3
      have x4 : wr.cell? ⟨w.heap.size, 4, none⟩ = some (.int .u32 (s.e : Int)) := d0.cell 4
      have x5 : wr.cell? ⟨w.heap.size, 5, none⟩ = some (.int .u32 (s.f : Int)) := d0.cell 5
      have x6 : wr.cell? ⟨w.heap.size, 6, none⟩ = some (.int .u32 (s.g : Int)) := d0.cell 6
      have x7 : wr.cell? ⟨w.heap.size, 7, none⟩ = some (.int .u32 (s.h : Int)) := d0.cell 7
      go_wp2_with (refine wpList_store_mid rfl 43 _ _ rfl _ _ _ rfl rfl (d2.there_ (by simp [zeros])) size_state8 (by simp [Value.oneCell']) ?_)
      have HB : Hid (s.plus r = blk s buf) := by unfold Hid blk; rw [HR.out, HK.out, EL.out]
      have hc := d2.over (vs := us (s.plus r).list) (by rw [us_len, zeros_len]; rfl)
      exact ret_row Tryd.results35 rfl hc Tryd.underlying43 rfl size_state8 rfl ⟨by rw [HB.out], below_setCells hbW (by omega) _ _⟩

end Go.Proofs.YtfmbilnbbpbpeaaDoor

