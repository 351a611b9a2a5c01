/- New, Copy and padding of package digest; a State in memory. -/
import Derived.Test.YtfmbilnbbpbpeaaDoorDigC
namespace Go.Proofs.YtfmbilnbbpbpeaaDoor
open Go.RowKit

/-- A State's cells. -/
def stc (s : W8) (buf : List UInt8) (n : Nat) : List Value := us s.list ++ (cb buf ++ [.int .u64 (n : Int)])
theorem stc_len (s : W8) (buf : List UInt8) (n : Nat) (h : buf.length = 64) : (stc s buf n).length = 73 := by
  unfold stc; rw [List.length_append, List.length_append, us_len, cb_len, h, list_len]; rfl
theorem stc_words (s : W8) (buf : List UInt8) (n : Nat) : ((stc s buf n).drop 0).take 8 = us s.list := by
  unfold stc; rw [List.drop_zero, List.take_append_of_le_length (by rw [us_len, list_len]; omega), List.take_of_length_le (by rw [us_len, list_len]; omega)]
theorem stc_block (s : W8) (buf : List UInt8) (n : Nat) (h : buf.length = 64) : ((stc s buf n).drop 8).take 64 = cb buf := by
  unfold stc
  rw [List.drop_append_of_le_length (by rw [us_len, list_len]; omega), List.drop_of_length_le (by rw [us_len, list_len]; omega), List.nil_append, List.take_append_of_le_length (by rw [cb_len, h]; omega), List.take_of_length_le (by rw [cb_len, h]; omega)]
theorem stc_count (s : W8) (buf : List UInt8) (n : Nat) (h : buf.length = 64) : (stc s buf n)[72]? = some (.int .u64 (n : Int)) := by
  unfold stc
  rw [List.getElem?_append_right (by rw [us_len, list_len]; omega), List.getElem?_append_right (by rw [us_len, list_len, cb_len, h]; omega), us_len, list_len, cb_len, h]
  rfl
theorem stc_one (s : W8) (buf : List UInt8) (n : Nat) : ∀ v ∈ stc s buf n, v.oneCell' = true := by
  intro v hv
  unfold stc at hv
  rw [List.mem_append, List.mem_append] at hv
  rcases hv with hv | hv | hv
  · exact us_one _ v hv
  · exact cb_one _ v hv
  · rw [List.mem_singleton] at hv; subst hv; rfl
/-- The State at block g has been added just the bytes m. -/
def St (w : World) (g : Nat) (m : List UInt8) : Prop :=
  ∃ buf : List UInt8, buf.length = 64 ∧ buf.take (m.length % 64) = m.drop (64 * (m.length / 64)) ∧ Bl w g (stc (hs m (m.length / 64)) buf m.length) 45
theorem St.keep {w w' : World} {g : Nat} {m : List UInt8} (h : St w g m) (hk : w'.heap[g]? = w.heap[g]?) : St w' g m := by
  obtain ⟨buf, h1, h2, h3⟩ := h
  exact ⟨buf, h1, h2, h3.keep hk⟩
theorem St.lt {w : World} {g : Nat} {m : List UInt8} (h : St w g m) : g < w.heap.size := by obtain ⟨_, _, _, h⟩ := h; exact h.lt
theorem St.next {w w' : World} {g : Nat} {m : List UInt8} (h : St w g m) (hb : Below w.heap.size w w') : St w' g m := h.keep (hb.block g h.lt)
theorem St.but {w w' : World} {g k : Nat} {m : List UInt8} (h : St w g m) (hg : w.grownBy w' (some k)) (hk : g ≠ k) : St w' g m := h.keep (hg.block g h.lt (fun e => hk (by injection e)))

theorem built_state : Tryd.prog.built 45 [(0, .agg (us shaS.list).toArray)] = some (stc shaS (List.replicate 64 0) 0).toArray := by kernel_rfl
theorem size_state : (Tryd.prog.info? 45).map (·.size) = some 73 := by kernel_rfl
theorem zero_state : (Tryd.prog.info? 45).map (·.zero) = some (some (.agg (stc ⟨0, 0, 0, 0, 0, 0, 0, 0⟩ (List.replicate 64 0) 0).toArray)) := by kernel_rfl
theorem Tabs.start {w : World} (h : Tabs w) : w.rangeAt 0 0 (us shaS.list) := fun j v hv => by
  have hj : j < 8 := by
    have := (List.getElem?_eq_some_iff.1 hv).1
    rwa [us_len, list_len] at this
  rw [us_at (by rw [list_len]; exact hj)] at hv
  rw [Nat.zero_add, h.ss j hj, hv]

theorem st_new (w : World) : St (w.alloc (.cells (stc shaS (List.replicate 64 0) 0).toArray 45)) w.heap.size [] := ⟨List.replicate 64 0, by simp, by simp, Bl.new w _ _⟩

/-- What New and Copy give: a State in new memory. -/
def RetSt (w : World) (m : List UInt8) (e : Ending) (w' : World) : Prop := ∃ g, e = .returned (.pointer (some ⟨g, 0, none⟩)) ∧ w.heap.size ≤ g ∧ St w' g m ∧ Below w.heap.size w w'

theorem new_any (w : World) (hT : Tabs w) : Calls Tryd.prog 26 #[] w (RetSt w []) := by
  have hr := hT.start
  go_enter Tryd.func26, Tryd.ntmps26
  go_wp2_with (first
    | (refine wpList_load_mid rfl 43 _ rfl _ _ rfl (us shaS.list) _ hr Tryd.underlying43 rfl size_state8 ?_)
    | (refine wpList_build_to rfl 45 _ rfl (stc shaS (List.replicate 64 0) 0) built_state ?_))
  go_ret
  exact ⟨w.heap.size, rfl, Nat.le_refl _, st_new w, (Below.refl _ w).alloc (Nat.le_refl _) _⟩

theorem copy_any (g : Nat) (m : List UInt8) (w : World) (h : St w g m) : Calls Tryd.prog 29 #[.pointer (some ⟨g, 0, none⟩)] w (RetSt w m) := by
  obtain ⟨buf, h1, h2, h3⟩ := h
  have H1 := Lib.hid h1
  have H2 := Lib.hid h2
  clear h1 h2
  obtain ⟨C, hC⟩ : ∃ C, C = stc (hs m (m.length / 64)) buf m.length := ⟨_, rfl⟩
  have hl : C.length = 73 := by rw [hC, stc_len _ _ _ H1.out]
  have ho : ∀ v ∈ C, v.oneCell' = true := by rw [hC]; exact stc_one _ _ _
  rw [← hC] at h3
  have HC := Lib.hid hC
  have HL := Lib.hid hl
  have HO := Lib.hid ho
  clear hC hl ho
  have hz := stc_len ⟨0, 0, 0, 0, 0, 0, 0, 0⟩ (List.replicate 64 0) 0 (by simp)
  obtain ⟨Z, hZ⟩ : ∃ Z, Z = stc ⟨0, 0, 0, 0, 0, 0, 0, 0⟩ (List.replicate 64 0) 0 := ⟨_, rfl⟩
  have hzs := zero_state
  rw [← hZ] at hz hzs
  have HZ := Lib.hid hz
  have HZS := Lib.hid hzs
  clear hZ hz hzs
  go_enter Tryd.func29, Tryd.ntmps29
  go_wp2_with (first
    | (refine wpList_load_mid rfl 45 _ rfl _ _ rfl C _ h3.whole Tryd.underlying45 rfl (by rw [size_state, HL.out]) ?_)
    | (refine wpList_alloc_zero rfl 45 rfl Z HZS.out ?_)
    | (refine wpList_store_mid rfl 45 _ _ rfl _ _ C.toArray rfl rfl (Bl.there_ (Bl.new _ Z 45) (by simp [HL.out, HZ.out])) (by rw [size_state, List.size_toArray, HL.out]) (all_oneCell_toArray HO.out) ?_))
  go_ret
  have hb := (Bl.new w Z 45).over (vs := C) (by rw [HL.out, HZ.out])
  exact ⟨w.heap.size, rfl, Nat.le_refl _, ⟨buf, H1.out, H2.out, by rw [← HC.out]; exact hb⟩, below_setCells ((Below.refl _ w).alloc (Nat.le_refl _) _) (Nat.le_refl _) _ _⟩

theorem copy_nil (w : World) : Calls Tryd.prog 29 #[.pointer none] w fun e w' => e = .returned (.pointer none) ∧ w = w' := by
  go_enter Tryd.func29, Tryd.ntmps29
  go_wp2
  go_ret
  exact ⟨rfl, rfl⟩

theorem pad_cells (n : Nat) (t : List UInt8) : (zeros .u8 (1 + n)).set 0 (.int .u8 128) ++ cb t = cb (128 :: (List.replicate n 0 ++ t)) := by
  rw [Nat.add_comm, zeros, List.replicate_succ, List.set_cons_zero, List.cons_append]
  simp [cb, bc]

set_option maxHeartbeats 400000 in
theorem pad_any (n : Nat) (w : World) (hn : n ≤ 1000000000) :
    Calls Tryd.prog 36 #[.int .u64 n] w (RetBytes 5 w (padZ n + 9) (pad n)) := by
  obtain ⟨i0, hi, hz0, hz1, hz2⟩ := info_parts u8_info
  have hz := padZ_lt n
  have HP : Hid (((64 : Int) - ((n : Int) % 64 + 9) % 64) % 64 = (padZ n : Int)) := by unfold Hid padZ; omega
  go_enter Tryd.func36, Tryd.ntmps36
  go_wp2_with (at_make; refine wpList_make_part _ rfl _ _ 22 rfl w.heap.size 5 i0 .u8 Tryd.underlying22 hi hz0 hz1 .i64 .i64 _ _ (1 + padZ n) (9 + padZ n) rfl rfl (by have := HP.out; omega) (by have := HP.out; omega) (by omega) (by rw [hz2]; omega) (by unfold maxLen; omega) (Nat.le_refl _) ?_; intro w1 hown hgrow; obtain ⟨u, hc⟩ := own_cell hown (show 0 < 1 + padZ n by omega); have hf := hown.frozenAt 0)
  have hbel : Below w.heap.size w w1 := (Below.refl w.heap.size w).grown hgrow (Nat.le_refl _) (by simp)
  have hs := (hown.stored 0 (.int .u8 128)).1
  have hb2 : Below w.heap.size w (w1.setCell ⟨w.heap.size, 0, none⟩ (.int .u8 128)) := hbel.setCell (by simp) _
  clear hown hgrow hc hf hbel
  have e8 : ((8 * n : Nat) : Int) = 8 * (n : Int) := by omega
  rw [← e8]
  refine (tell_any (8 * n) _).mono ?_
  rintro e w2 ⟨A2, c2, rfl, hnew⟩
  have hown2 := own_below hs hnew.below
  have hb3 := next hb2 hnew.below
  have HE := Lib.hid (pad_cells (padZ n) (told8 (8 * n)))
  clear hs e8
  go_wp2_with (at_builtin; refine wpList_append_sl _ rfl _ _ 22 rfl w.heap.size 5 i0 (.int .u8 0) 1 Tryd.underlying22 hi hz0 hz1 hz2 rfl _ (1 + padZ n) _ rfl hown2 _ A2 8 c2 (cb (told8 (8 * n))) rfl hnew.sl hnew.none_ (cb_one _) (by unfold maxLen; omega) (by omega) hb3.size ?_; intro v' w3 hown3 hgrow3 hat)
  go_ret
  have hb4 := below_app hb3 (Nat.le_refl _) hown2 hgrow3
  rw [HE.out] at hown3
  exact retBytes (by omega) rfl hown3 hb4

end Go.Proofs.YtfmbilnbbpbpeaaDoor

