/- Layer 9, label: Epochs of a ring. -/
import Derived.Test.YtlnoopmblmkgkaaGreatDoorShl
import Derived.Test.YtlnoopmblmkgkaaGreatDoorLH
namespace Go.Proofs.YtlnoopmblmkgkaaGreatDoor
set_option maxRecDepth 100000
open Go Go.RowKit Go.Maps Go.Sort Go.Shelf Go.Proofs
set_option linter.unusedVariables false
set_option linter.unusedSimpArgs false

/-- The epochs of a ring, in order. -/
def repochs (m : RM) : List Int := ((List.range 64).map fun i : Nat => (i : Int) + 1).filter fun e => (rfind m e).isSome
theorem repochs_mem {m : RM} (ok : RingOk m) (e : Int) : e ∈ repochs m ↔ ∃ x ∈ m, (x.1 : Int) = e := by
  unfold repochs
  rw [List.mem_filter, List.mem_map]
  constructor
  · rintro ⟨_, h⟩
    obtain ⟨l, hl⟩ := Option.isSome_iff_exists.1 h
    obtain ⟨x, hx, he, _⟩ := rfind_some hl
    exact ⟨x, hx, he⟩
  · rintro ⟨x, hx, he⟩
    have := ok.each x hx
    refine ⟨⟨x.1 - 1, by rw [List.mem_range]; omega, by omega⟩, ?_⟩
    cases h : rfind m e with
    | some l => rfl
    | none => exact absurd he (rfind_none h x hx)
theorem epochs_sorted : ((List.range 64).map fun i : Nat => (i : Int) + 1).Pairwise (· < ·) := by
  rw [List.pairwise_map]
  refine List.pairwise_lt_range.imp ?_
  intro a b h
  omega
theorem repochs_sorted (m : RM) : (repochs m).Pairwise (· < ·) := by
  unfold repochs
  exact List.Pairwise.sublist List.filter_sublist epochs_sorted
theorem repochs_len (m : RM) : (repochs m).length ≤ 64 := by
  unfold repochs
  refine Nat.le_trans (List.length_filter_le _ _) ?_
  simp
/-- What a sort makes of the keys. -/
theorem sorted_epochs {m : RM} {ss : List Int} (hnd : ss.Nodup) (hm : ∀ y : Int, y ∈ ss ↔ y ∈ repochs m) : ss.mergeSort (fun x y => decide (x ≤ y)) = repochs m := by
  have hs := repochs_sorted m
  have hp : ss.Perm (repochs m) := (List.perm_ext_iff_of_nodup hnd (hs.imp (fun h => Int.ne_of_lt h))).2 hm
  have tr : ∀ a b c : Int, decide (a ≤ b) = true → decide (b ≤ c) = true → decide (a ≤ c) = true := fun a b c h1 h2 => by simp only [decide_eq_true_eq] at *; omega
  have to : ∀ a b : Int, (decide (a ≤ b) || decide (b ≤ a)) = true := fun a b => by simp only [Bool.or_eq_true, decide_eq_true_eq]; omega
  refine List.Perm.eq_of_pairwise (le := fun a b => decide (a ≤ b) = true) (fun a b _ _ h1 h2 => ?_) (List.pairwise_mergeSort tr to ss) (hs.imp (fun h => by simp only [decide_eq_true_eq]; omega)) ((List.mergeSort_perm ss _).trans hp)
  simp only [decide_eq_true_eq] at h1 h2
  omega

theorem sortsA (n : Nat) : AnyZI.SortsIn Tryz.prog sortedA_ren Fence.wide n :=
  ⟨fun blk off cap ss W hH hblk hsz => callsIn_wide.2 (AnyM.slices_Sort_int sortA blk off cap ss W hH hblk hsz),
   fun p cap W => callsIn_wide.2 (AnyM.slices_Sort_int_none sortA p cap W)⟩

set_option maxHeartbeats 2000000 in
theorem lepochs_any (g B : Nat) (m : RM) (hl : m.length ≤ 1000) (w : World) (hr : Rg w B g m) :
    Calls Tryz.prog 44 #[.pointer (some ⟨g, 0, none⟩)] w fun r w' => ∃ v, r = .returned v ∧ w'.ownsRow w.heap.size 3 1 v (repochs m).length ((repochs m).map encZ) ∧ Below w.heap.size w w' := by
  obtain ⟨hg, ok, p, hb, hm⟩ := hr
  have hc0 : w.cell? ⟨g, 0, none⟩ = some (.map p) := hb.cell 0
  refine (callsIn_wide (n := 6)).1 ?_
  have cK : ∀ mb W, CallsIn Fence.wide 5 Tryz.prog 76 #[.map mb] W fun e w' => e = .returned (.func (.func 117) #[] #[.pointer (some ⟨W.heap.size, 0, none⟩)]) ∧ w' = W.alloc (.cells #[.map mb] 87) := fun mb W => AnyZI.keys_in keysA Fence.wide 5 trivial rfl mb W
  have hfK : Fence.wide.fn 76 := trivial
  have hfS : Fence.wide.fn 75 := trivial
  rcases hm with ⟨rfl, rfl⟩ | ⟨b, rfl, hb1, hb2, hf⟩
  · have hseq : SeqGives Fence.wide 2 Tryz.prog 117 #[.pointer (some ⟨w.heap.size, 0, none⟩)] encZ (fun ss : List Int => ss = []) 0 (w.alloc (.cells #[.map none] 87)) :=
      AnyZI.keys_gives_nil (ρ := keysA_ren) { keysA with } Fence.wide _ trivial rfl w.heap.size _ (by simp) (by simp)
    have cS := AnyZI.sorted_in sortedA Fence.wide 5 trivial trivial trivial trivial rfl (by omega) (sortsA _) (enters_of Tryz.func116 (by kernel_rfl) rfl) 117 #[.pointer (some ⟨w.heap.size, 0, none⟩)] trivial (enters_of Tryz.func117 (by kernel_rfl) rfl) _ 0 (Nat.zero_le _) (by omega) _ hseq
    change CallsIn _ _ Tryz.prog 75 _ _ _ at cS
    refine callsIn_of_wp Tryz.func44 rfl trivial ?_ rfl
    simp only [Tryz.ntmps44, List.size_toArray, List.length_cons, List.length_nil, Nat.reduceAdd, Nat.reduceSub, Array.replicate_succ, Array.replicate_zero, List.push_toArray, List.append_toArray, List.nil_append, List.cons_append]
    gi_wp2_with (first
      | (gi_at_call 76; refine (cK _ _).mono ?_; rintro e w' ⟨rfl, rfl⟩)
      | (gi_at_call 75; refine cS.mono ?_; rintro e w' ⟨v, ss, rfl, rfl, hrow, hnil, hbl⟩; obtain rfl : v = .slice none 0 0 := hnil.2 rfl))
    go_ret
    have e0 : repochs [] = [] := by decide
    rw [e0]
    exact ⟨_, rfl, ⟨rfl, .inl ⟨rfl, rfl⟩⟩, ((Below.refl _ w).alloc (Nat.le_refl _) _).trans (hbl.mono (by simp))⟩
  · obtain ⟨D0, hown, hsf⟩ := hf
    have hbl := hown.lt
    have hsz : Maps.size D0 ≤ m.length := by
      obtain ⟨es, clock, _, _, h1, rfl⟩ := hown
      show (List.foldr DataW.insert [] _).length ≤ _
      rw [length_sorted, List.length_map, Array.length_toList]
      exact h1
    have hseq : SeqGives Fence.wide 2 Tryz.prog 117 #[.pointer (some ⟨w.heap.size, 0, none⟩)] encZ (fun ss => ss.Perm (intKeys D0)) (Maps.size D0) (w.alloc (.cells #[.map (some b)] 87)) :=
      AnyZI.keys_gives (ρ := keysA_ren) { keysA with } Fence.wide _ trivial rfl (by omega) w.heap.size b m.length D0 _ (by simp) (by simp) (by
        obtain ⟨es, clock, hb, Ft, hs, hD⟩ := hown
        exact ⟨es, clock, (Below.heap_alloc _ _ b hbl).trans hb, Ft, hs, hD⟩)
    have cS := AnyZI.sorted_in sortedA Fence.wide 5 trivial trivial trivial trivial rfl (by omega) (sortsA _) (enters_of Tryz.func116 (by kernel_rfl) rfl) 117 #[.pointer (some ⟨w.heap.size, 0, none⟩)] trivial (enters_of Tryz.func117 (by kernel_rfl) rfl) _ _ (by unfold maxLen; omega) (by omega) _ hseq
    change CallsIn _ _ Tryz.prog 75 _ _ _ at cS
    refine callsIn_of_wp Tryz.func44 rfl trivial ?_ rfl
    simp only [Tryz.ntmps44, List.size_toArray, List.length_cons, List.length_nil, Nat.reduceAdd, Nat.reduceSub, Array.replicate_succ, Array.replicate_zero, List.push_toArray, List.append_toArray, List.nil_append, List.cons_append]
    have HSF := Lib.hid hsf
    have HOW := Lib.hid hown
    clear hsf hown
    gi_wp2_with (first
      | (gi_at_call 76; refine (cK _ _).mono ?_; rintro e w' ⟨rfl, rfl⟩)
      | (gi_at_call 75; refine cS.mono ?_; rintro e w' ⟨v, ss, rfl, hS, hrow, hnil, hbl⟩))
    go_ret
    have K := int_keyed (P := Tryz.prog) (k := 3) Tryz.underlying3
    obtain ⟨es, hD, hpw, _⟩ := HOW.out.entries K
    obtain ⟨es', hD', hko⟩ := HOW.out.keysOf
    obtain rfl : es = es' := by rw [hD] at hD'; simpa using hD'
    have hkk : ∀ p ∈ es, ∃ x, p.1 = .int .i64 x := fun p hp => by obtain ⟨v, hv⟩ := hko p hp; obtain ⟨x, _, hx, _⟩ := Maps.keyOf_i64 Tryz.underlying3 hv; exact ⟨x, hx⟩
    have hnd : ss.Nodup := by
      refine hS.symm.nodup ?_
      rw [hD]
      show (es.map fun p => Go.intOf p.1).Nodup
      refine List.pairwise_map.2 (hpw.imp_of_mem fun {p q} hp' hq' hne e => hne ?_)
      obtain ⟨a, ha⟩ := hkk p hp'
      obtain ⟨c, hc⟩ := hkk q hq'
      rw [ha, hc] at e ⊢
      exact congrArg _ e
    have hmem : ∀ y : Int, y ∈ ss ↔ y ∈ repochs m := fun y => by
      rw [hS.mem_iff, repochs_mem ok, ← rf_has y, ← (HSF.out _ (show WideAt.IsKeyLit (.int .i64 y) from trivial)).1, hD, has_eq, List.any_eq_true]
      show y ∈ es.map (fun p => Go.intOf p.1) ↔ _
      rw [List.mem_map]
      constructor
      · rintro ⟨p, hp', rfl⟩
        obtain ⟨a, ha⟩ := hkk p hp'
        exact ⟨p, hp', by rw [ha]; simp [Lit.sameKey, Go.intOf]⟩
      · rintro ⟨p, hp', hs⟩
        obtain ⟨a, ha⟩ := hkk p hp'
        rw [ha] at hs
        exact ⟨p, hp', by rw [ha]; simpa [Lit.sameKey, Go.intOf] using hs⟩
    have hsort := sorted_epochs hnd hmem
    have hlen : ss.length = (repochs m).length := by rw [← hsort, List.length_mergeSort]
    rw [hsort, hlen] at hrow
    exact ⟨v, rfl, own_down hrow (by simp), ((Below.refl _ w).alloc (Nat.le_refl _) _).trans (hbl.mono (by simp))⟩

end Go.Proofs.YtlnoopmblmkgkaaGreatDoor
