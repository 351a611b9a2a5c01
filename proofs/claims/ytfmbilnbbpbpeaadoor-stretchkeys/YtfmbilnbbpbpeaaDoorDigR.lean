/- The reference of layer 2: words, keys, first. -/
import Derived.Test.YtfmbilnbbpbpeaaDoorDigA
import Derived.Test.YtfmbilnbbpbpeaaDoorArr
import Derived.Deep.RegionLaw
import Derived.IntWalk
namespace Go.Proofs.YtfmbilnbbpbpeaaDoor
open Go.RowKit

/-- A call that gives n cells xs in new memory. -/
def RetRow (E : TypeId) (w : World) (n : Nat) (xs : List Value) (e : Ending) (w' : World) : Prop := ∃ A c, e = .returned (.slice A n c) ∧ w'.ownsRow w.heap.size E 1 (.slice A n c) n xs ∧ Below w.heap.size w w'
theorem retRow {E : TypeId} {w w' : World} {n n' : Nat} {xs xs' : List Value} {v : Value} (hn : n' = n) (hl : xs' = xs) (h : w'.ownsRow w.heap.size E 1 v n' xs') (hb : Below w.heap.size w w') : RetRow E w n xs (.returned v) w' := by
  subst hn; subst hl
  obtain ⟨A, c, rfl⟩ := own_form h
  exact ⟨A, c, rfl, h, hb⟩
theorem u32_info : (Tryd.prog.info? 40).map (fun i => (i.zero, i.size, i.bytes)) = some (some (.int .u32 0), 1, 4) := by kernel_rfl

/-- By how much the reference turns to the left. -/
def rK (n : Int) : Nat := turnK (32 - n)
theorem right_open (x : Nat) (n : Int) (w : World) (h : x < 4294967296) (h0 : 0 ≤ n) (h1 : n ≤ 32) :
    Calls Tryd.prog 34 #[.int .u32 x, .int .i64 n] w fun e w' => e = .returned (.int .u32 (rotN x (rK n) : Nat)) ∧ w = w' := by
  obtain ⟨k, rfl⟩ := Int.eq_ofNat_of_zero_le h0
  exact right_any x k (rK k) w h (by omega) rfl

theorem down_lit (x : Nat) (n : Int) (k d : Nat) (w : World) (h : x < 4294967296) (hk : n = k) (hk32 : k ≤ 32) (hd : 2 ^ k = d) :
    Calls Tryd.prog 38 #[.int .u32 x, .int .i64 n] w fun e w' => e = .returned (.int .u32 ((x : Int) / (d : Int))) ∧ w = w' := by
  subst hk; subst hd
  have e : (x : Int) / ((2 ^ k : Nat) : Int) = ((x / 2 ^ k : Nat) : Int) := by rw [Int.natCast_ediv]
  rw [e]
  exact down_any x k w h hk32

section
variable {P : Program}
/-- A slice literal whose cells are known. -/
theorem wpList_buildSlice_to {ops : Array Oper} {rest : List Oper} {o : Oper} {a : Act} {w : World} {Q : Exit → Act → World → Prop} (hgd : o.guard = none) (t : TypeId) (len : Nat) (parts : Array (Nat × Operand)) (ho : o.op = .buildSlice t len parts)
    (e : TypeId) (i : TypeInfo) (k : IntKind) (ht : P.underlying t = some (.slice e)) (hi : P.info? e = some i) (hz : i.zero = some (.int k 0)) (hs : i.size = 1) (hlen : len ≤ 1000) (hpos : 0 < len)
    (cells : List Value) (hb : Instr.fill (fun j => some (j, 1)) (zeros k len).toArray (parts.toList.map fun p => (p.1, a.eval p.2)) = some cells.toArray)
    (h : wpList P ops Q rest (a.put o.dst (.slice (some ⟨w.heap.size, 0, none⟩) len len)) (w.alloc (.cells cells.toArray e))) : wpList P ops Q (o :: rest) a w := by
  refine wpList_plain hgd fun K hK => ?_
  have hm : (Array.map (fun x => (Value.int k 0).cells[x % (Value.int k 0).cells.size]!) (Array.range len)) = (zeros k len).toArray := by
    have := made_zeros k len
    unfold madeCells at this
    apply Array.toList_inj.1
    rw [this]
  have h24 : ¬ 16777216 < len := by omega
  have h0 : ¬ len = 0 := by omega
  have hr : (Instr.buildSlice t len (parts.map fun (i, x) => (i, a.eval x))).run P w = .ok (.slice (some ⟨w.heap.size, 0, none⟩) len len) (w.alloc (.cells cells.toArray e)) := by
    unfold Instr.buildSlice
    simp [run_underlying ht, sizeOf, typeInfo, zeroValue, hi, hs, hz, newRow]
    rw [if_neg h24, if_neg h0, hm, hb]
    simp
  unfold Oper.wp execOp
  simp only [ho, Sem.run_bind, hr, Result.andThen_ok]
  exact hK _ _ h
end

theorem fill_keys : Instr.fill (fun j => some (j, 1)) (zeros .u32 64).toArray (((List.range 64).map fun j => (j, Value.int .u32 (shaK.getD j 0 : Nat)))) = some (us shaK).toArray := by kernel_rfl

set_option maxRecDepth 100000 in
theorem keys_any (w : World) : Calls Tryd.prog 33 #[] w (RetRow 40 w 64 (us shaK)) := by
  obtain ⟨i0, hi, hz0, hz1, hz2⟩ := info_parts u32_info
  have hl : (us shaK).length = 64 := by rw [us_len, shaK_len]
  obtain ⟨S, hS⟩ : ∃ S, S = us shaK := ⟨_, rfl⟩
  have hf := fill_keys
  rw [← hS] at hf hl ⊢
  have HF := Lib.hid hf
  have HL := Lib.hid hl
  clear hf hS hl
  go_enter Tryd.func33, Tryd.ntmps33
  go_wp2_with (refine wpList_buildSlice_to rfl 52 64 _ rfl 40 i0 .u32 Tryd.underlying52 hi hz0 hz1 (by omega) (by omega) S HF.out ?_)
  go_ret
  exact retRow rfl rfl (World.ownsRow_lit w S.toArray 64 (Nat.le_refl _) (by decide) (by simp [HL.out])) ((Below.refl _ w).alloc (Nat.le_refl _) _)

theorem first_any (w : World) : Calls Tryd.prog 22 #[] w (RetRow 40 w 8 (us shaS.list)) := by
  go_enter Tryd.func22, Tryd.ntmps22
  go_wp2
  go_ret
  exact retRow rfl rfl (World.ownsRow_lit w (us shaS.list).toArray 8 (Nat.le_refl _) (by decide) rfl) ((Below.refl _ w).alloc (Nat.le_refl _) _)

end Go.Proofs.YtfmbilnbbpbpeaaDoor

