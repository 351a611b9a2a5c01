/- Load, Long and their references, worth: functions that read bytes. -/
import Derived.Test.YtfmbilnbbpbpeaaDoorWordA
namespace Go.Proofs.YtfmbilnbbpbpeaaDoor
open Go.RowKit

theorem ret2 {k1 k2 : IntKind} {a b a' b' : Int} (h : a = a') (k : b = b') : Ending.returned (.tuple #[.int k1 a, .int k2 b]) = .returned (.tuple #[.int k1 a', .int k2 b']) := by rw [h, k]

set_option maxHeartbeats 400000 in
theorem worth_any (l : List UInt8) (w : World) (B : Nat) (A : Option Addr) (n c : Nat) (h : Sl w B A n (cb l)) (hl : l.length ≤ 8) :
    Calls Tryd.prog 44 #[.slice A n c] w fun e w' => e = .returned (.int .u64 (val l : Nat)) ∧ w = w' := by
  have hn : n = l.length := by rw [← h.1, cb_len]
  subst hn
  go_enter Tryd.func44, Tryd.ntmps44
  go_wp2
  go_loop [3, 4] (fun t i => ∃ k : Nat, k ≤ l.length ∧ i = .int .i64 k ∧ t = .int .u64 (val (l.take k) : Nat)) (fun _ i => l.length - (intOf i).toNat)
  case atStart => exact ⟨0, Nat.zero_le _, rfl, rfl⟩
  case round =>
    obtain ⟨k, hk, rfl, rfl⟩ := hrel
    by_cases hlt : k < l.length
    · obtain ⟨ad, rfl, _, hc⟩ := h.byte hlt
      have hb : l[k].toNat < 256 := l[k].toNat_lt
      have hv : val (l.take k) < 72057594037927936 := Nat.lt_of_lt_of_le (val_take_lt l k hk) (Nat.pow_le_pow_right (n := 256) (by decide) (show k ≤ 7 by omega))
      have HS := Lib.hid (val_take l k hlt)
      go_wp2
      go_round
      case rel => exact ⟨k + 1, by omega, by go_num, by rw [HS.out]; go_num⟩
      case measure => simp [intOf]; omega
    · go_wp2
      go_ret
      exact ⟨ret_int (by rw [List.take_of_length_le (by omega)]), rfl⟩

theorem ld_eq (l : List UInt8) (low : Bool) (k : Nat) (hk : k < l.length) : bits .or .u32 (ldTo l low k : Nat) ((l[k].toNat : Int) * 2 ^ shf k low % 4294967296) = ((ldTo l low (k + 1) : Nat) : Int) := by
  have e1 : (l[k].toNat : Int) * 2 ^ shf k low % 4294967296 = ((l[k].toNat * 2 ^ shf k low % 4294967296 : Nat) : Int) := by
    rw [Int.natCast_emod, Int.natCast_mul, Int.natCast_pow]; rfl
  rw [e1, u32_or_nat _ _ (ldTo_lt l low k) (Nat.mod_lt _ (by decide))]
  simp [ldTo, hk]

/-- Only draws have come. -/
def Drew (w w' : World) : Prop := ∃ m, w' = w.drewN m
theorem Drew.refl (w : World) : Drew w w := ⟨0, rfl⟩
theorem Drew.cell {w w' : World} (h : Drew w w') (a : Addr) : w'.cell? a = w.cell? a := by obtain ⟨m, rfl⟩ := h; rfl
theorem Drew.more {w w' : World} (h : Drew w w') (n : Nat) : Drew w (w'.drewN n) := by obtain ⟨m, rfl⟩ := h; exact ⟨m + n, by simp⟩
theorem Drew.trans {a b c : World} (h : Drew a b) (k : Drew b c) : Drew a c := by obtain ⟨m, rfl⟩ := k; exact h.more m
theorem Drew.below {w w' : World} (h : Drew w w') (B : Nat) : Below B w w' := by obtain ⟨m, rfl⟩ := h; exact ⟨rfl, rfl, rfl, Nat.le_refl _, fun _ _ => rfl⟩

set_option maxHeartbeats 400000 in
theorem load_any (l : List UInt8) (low : Bool) (w : World) (B : Nat) (A : Option Addr) (n c : Nat) (h : Sl w B A n (cb l)) (hm : n ≤ maxLen) :
    Calls Tryd.prog 45 #[.slice A n c, .bool low] w fun e w' => e = .returned (.tuple #[.int .u32 (loadV l low : Nat), .int .i64 (loadE l)]) ∧ Drew w w' := by
  have hn : n = l.length := by rw [← h.1, cb_len]
  subst hn
  unfold maxLen at hm
  by_cases h4 : l.length = 4
  · have HV := Lib.hid (ldTo_four l low h4)
    have HE : Hid (loadE l = 0) := by unfold loadE Hid; rw [if_pos h4]
    have hq : ((l.length : Int) != 4) = false := by simp [h4]
    obtain ⟨ad, rfl, _, hc⟩ := h.2 (by omega)
    have H4 := Lib.hid h4
    have hg : l.length ≤ 4 := by omega
    clear h4
    go_enter Tryd.func45, Tryd.ntmps45
    go_wp2
    go_loopw [6, 11] (fun t i wr => ∃ k : Nat, k ≤ 4 ∧ i = .int .i64 k ∧ t = .int .u32 (ldTo l low k : Nat) ∧ Drew w wr) (fun _ i _ => 4 - (intOf i).toNat)
    case atStart => exact ⟨0, by omega, rfl, rfl, Drew.refl w⟩
    case round =>
      obtain ⟨k, hk, rfl, rfl, hD⟩ := hrel
      by_cases hlt : k < 4
      · have hkl : k < l.length := by have := H4.out; omega
        have hc1 := (hD.cell _).trans (hc k _ (cb_at hkl))
        have hb : l[k].toNat < 256 := l[k].toNat_lt
        have hs := shf_le k low (by omega)
        have hv := ldTo_lt l low k
        have HS := Lib.hid (ld_eq l low k hkl)
        have hi0 : (0 : Int) ≤ (k : Int) := by omega
        have hi1 : (k : Int) < (l.length : Int) := by omega
        clear hc h
        go_wp2
        go_quiet ((go_at_call 31; exact Calls.quiet_of_same (shift_any _ _ _ (by omega))))
        go_wp2
        go_roundw
        case rel => exact ⟨k + 1, by omega, by go_num, by rw [HS.out], hD.more _⟩
        case measure => simp [intOf]; omega
      · have HK : Hid (k = 4) := (by omega : k = 4)
        go_wp2
        go_ret2
        exact ⟨ret2 (by rw [← HV.out, HK.out]) (by rw [HE.out]), hD⟩
  · have HV : Hid (loadV l low = 0) := by unfold loadV Hid; rw [if_neg h4]
    have HE : Hid (loadE l = 1) := by unfold loadE Hid; rw [if_neg h4]
    have hq : ((l.length : Int) != 4) = true := by simp; omega
    clear h4
    go_enter Tryd.func45, Tryd.ntmps45
    go_wp2
    go_ret2
    exact ⟨ret2 (by rw [HV.out]; rfl) (by rw [HE.out]), Drew.refl w⟩

theorem u8_info : (Tryd.prog.info? 5).map (fun i => (i.zero, i.size, i.bytes)) = some (some (.int .u8 0), 1, 1) := by kernel_rfl

theorem cb_rev_take (l : List UInt8) (k : Nat) (hk : k < l.length) : cb (l.reverse.take (k + 1)) = cb (l.reverse.take k) ++ [.int .u8 (l[l.length - 1 - k].toNat : Int)] := by
  rw [take_snoc _ _ (by simpa using hk), cb_append]
  simp [cb, bc]

set_option maxHeartbeats 400000 in
theorem rback_any (l : List UInt8) (w : World) (B : Nat) (A : Option Addr) (n c : Nat) (h : Sl w B A n (cb l)) (hm : n ≤ 140737488355328) (hB : B ≤ w.heap.size) :
    Calls Tryd.prog 17 #[.slice A n c] w (RetBytes 5 w n l.reverse) := by
  have hn : n = l.length := by rw [← h.1, cb_len]
  subst hn
  obtain ⟨i0, hi, hz0, hz1, hz2⟩ := info_parts u8_info
  go_enter Tryd.func17, Tryd.ntmps17
  go_wp2
  go_loopw [3, 4] (fun v i wr => ∃ k : Nat, k ≤ l.length ∧ i = .int .i64 ((l.length : Int) - 1 - k) ∧ wr.ownsRow w.heap.size 5 1 v k (cb (l.reverse.take k)) ∧ Below w.heap.size w wr) (fun _ i _ => (intOf i + 1).toNat)
  case atStart => exact ⟨0, Nat.zero_le _, by go_num, World.ownsRow_nil _ _ _ _, Below.refl _ _⟩
  case round =>
    obtain ⟨k, hk, rfl, hown, hbel⟩ := hrel
    by_cases hlt : k < l.length
    · obtain ⟨ad, rfl, hbl, hc⟩ := (h.below (hbel.mono hB)).byte (j := l.length - 1 - k) (by omega)
      have HS := Lib.hid (cb_rev_take l k hlt)
      have hj0 : (0 : Int) ≤ (l.length : Int) - 1 - k := by omega
      have hsz := hbel.size
      clear h
      go_wp2_with (at_builtin; refine wpList_append_own_at _ rfl _ _ 22 rfl w.heap.size 5 i0 (.int .u8 0) 1 1 Tryd.underlying22 hi hz0 hz1 hz2 rfl (by decide) _ _ _ rfl (hown.alloc _) ⟨wr.heap.size, 0, none⟩ 1 1 _ rfl rfl (cell_one_new _ _ _) (by simp [Value.oneCell']) (by unfold maxLen; omega) (by omega) (by simp; omega) ?_; intro v' w1 hown' hgrow hnil hat)
      have hb1 := below_app1 hbel (Nat.le_refl _) hown hgrow
      have HO := Lib.hid hown'
      clear hown' hgrow hnil hat hown hc
      go_wp2
      go_roundw
      case rel => exact ⟨k + 1, by omega, by go_num, by rw [HS.out]; exact HO.out, hb1⟩
      case measure => simp [intOf]; omega
    · have HK : Hid (k = l.length) := (by omega : k = l.length)
      go_wp2
      go_ret
      exact retBytes HK.out (by rw [HK.out, List.take_of_length_le (by simp)]) hown hbel

/-- Load of the document. -/
theorem rload_any (l : List UInt8) (low : Bool) (w : World) (B : Nat) (A : Option Addr) (n c : Nat) (h : Sl w B A n (cb l)) (hm : n ≤ maxLen) (hB : B ≤ w.heap.size) :
    Calls Tryd.prog 37 #[.slice A n c, .bool low] w fun e w' => e = .returned (.tuple #[.int .u32 (loadV l low : Nat), .int .i64 (loadE l)]) ∧ Below w.heap.size w w' := by
  have hn : n = l.length := by rw [← h.1, cb_len]
  subst hn
  unfold maxLen at hm
  by_cases h4 : l.length = 4
  · have HE : Hid (loadE l = 0) := by unfold loadE Hid; rw [if_pos h4]
    have hv := loadV_lt l low
    have hq : ((l.length : Int) != 4) = false := by simp [h4]
    have H4 := Lib.hid h4
    have hg : l.length ≤ 4 := by omega
    clear h4
    cases low
    · have HV : Hid (val l = loadV l false) := by unfold loadV Hid; rw [if_pos H4.out]; simp
      have hb : val l < 4294967296 := by rw [HV.out]; exact hv
      go_enter Tryd.func37, Tryd.ntmps37
      go_wp2_with (go_at_call 44; refine (worth_any l _ _ _ _ _ h (by omega)).mono ?_; rintro e w' ⟨rfl, rfl⟩)
      go_ret2
      exact ⟨ret2 (by rw [HV.out]) (by rw [HE.out]), Below.refl _ _⟩
    · have HV : Hid (val l.reverse = loadV l true) := by unfold loadV Hid; rw [if_pos H4.out]; simp
      have hb : val l.reverse < 4294967296 := by rw [HV.out]; exact hv
      go_enter Tryd.func37, Tryd.ntmps37
      go_wp2_with fail
      refine (rback_any l _ _ _ _ _ h (by omega) hB).mono ?_
      rintro e w1 ⟨A1, c1, rfl, hnew⟩
      go_wp2_with (go_at_call 44; refine (worth_any l.reverse _ _ _ _ _ hnew.sl (by rw [List.length_reverse]; omega)).mono ?_; rintro e w' ⟨rfl, rfl⟩)
      go_ret2
      exact ⟨ret2 (by rw [HV.out]) (by rw [HE.out]), hnew.below⟩
  · have HV : Hid (loadV l low = 0) := by unfold loadV Hid; rw [if_neg h4]
    have HE : Hid (loadE l = 1) := by unfold loadE Hid; rw [if_neg h4]
    have hq : ((l.length : Int) != 4) = true := by simp; omega
    clear h4
    go_enter Tryd.func37, Tryd.ntmps37
    go_wp2
    go_ret2
    exact ⟨ret2 (by rw [HV.out]; rfl) (by rw [HE.out]), Below.refl _ _⟩

theorem long_eq (l : List UInt8) (k : Nat) (hk : k < l.length) (h8 : l.length ≤ 8) : bits .or .u64 ((val (l.take k) : Int) * 256) (l[k].toNat : Int) = ((val (l.take (k + 1)) : Nat) : Int) := by
  have hb : l[k].toNat < 256 := l[k].toNat_lt
  have hv : val (l.take k) < 72057594037927936 := Nat.lt_of_lt_of_le (val_take_lt l k (by omega)) (Nat.pow_le_pow_right (n := 256) (by decide) (show k ≤ 7 by omega))
  have e : (val (l.take k) : Int) * 256 = ((val (l.take k) * 256 : Nat) : Int) := by omega
  rw [e, u64_or_nat _ _ (by omega) (by omega), or_add8 _ _ hb, val_take l k hk]

end Go.Proofs.YtfmbilnbbpbpeaaDoor

