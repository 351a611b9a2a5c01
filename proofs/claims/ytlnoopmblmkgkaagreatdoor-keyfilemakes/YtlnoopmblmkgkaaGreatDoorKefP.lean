/- Layer 11, keyfile: what a file is, in bytes; the text of a ring, and what a text is read as. No function of the program is walked here. -/
import Derived.Test.YtlnoopmblmkgkaaGreatDoorLX
namespace Go.Proofs.YtlnoopmblmkgkaaGreatDoor
set_option maxRecDepth 100000
open Go Go.RowKit
set_option linter.unusedVariables false
set_option linter.unusedSimpArgs false

/-- May a box have n bytes? -/
def boxn (n : Int) : Bool := decide (49 ≤ n) && (decide (n ≤ 2128) && decide ((n - 16) % 33 = 0))
/-- The same, over the first k sizes. -/
def sizeTo (n : Int) (k : Nat) : Bool := (List.range k).any fun j => decide (n = 16 + 33 * ((j : Int) + 1))
theorem sizeTo_zero (n : Int) : sizeTo n 0 = false := rfl
theorem sizeTo_succ (n : Int) (k : Nat) : sizeTo n (k + 1) = (sizeTo n k || decide (n = 16 + 33 * ((k : Int) + 1))) := by
  unfold sizeTo
  rw [List.range_succ, List.any_append]
  simp
theorem sizeTo_all (n : Int) : sizeTo n 64 = boxn n := by
  rw [Bool.eq_iff_iff]
  unfold sizeTo boxn
  simp only [List.any_eq_true, List.mem_range, decide_eq_true_eq, Bool.and_eq_true]
  constructor
  · rintro ⟨j, hj, rfl⟩
    omega
  · rintro ⟨h1, h2, h3⟩
    exact ⟨((n - 49) / 33).toNat, by omega, by omega⟩
/-- May a file be of that salt, rounds, number, whose box has n bytes? -/
def kfit (sl : Nat) (r nu n : Int) : Bool := boxn n && (decide (sl = 16) && (decide (1 ≤ r) && (decide (r ≤ 4096) && (decide (1 ≤ nu) && decide (nu ≤ 1099511627776)))))
theorem kfit_iff (sl : Nat) (r nu n : Int) : kfit sl r nu n = true ↔ (49 ≤ n ∧ n ≤ 2128 ∧ (n - 16) % 33 = 0) ∧ sl = 16 ∧ 1 ≤ r ∧ r ≤ 4096 ∧ 1 ≤ nu ∧ nu ≤ 1099511627776 := by unfold kfit boxn; simp [and_assoc]

/-- The header. -/
def headL (salt : List UInt8) (r nu n : Nat) : List UInt8 := 117 :: (salt ++ (stored r false ++ (told8 nu ++ stored n false)))
theorem headL_len {salt : List UInt8} (h : salt.length = 16) (r nu n : Nat) : (headL salt r nu n).length = 33 := by unfold headL; simp [stored_len, told8_len, h]
/-- A file's bytes. -/
def putL (salt : List UInt8) (r nu : Int) (box : List UInt8) : List UInt8 := if kfit salt.length r nu box.length = true then headL salt r.toNat nu.toNat box.length ++ box else []

/-- The parts of bytes that are read as a file. -/
def gSalt (b : List UInt8) : List UInt8 := (b.drop 1).take 16
def gR (b : List UInt8) : Nat := val ((b.drop 17).take 4)
def gNu (b : List UInt8) : Nat := val ((b.drop 21).take 8)
def gN (b : List UInt8) : Nat := val ((b.drop 29).take 4)
def gBox (b : List UInt8) : List UInt8 := b.drop 33
/-- Do bytes begin as a file does? -/
def gHead (b : List UInt8) : Bool := decide (b.getD 0 0 = 117) && kfit 16 (gR b) (gNu b) (gN b)
/-- What Size tells. -/
def szE (b : List UInt8) : Int := if b.length < 33 then 3 else if gHead b = true then (if b.length < 33 + gN b then 3 else 0) else 5
def szN (b : List UInt8) : Nat := if szE b = 0 then 33 + gN b else 0
/-- What Get tells. -/
def gtE (b : List UInt8) : Int := if szE b = 0 then (if 33 + gN b < b.length then 4 else 0) else szE b

theorem gR_lt (b : List UInt8) : gR b < 4294967296 := by
  have h := val_lt ((b.drop 17).take 4)
  have h2 : ((b.drop 17).take 4).length ≤ 4 := by rw [List.length_take]; omega
  exact Nat.lt_of_lt_of_le h (Nat.pow_le_pow_right (n := 256) (by decide) h2)
theorem gN_lt (b : List UInt8) : gN b < 4294967296 := by
  have h := val_lt ((b.drop 29).take 4)
  have h2 : ((b.drop 29).take 4).length ≤ 4 := by rw [List.length_take]; omega
  exact Nat.lt_of_lt_of_le h (Nat.pow_le_pow_right (n := 256) (by decide) h2)
theorem gNu_lt (b : List UInt8) : gNu b < 18446744073709551616 := by
  have h := val_lt ((b.drop 21).take 8)
  have h2 : ((b.drop 21).take 8).length ≤ 8 := by rw [List.length_take]; omega
  exact Nat.lt_of_lt_of_le h (Nat.pow_le_pow_right (n := 256) (by decide) h2)

theorem val_stored (x : Nat) (h : x < 4294967296) : val (stored x false) = x := by unfold stored; simp only [Bool.false_eq_true, if_false]; rw [val_le, Nat.mod_eq_of_lt (by omega)]
theorem val_told8 (x : Nat) (h : x < 18446744073709551616) : val (told8 x) = x := by unfold told8; rw [val_le, Nat.mod_eq_of_lt (by omega)]
theorem stored_val {b : List UInt8} (h : b.length = 4) : stored (val b) false = b := by
  have hv := val_lt b
  rw [h] at hv
  exact val_inj _ _ (by rw [stored_len, h]) (val_stored _ (by simpa using hv))
theorem told8_val {b : List UInt8} (h : b.length = 8) : told8 (val b) = b := by
  have hv := val_lt b
  rw [h] at hv
  exact val_inj _ _ (by rw [told8_len, h]) (val_told8 _ (by simpa using hv))

theorem drop_cut {α : Type} (a b : List α) (n k : Nat) (h : a.length = n) : (a ++ b).drop (n + k) = b.drop k := by
  subst h
  rw [List.drop_append, List.drop_of_length_le (by omega), List.nil_append]
  congr 1; omega
theorem take_cut {α : Type} (a b : List α) (n : Nat) (h : a.length = n) : (a ++ b).take n = a := by
  subst h; simp

/-- What the header's bytes are read as. -/
theorem head_parts {salt : List UInt8} (h : salt.length = 16) {r nu n : Nat} (hr : r < 4294967296) (hnu : nu < 18446744073709551616) (hn : n < 4294967296) (box : List UInt8) :
    gSalt (headL salt r nu n ++ box) = salt ∧ gR (headL salt r nu n ++ box) = r ∧ gNu (headL salt r nu n ++ box) = nu ∧ gN (headL salt r nu n ++ box) = n ∧ gBox (headL salt r nu n ++ box) = box ∧ (headL salt r nu n ++ box).getD 0 0 = 117 := by
  have e0 : headL salt r nu n ++ box = [117] ++ (salt ++ (stored r false ++ (told8 nu ++ (stored n false ++ box)))) := by unfold headL; simp
  rw [e0]
  refine ⟨?_, ?_, ?_, ?_, ?_, rfl⟩
  · unfold gSalt; rw [drop_cut _ _ 1 0 rfl, List.drop_zero, take_cut _ _ _ h]
  · unfold gR
    rw [drop_cut _ _ 1 16 rfl, drop_cut _ _ 16 0 h, List.drop_zero, take_cut _ _ _ (stored_len _ _), val_stored _ hr]
  · unfold gNu
    rw [drop_cut _ _ 1 20 rfl, drop_cut _ _ 16 4 h, drop_cut _ _ 4 0 (stored_len _ _), List.drop_zero, take_cut _ _ _ (told8_len _), val_told8 _ hnu]
  · unfold gN
    rw [drop_cut _ _ 1 28 rfl, drop_cut _ _ 16 12 h, drop_cut _ _ 4 8 (stored_len _ _), drop_cut _ _ 8 0 (told8_len _), List.drop_zero, take_cut _ _ _ (stored_len _ _), val_stored _ hn]
  · unfold gBox
    rw [drop_cut _ _ 1 32 rfl, drop_cut _ _ 16 16 h, drop_cut _ _ 4 12 (stored_len _ _), drop_cut _ _ 8 4 (told8_len _), drop_cut _ _ 4 0 (stored_len _ _), List.drop_zero]

/-- Bytes whose header is right are its parts, one behind the other. -/
theorem parts_head {b : List UInt8} (h : 33 ≤ b.length) (h0 : b.getD 0 0 = 117) : headL (gSalt b) (gR b) (gNu b) (gN b) ++ gBox b = b := by
  match b, h with
  | c :: t, h =>
    have hc : c = 117 := by simpa using h0
    subst hc
    have hl : 32 ≤ t.length := by simpa using h
    have e1 : gSalt (117 :: t) = t.take 16 := rfl
    have e2 : stored (gR (117 :: t)) false = (t.drop 16).take 4 := stored_val (by simp; omega)
    have e3 : told8 (gNu (117 :: t)) = (t.drop 20).take 8 := told8_val (by simp; omega)
    have e4 : stored (gN (117 :: t)) false = (t.drop 28).take 4 := stored_val (by simp; omega)
    have e5 : gBox (117 :: t) = t.drop 32 := rfl
    unfold headL
    rw [e1, e2, e3, e4, e5]
    have s1 : (t.drop 28).take 4 ++ t.drop 32 = t.drop 28 := by rw [show t.drop 32 = (t.drop 28).drop 4 by rw [List.drop_drop], List.take_append_drop]
    have s2 : (t.drop 20).take 8 ++ t.drop 28 = t.drop 20 := by rw [show t.drop 28 = (t.drop 20).drop 8 by rw [List.drop_drop], List.take_append_drop]
    have s3 : (t.drop 16).take 4 ++ t.drop 20 = t.drop 16 := by rw [show t.drop 20 = (t.drop 16).drop 4 by rw [List.drop_drop], List.take_append_drop]
    simp only [List.cons_append, List.append_assoc]
    rw [s1, s2, s3, List.take_append_drop]

theorem gHead_iff (b : List UInt8) : gHead b = true ↔ b.getD 0 0 = 117 ∧ kfit 16 (gR b) (gNu b) (gN b) = true := by unfold gHead; simp only [Bool.and_eq_true, decide_eq_true_eq]

/-- What is put is read as it was, whatever stands behind. -/
theorem put_read {salt : List UInt8} {r nu : Int} {box : List UInt8} (hf : kfit salt.length r nu box.length = true) (x : List UInt8) :
    szE (putL salt r nu box ++ x) = 0 ∧ szN (putL salt r nu box ++ x) = (putL salt r nu box).length ∧ gSalt (putL salt r nu box ++ x) = salt ∧ (gR (putL salt r nu box ++ x) : Int) = r ∧ (gNu (putL salt r nu box ++ x) : Int) = nu ∧ gBox (putL salt r nu box ++ x) = box ++ x ∧ (putL salt r nu box).length = 33 + box.length := by
  obtain ⟨⟨h1, h2, h3⟩, h4, h5, h6, h7, h8⟩ := (kfit_iff _ _ _ _).1 hf
  have ep : putL salt r nu box = headL salt r.toNat nu.toNat box.length ++ box := by unfold putL; rw [if_pos hf]
  have hlen : (putL salt r nu box).length = 33 + box.length := by rw [ep, List.length_append, headL_len h4]
  have hp := head_parts h4 (r := r.toNat) (nu := nu.toNat) (n := box.length) (by omega) (by omega) (by omega) (box ++ x)
  rw [← List.append_assoc, ← ep] at hp
  obtain ⟨p1, p2, p3, p4, p5, p6⟩ := hp
  have hg : gHead (putL salt r nu box ++ x) = true := (gHead_iff _).2 ⟨p6, (kfit_iff _ _ _ _).2 (by rw [p2, p3, p4]; omega)⟩
  have hz : szE (putL salt r nu box ++ x) = 0 := by
    unfold szE
    rw [if_neg (by rw [List.length_append, hlen]; omega), if_pos hg, if_neg (by rw [List.length_append, hlen, p4]; omega)]
  refine ⟨hz, ?_, p1, ?_, ?_, p5, hlen⟩
  · unfold szN; rw [if_pos hz, p4, hlen]
  · rw [p2]; omega
  · rw [p3]; omega

/-- What is read is put as it stood. -/
theorem read_put {b : List UInt8} (h : gtE b = 0) : putL (gSalt b) (gR b) (gNu b) (gBox b) = b ∧ kfit (gSalt b).length (gR b) (gNu b) (gBox b).length = true ∧ (gSalt b).length = 16 ∧ (gBox b).length = gN b := by
  have hz : szE b = 0 := by
    unfold gtE at h
    split at h
    · assumption
    · rename_i h2; exact absurd h h2
  have hm : b.length ≤ 33 + gN b := by
    unfold gtE at h
    rw [if_pos hz] at h
    split at h
    · cases h
    · omega
  have h33 : 33 ≤ b.length ∧ gHead b = true ∧ 33 + gN b ≤ b.length := by
    unfold szE at hz
    split at hz
    · cases hz
    · split at hz
      · split at hz
        · cases hz
        · exact ⟨by omega, by assumption, by omega⟩
      · cases hz
  obtain ⟨a1, a2, a3⟩ := h33
  obtain ⟨b1, b2⟩ := (gHead_iff b).1 a2
  have hs : (gSalt b).length = 16 := by unfold gSalt; rw [List.length_take, List.length_drop]; omega
  have hbl : (gBox b).length = gN b := by unfold gBox; rw [List.length_drop]; omega
  have hk : kfit (gSalt b).length (gR b) (gNu b) (gBox b).length = true := by rw [hs, hbl]; exact b2
  refine ⟨?_, hk, hs, hbl⟩
  unfold putL
  rw [if_pos hk, hbl, Int.toNat_natCast, Int.toNat_natCast]
  exact parts_head a1 b1

end Go.Proofs.YtlnoopmblmkgkaaGreatDoor
