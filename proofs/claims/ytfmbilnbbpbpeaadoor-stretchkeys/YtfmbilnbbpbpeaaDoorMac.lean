/- HMAC with SHA-256, on lists of bytes. No program is named here. -/
import Derived.Test.YtfmbilnbbpbpeaaDoorSha
namespace Go.Proofs.YtfmbilnbbpbpeaaDoor
open Go.RowKit

/-- The key, or its sum where it has more than 64 bytes. -/
def kshort (key : List UInt8) : List UInt8 := if 64 < key.length then sha key else key
/-- The block of a key. -/
def kblk (key : List UInt8) : List UInt8 := kshort key ++ List.replicate (64 - (kshort key).length) 0
/-- A block, exclusive-ored. -/
def kx (p : UInt8) (b : List UInt8) : List UInt8 := b.map (· ^^^ p)
def hmac (key m : List UInt8) : List UInt8 := sha (kx 92 (kblk key) ++ sha (kx 54 (kblk key) ++ m))
theorem kshort_len (key : List UInt8) : (kshort key).length ≤ 64 := by
  unfold kshort
  split
  · rw [sha_len]; omega
  · omega
theorem kshort_long {key : List UInt8} (h : 64 < key.length) : kshort key = sha key := by unfold kshort; rw [if_pos h]
theorem kshort_low {key : List UInt8} (h : ¬ 64 < key.length) : kshort key = key := by unfold kshort; rw [if_neg h]
theorem kblk_len (key : List UInt8) : (kblk key).length = 64 := by
  have := kshort_len key
  unfold kblk; rw [List.length_append, List.length_replicate]; omega
theorem kx_len (p : UInt8) (b : List UInt8) : (kx p b).length = b.length := by simp [kx]
theorem hmac_len (key m : List UInt8) : (hmac key m).length = 32 := sha_len _
theorem kblk_sha {key : List UInt8} (h : 64 < key.length) : kblk (sha key) = kblk key := by
  unfold kblk
  rw [kshort_long h, kshort_low (by rw [sha_len]; omega)]
theorem kblk_zeros {key : List UInt8} (h : ¬ 64 < key.length) : kblk (key ++ List.replicate (64 - key.length) 0) = kblk key := by
  unfold kblk
  have hl : (key ++ List.replicate (64 - key.length) (0 : UInt8)).length = 64 := by rw [List.length_append, List.length_replicate]; omega
  rw [kshort_low h, kshort_low (by rw [hl]; omega), hl]
  simp
theorem hmac_sha {key : List UInt8} (h : 64 < key.length) (m : List UInt8) : hmac (sha key) m = hmac key m := by unfold hmac; rw [kblk_sha h]
theorem hmac_zeros {key : List UInt8} (h : ¬ 64 < key.length) (m : List UInt8) : hmac (key ++ List.replicate (64 - key.length) 0) m = hmac key m := by unfold hmac; rw [kblk_zeros h]
/-- The byte at place j of a key's block. -/
theorem kblk_at (key : List UInt8) (j : Nat) (h : j < 64) : (kblk key)[j]? = some (if h : j < (kshort key).length then (kshort key)[j] else 0) := by
  unfold kblk
  split
  · rename_i h1
    rw [List.getElem?_append_left h1, List.getElem?_eq_getElem h1]
  · rename_i h1
    rw [List.getElem?_append_right (by omega), List.getElem?_replicate, if_pos (by omega)]
theorem kx_at (p : UInt8) (b : List UInt8) (j : Nat) : (kx p b)[j]? = b[j]?.map (· ^^^ p) := by simp [kx]
theorem kx_take (p : UInt8) (b : List UInt8) (k : Nat) (h : k < b.length) : kx p (b.take (k + 1)) = kx p (b.take k) ++ [b[k] ^^^ p] := by
  unfold kx
  rw [List.take_succ_eq_append_getElem h, List.map_append]
  rfl

def foxB : List UInt8 := [84, 104, 101, 32, 113, 117, 105, 99, 107, 32, 98, 114, 111, 119, 110, 32, 102, 111, 120, 32, 106, 117, 109, 112, 115, 32, 111, 118, 101, 114, 32, 116, 104, 101, 32, 108, 97, 122, 121, 32, 100, 111, 103]
/-- The chapter's example, by the kernel. -/
theorem hmac_fox : (hmac [107, 101, 121] foxB)[0]? = some 247 ∧ (hmac [107, 101, 121] foxB)[1]? = some 188 ∧ (hmac [107, 101, 121] foxB)[31]? = some 216 := by decide +kernel

end Go.Proofs.YtfmbilnbbpbpeaaDoor

