/- What the pieces of a text are. No condition. -/
import Derived.Test.YthjbkgappjpanaaDoorBytes
namespace Go.Proofs.YthjbkgappjpanaaDoor
open Go.RowKit

/-- A text's bytes. -/
def octN (s : ByteArray) : List Nat := s.data.toList.map UInt8.toNat
theorem octN_lt (s : ByteArray) : ∀ x ∈ octN s, x < 256 := by
  intro x hx
  simp only [octN, List.mem_map] at hx
  obtain ⟨y, _, rfl⟩ := hx
  exact y.toNat_lt
theorem octN_length (s : ByteArray) : (octN s).length = s.size := by simp [octN]
/-- How many pieces there are. -/
def totalN (n z : Nat) : Nat := (n - 1) / z + 1
/-- The bytes of piece i. -/
def cutS (s : ByteArray) (z i : Nat) : ByteArray := s.extract (i * z) (min (i * z + z) s.size)
theorem cut_again (s : ByteArray) (z i : Nat) (h : i * z ≤ s.size) : (s.extract (i * z) s.size).extract 0 (min z (s.size - i * z)) = cutS s z i := by
  rw [ByteArray.extract_extract]
  unfold cutS
  congr 1
  omega
theorem cut_size (s : ByteArray) (z i : Nat) : (cutS s z i).size = min z (s.size - i * z) := by
  unfold cutS
  rw [ByteArray.size_extract]
  omega
theorem total_pos (n z : Nat) : 0 < totalN n z := Nat.succ_pos _
/-- A piece begins within the text. -/
theorem total_le {n z i : Nat} (hz : 0 < z) (h : i < totalN n z) : i * z ≤ n - 1 := by
  unfold totalN at h
  exact (Nat.le_div_iff_mul_le hz).1 (by omega)
theorem total_gt {n z : Nat} (hz : 0 < z) : n ≤ totalN n z * z := by
  unfold totalN
  rw [Nat.add_mul, Nat.one_mul, Nat.mul_comm]
  have := Nat.div_add_mod (n - 1) z
  have := Nat.mod_lt (n - 1) hz
  omega
/-- A piece's cells, those of the first k pieces. -/
def pcV (s : ByteArray) (z t c i : Nat) : List Value := [.int .i64 (i : Int), .int .i64 (t : Int), .int .u32 (c : Int), .string (cutS s z i)]
def pcsV (s : ByteArray) (z t c k : Nat) : List Value := (List.range k).flatMap (pcV s z t c)
theorem pcsV_succ (s : ByteArray) (z t c k : Nat) : pcsV s z t c (k + 1) = pcsV s z t c k ++ pcV s z t c k := by
  simp [pcsV, List.range_succ]
theorem pcsV_length (s : ByteArray) (z t c k : Nat) : (pcsV s z t c k).length = k * 4 := by
  induction k with
  | zero => rfl
  | succ k ih => rw [pcsV_succ, List.length_append, ih]; simp [pcV]; omega
theorem pcsV_get (s : ByteArray) (z t c k i j : Nat) (hi : i < k) (hj : j < 4) : (pcsV s z t c k)[i * 4 + j]? = (pcV s z t c i)[j]? := by
  induction k with
  | zero => omega
  | succ k ih =>
    rw [pcsV_succ]
    by_cases h : i < k
    · rw [List.getElem?_append_left (by rw [pcsV_length]; omega)]
      exact ih h
    · obtain rfl : i = k := by omega
      rw [List.getElem?_append_right (by rw [pcsV_length]; omega), pcsV_length]
      congr 1
      omega
theorem pcV_one (s : ByteArray) (z t c i : Nat) : ∀ u ∈ pcV s z t c i, u.oneCell' = true := by
  intro u hu
  simp only [pcV, List.mem_cons, List.not_mem_nil, or_false] at hu
  rcases hu with rfl | rfl | rfl | rfl <;> rfl
/-- The cyclic sum of a text. -/
def sumN (s : ByteArray) : Nat := 4294967295 - crcGo (octN s)
theorem sumN_lt (s : ByteArray) : sumN s < 4294967296 := by unfold sumN; omega
/-- A text's bytes in new memory. -/
theorem conv_any (s : ByteArray) (w : World) : ∃ c w', (convert 9 55 (.string s)).run Tryd.prog w = .ok (.slice (some ⟨w.heap.size, 0, none⟩) s.size c) w' ∧ Seg w' (some ⟨w.heap.size, 0, none⟩) (u8s (octN s)) ∧ Below w.heap.size w w' := by
  refine ⟨_, _, run_bytes_of_string (P := Tryd.prog) w 9 55 5 s Tryd.underlying9 Tryd.underlying55 Tryd.underlying5, ?_, ?_⟩
  · refine Seg.of_block (heap_alloc_new _ _) ?_
    intro i hi
    rw [u8s_length, octN_length] at hi
    simp [bytesRow, u8s, octN, Array.getElem?_append]
    rw [if_pos hi]
    rfl
  · exact (Below.refl _ w).drew.alloc (Nat.le_refl _) _
end Go.Proofs.YthjbkgappjpanaaDoor
