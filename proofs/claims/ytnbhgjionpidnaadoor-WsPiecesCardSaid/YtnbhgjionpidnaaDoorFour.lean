/- The walk of the four digits of three bytes. No condition. -/
import Derived.Test.YtnbhgjionpidnaaDoorZeros
namespace Go.Proofs.YtnbhgjionpidnaaDoor
open Go.RowKit

/-- The alphabet of base 64. -/
def digsL : List Nat := [65, 66, 67, 68, 69, 70, 71, 72, 73, 74, 75, 76, 77, 78, 79, 80, 81, 82, 83, 84, 85, 86, 87, 88, 89, 90, 97, 98, 99, 100, 101, 102, 103, 104, 105, 106, 107, 108, 109, 110, 111, 112, 113, 114, 115, 116, 117, 118, 119, 120, 121, 122, 48, 49, 50, 51, 52, 53, 54, 55, 56, 57, 43, 47]
def dC (d : Nat) : Nat := digsL.getD d 0
theorem dC_lt (d : Nat) : dC d < 256 := by
  unfold dC
  by_cases h : d < 64
  · have : ∀ d, d < 64 → digsL.getD d 0 < 256 := by decide +kernel
    exact this d h
  · rw [show digsL.getD d 0 = 0 by simp [List.getD, List.getElem?_eq_none (by simp [digsL]; omega : digsL.length ≤ d)]]; omega
def numN (x y z : Nat) : Nat := x * 65536 + y * 256 + z
def fourN (x y z : Nat) : List Nat := [dC (numN x y z / 262144), dC (numN x y z / 4096 % 64), dC (numN x y z / 64 % 64), dC (numN x y z % 64)]
theorem letter64 (D : Nat) (h : D < 64) : ((({ data := #[65, 66, 67, 68, 69, 70, 71, 72, 73, 74, 75, 76, 77, 78, 79, 80, 81, 82, 83, 84, 85, 86, 87, 88, 89, 90, 97, 98, 99, 100, 101, 102, 103, 104, 105, 106, 107, 108, 109, 110, 111, 112, 113, 114, 115, 116, 117, 118, 119, 120, 121, 122, 48, 49, 50, 51, 52, 53, 54, 55, 56, 57, 43, 47] } : ByteArray)[D]'h).toNat : Int) = (dC D : Nat) := by
  revert D
  decide +kernel
theorem num_eq (x y z : Nat) (h0 : x < 256) (h1 : y < 256) (h2 : z < 256) :
    bits .or .u32 ((x : Int) * 65536) ((y : Int) * 256) = ((x * 65536 + y * 256 : Nat) : Int) ∧
    bits .or .u32 ((x * 65536 + y * 256 : Nat) : Int) (z : Int) = ((numN x y z : Nat) : Int) := by
  refine ⟨?_, ?_⟩
  · rw [show (x : Int) * 65536 = ((x * 65536 : Nat) : Int) by simp, show (y : Int) * 256 = ((y * 256 : Nat) : Int) by simp, u32_or_nat _ _ (by omega) (by omega)]
    congr 1
    have := Nat.two_pow_add_eq_or_of_lt (i := 16) (b := y * 256) (by omega) x
    rw [show (2 : Nat) ^ 16 * x = x * 65536 by omega] at this
    exact this.symm
  · rw [u32_or_nat _ _ (by omega) (by omega)]
    congr 1
    have := Nat.two_pow_add_eq_or_of_lt (i := 8) (b := z) (by omega) (x * 256 + y)
    rw [show (2 : Nat) ^ 8 * (x * 256 + y) = x * 65536 + y * 256 by omega] at this
    exact this.symm
theorem mask6 (n : Nat) (h : n < 4294967296) : bits .and .u32 (n : Int) 63 = ((n % 64 : Nat) : Int) := by
  rw [show (63 : Int) = ((63 : Nat) : Int) from rfl, u32_and_nat _ _ h (by omega)]
  congr 1
  exact Nat.and_two_pow_sub_one_eq_mod _ 6

set_option maxRecDepth 100000 in
theorem four_any (x y z : Nat) (h0 : x < 256) (h1 : y < 256) (h2 : z < 256) (w : World) :
    Calls Tryd.prog 36 #[.int .u8 (x : Int), .int .u8 (y : Int), .int .u8 (z : Int)] w fun e w' => e = .returned (.slice (some ⟨w.heap.size, 0, none⟩) 4 4) ∧ Seg w' (some ⟨w.heap.size, 0, none⟩) (u8s (fourN x y z)) ∧ Below w.heap.size w w' := by
  obtain ⟨o1, o2⟩ := num_eq x y z h0 h1 h2
  simp only [Int.natCast_add, Int.natCast_mul, Int.cast_ofNat_Int] at o1 o2
  have hn : numN x y z < 16777216 := by unfold numN; omega
  have HF := Lib.hid (show fourN x y z = [dC (numN x y z / 262144), dC (numN x y z / 4096 % 64), dC (numN x y z / 64 % 64), dC (numN x y z % 64)] from rfl)
  generalize numN x y z = N at *
  have m1 := mask6 (N / 4096) (by omega)
  have m2 := mask6 (N / 64) (by omega)
  have m3 := mask6 N (by omega)
  simp only [Int.natCast_ediv, Int.cast_ofNat_Int] at m1 m2
  go_enter Tryd.func36, Tryd.ntmps36
  go_wp2_with fail
  have p0 : (0 : Int) ≤ (N : Int) / 262144 := by omega
  have q0 : (N : Int) / 262144 < 64 := by omega
  have r0 : ((N : Int) / 262144).toNat = N / 262144 := by omega
  have s0 := letter64 (N / 262144) (by omega)
  have p1 : (0 : Int) ≤ (N : Int) / 4096 % 64 := by omega
  have q1 : (N : Int) / 4096 % 64 < 64 := by omega
  have r1 : ((N : Int) / 4096 % 64).toNat = N / 4096 % 64 := by omega
  have s1 := letter64 (N / 4096 % 64) (by omega)
  have p2 : (0 : Int) ≤ (N : Int) / 64 % 64 := by omega
  have q2 : (N : Int) / 64 % 64 < 64 := by omega
  have r2 : ((N : Int) / 64 % 64).toNat = N / 64 % 64 := by omega
  have s2 := letter64 (N / 64 % 64) (by omega)
  have p3 : (0 : Int) ≤ (N : Int) % 64 := by omega
  have q3 : (N : Int) % 64 < 64 := by omega
  have r3 : ((N : Int) % 64).toNat = N % 64 := by omega
  have s3 := letter64 (N % 64) (by omega)
  go_still_tail 14, (by kernel_rfl)
  change wpList _ _ _ _ _ w.drew
  clear p0 p1 p2 p3 q0 q1 q2 q3 r0 r1 r2 r3 s0 s1 s2 s3 m1 m2 m3 o1 o2
  go_wp2
  go_ret
  refine ⟨rfl, ?_, (Below.refl _ _).drew.alloc (Nat.le_refl _) _⟩
  rw [HF.out]
  exact seg_four w.drew _ _ _ _ _
end Go.Proofs.YtnbhgjionpidnaaDoor
