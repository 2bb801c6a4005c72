/- The sixteen digits of a word. -/
import Derived.Test.YtjlkmfnkpnmbiaaDoorScal
import Derived.Deep.OwnRows
namespace Go.Proofs.YtjlkmfnkpnmbiaaDoor
open Go.RowKit

/-- The letter of a digit. -/
def digC (d : Nat) : Nat := if d < 10 then 48 + d else 87 + d
def hexAt (b i : Nat) : Nat := digC (b / 2 ^ (4 * (15 - i)) % 16)
def hexA (b k : Nat) : Array Value := ((List.range 16).map fun i => if i < k then Value.int .u8 (hexAt b i) else Value.int .u8 0).toArray
theorem hexA_zero (b : Nat) : madeCells #[Value.int .u8 0] 16 = hexA b 0 := by
  apply Array.toList_inj.1
  rw [toList_madeCells_one]; simp [hexA, List.range, List.range.loop, List.replicate]
theorem hexA_size (b k : Nat) : (hexA b k).size = 16 := by simp [hexA]

theorem hexA_at (b k : Nat) (hk : k < 16) : (hexA b k)[k]? = some (.int .u8 0) := by
  simp [hexA, hk]
theorem hexA_set (b k : Nat) (v : Int) (hv : v = (hexAt b k : Nat)) : (hexA b k).setIfInBounds k (.int .u8 v) = hexA b (k + 1) := by
  subst hv
  apply Array.ext_getElem?
  intro j
  rw [Array.getElem?_setIfInBounds, hexA_size]
  simp only [hexA, List.getElem?_toArray, List.getElem?_map, List.getElem?_range]
  by_cases hj : k = j
  · subst hj
    by_cases h16 : k < 16 <;> simp [h16]
  · rw [if_neg hj]
    by_cases h16 : j < 16
    · by_cases h2 : j < k
      · simp [h16, h2, show j < k + 1 by omega]
      · simp [h16, h2, show ¬ j < k + 1 by omega]
    · simp [h16]
def hexL (b : Nat) : List UInt8 := (List.range 16).map fun i => UInt8.ofNat (hexAt b i)
def hexS (b : Nat) : ByteArray := ⟨(hexL b).toArray⟩
theorem digC_lt (d : Nat) (h : d < 16) : digC d < 256 := by unfold digC; split <;> omega
theorem hexAt_lt (b i : Nat) : hexAt b i < 256 := digC_lt _ (by omega)
theorem hexA_cell (b j : Nat) (hj : j < (hexL b).length) : (hexA b 16)[j]? = some (.int .u8 ((hexL b)[j].toNat : Int)) := by
  have h16 : j < 16 := by simpa [hexL] using hj
  have h := hexAt_lt b j
  simp [hexA, hexL, h16]
  omega
theorem letter (D : Nat) (h : D < 16) : ((({ data := #[48, 49, 50, 51, 52, 53, 54, 55, 56, 57, 97, 98, 99, 100, 101, 102] } : ByteArray)[D]'h).toNat : Int) = (digC D : Nat) := by
  have hd : D = 0 ∨ D = 1 ∨ D = 2 ∨ D = 3 ∨ D = 4 ∨ D = 5 ∨ D = 6 ∨ D = 7 ∨ D = 8 ∨ D = 9 ∨ D = 10 ∨ D = 11 ∨ D = 12 ∨ D = 13 ∨ D = 14 ∨ D = 15 := by omega
  rcases hd with rfl | rfl | rfl | rfl | rfl | rfl | rfl | rfl | rfl | rfl | rfl | rfl | rfl | rfl | rfl | rfl <;> rfl
theorem nibble (b k : Nat) (hb : b < 18446744073709551616) : bits .and .u64 ((b : Int) / 2 ^ (4 * (15 - k))) 15 = ((b / 2 ^ (4 * (15 - k)) % 16 : Nat) : Int) := by
  have hle := Nat.div_le_self b (2 ^ (4 * (15 - k)))
  rw [show (b : Int) / 2 ^ (4 * (15 - k)) = ((b / 2 ^ (4 * (15 - k)) : Nat) : Int) by simp, show (15 : Int) = ((15 : Nat) : Int) from rfl, u64_and_nat _ _ (by omega) (by omega)]
  congr 1
  exact Nat.and_two_pow_sub_one_eq_mod _ 4

set_option maxRecDepth 100000 in
theorem hex_any (b : Nat) (hb : b < 18446744073709551616) (w : World) :
    Calls Tryd.prog 48 #[.int .u64 b] w fun e w' => e = .returned (.string (hexS b)) ∧ w' = w.alloc (.cells (hexA b 16) 5) := by
  have hmk := run_make_row' (P := Tryd.prog) 44 5 (.int .u8 0) 1 Tryd.underlying44 (by kernel_rfl) rfl .i64 .i64 16 (by omega) (by omega)
  rw [show ((16 : Nat) : Int) = 16 from rfl] at hmk
  have hz := hexA_zero b
  rw [hz] at hmk
  clear hz
  have hcv : (convert 44 9 (.slice (some ⟨w.heap.size, 0, none⟩) 16 16)).run Tryd.prog (w.alloc (.cells (hexA b 16) 5)) = .ok (.string (hexS b)) (w.alloc (.cells (hexA b 16) 5)) :=
    run_convert_bytes_back (P := Tryd.prog) (w.alloc (.cells (hexA b 16) 5)) 44 9 5 ⟨w.heap.size, 0, none⟩ 16 (hexL b) Tryd.underlying44 Tryd.underlying5 Tryd.underlying9
      (fun j hj => by
        rw [show ((⟨w.heap.size, 0, none⟩ : Addr).add j) = ⟨w.heap.size, j, none⟩ by unfold Addr.add; split <;> simp_all]
        rw [World.cell?_alloc_at _ _ _ _ rfl]
        exact hexA_cell b j hj)
  have HB := Lib.hid hb
  clear hb
  go_enter Tryd.func48, Tryd.ntmps48
  go_wp2
  go_loopw [8] (fun i wr => ∃ k : Nat, k ≤ 16 ∧ i = .int .i64 k ∧ wr = w.alloc (.cells (hexA b k) 5)) (fun i _ => 16 - (intOf i).toNat)
  case atStart => exact ⟨0, by omega, rfl, rfl⟩
  case round =>
    obtain ⟨k, hk, rfl, rfl⟩ := hrel
    by_cases hlt : k < 16
    · have e1 := nibble b k HB.out
      have hold := hexA_at b k hlt
      obtain ⟨D, hD⟩ : ∃ D, D = b / 2 ^ (4 * (15 - k)) % 16 := ⟨_, rfl⟩
      rw [← hD] at e1
      have hlD : D < 16 := by omega
      have HS := Lib.hid (fun (v : Int) (hv : v = (digC D : Nat)) => hexA_set b k v (by rw [hv]; unfold hexAt; rw [hD]))
      clear hD
      go_wp2
      go_roundw
      case rel => exact ⟨k + 1, by omega, by go_num, by rw [HS.out _ (letter D hlD)]⟩
      case measure => simp [intOf]; omega
    · obtain rfl : k = 16 := by omega
      go_wp2
      go_ret
      exact ⟨rfl, rfl⟩
end Go.Proofs.YtjlkmfnkpnmbiaaDoor
