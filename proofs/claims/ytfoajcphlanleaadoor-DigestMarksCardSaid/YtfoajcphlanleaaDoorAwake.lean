/- The fixed answers at the head of each statement of the digest layer are given. Condition: the table of the cyclic sum is laid. -/
import Derived.Test.YtfoajcphlanleaaDoorHex
import Derived.Lib.SlBytesConst
namespace Go.Proofs.YtfoajcphlanleaaDoor
open Go.RowKit

theorem crc_nine : 4294967295 - crcGo [49, 50, 51, 52, 53, 54, 55, 56, 57] = 3421780262 := by decide +kernel
theorem hex_abc : txt (hexN (shaN [97, 98, 99])) = { data := #[97, 57, 57, 57, 51, 101, 51, 54, 52, 55, 48, 54, 56, 49, 54, 97, 98, 97, 51, 101, 50, 53, 55, 49, 55, 56, 53, 48, 99, 50, 54, 99, 57, 99, 100, 48, 100, 56, 57, 100] } := by
  rw [sha_abc]; decide +kernel
theorem seg_lit (w : World) (cs : Array Value) (e : TypeId) (fz : Nat × Nat) : Seg (w.alloc (.cells cs e fz)) (some ⟨w.heap.size, 0, none⟩) cs.toList :=
  Seg.of_block (heap_alloc_new w _) (fun i hi => by simp)
set_option maxRecDepth 100000 in
theorem awake_any (w : World) (hT : Tab w) :
    Calls Tryd.prog 10 #[] w fun e w' => e = .returned (.bool true) ∧ Below w.heap.size w w' := by
  have HT := Lib.hid hT
  have H1 := Lib.hid crc_nine
  have H2 := Lib.hid hex_abc
  have hc := fun (w : World) (C : Array Value) (n c : Nat) => Lib.run_convert_bytes_const (P := Tryd.prog) w 22 5 C n c Tryd.underlying22 Tryd.underlying5
  have B0 := Lib.hid ((Below.refl w.heap.size w).alloc (Nat.le_refl _) (.cells #[.int .u8 49, .int .u8 50, .int .u8 51, .int .u8 52, .int .u8 53, .int .u8 54, .int .u8 55, .int .u8 56, .int .u8 57] 5 (9, 10)))
  have S0 := Lib.hid (seg_lit w #[.int .u8 49, .int .u8 50, .int .u8 51, .int .u8 52, .int .u8 53, .int .u8 54, .int .u8 55, .int .u8 56, .int .u8 57] 5 (9, 10))
  clear hT
  go_enter Tryd.func10, Tryd.ntmps10
  go_wp2_with fail
  refine (crc_any _ 9 9 [49, 50, 51, 52, 53, 54, 55, 56, 57] rfl _ S0.out (HT.out.below B0.out) (by decide) (by omega)).mono ?_; rintro e w' ⟨rfl, rfl⟩; rw [H1.out]
  generalize w.alloc (.cells #[.int .u8 49, .int .u8 50, .int .u8 51, .int .u8 52, .int .u8 53, .int .u8 54, .int .u8 55, .int .u8 56, .int .u8 57] 5 (9, 10)) = w1 at *
  have B1 := Lib.hid ((Below.refl w1.heap.size w1).alloc (Nat.le_refl _) (.cells #[.int .u8 97, .int .u8 98, .int .u8 99] 5 (3, 4)))
  have S1 := Lib.hid (seg_lit w1 #[.int .u8 97, .int .u8 98, .int .u8 99] 5 (3, 4))
  go_wp2_with fail
  refine (sha_any _ 3 3 [97, 98, 99] rfl (by omega) (by omega) _ S1.out (by decide)).mono ?_; rintro e w2 ⟨A2, c2, rfl, hc2, s2, b2⟩
  have S2 := Lib.hid s2
  have B2 := Lib.hid (below_step B0.out (below_step B1.out b2))
  clear s2 b2
  go_wp2_with fail
  refine (hex_any A2 20 c2 (shaN [97, 98, 99]) rfl (by omega) _ S2.out (outN_lt _)).mono ?_; rintro e w3 ⟨rfl, b3⟩
  have B3 := Lib.hid (below_step B2.out b3)
  clear b3
  rw [H2.out]
  go_wp2
  go_ret
  exact ⟨rfl, B3.out⟩
end Go.Proofs.YtfoajcphlanleaaDoor
