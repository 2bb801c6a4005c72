/- The fixed answer at the head of each statement of the wire layer is given. No condition. -/
import Derived.Test.YtgifbjomaenlnaaWEnc
namespace Go.Proofs.Ytgifbjomaenlnaa
open Go.RowKit

def m0 : MsgM := ⟨2, 1, 0, 0, 0, 0, 0, 0, true, []⟩
theorem m0_enc : encN m0 = [2, 2, 0, 0, 0, 0, 0, 0, 1, 0] := by decide +kernel
theorem m0_check : checkN m0 = 0 := by decide +kernel
theorem m0_mg (w : World) : Mg w m0 none 0 0 := ⟨rfl, Seg.nil _ _, Nat.le_refl _, by omega, ⟨by decide, by decide⟩, fun k => by
  unfold MsgM.num
  split <;> exact ⟨by decide, by decide⟩, fun e he => by simp [m0] at he⟩
set_option maxRecDepth 100000 in
theorem wawake_any (w : World) : Calls Try.prog 11 #[] w fun e w' => e = .returned (.bool true) ∧ Below w.heap.size w w' := by
  have C1 := wenc_ok m0 none 0 0 w (m0_mg w) m0_check
  rw [m0_enc] at C1
  have C1 := Lib.hid C1
  go_enter Try.func11, Try.ntmps11
  go_wp2_with fail
  refine C1.out.mono ?_
  rintro e w1 ⟨⟨A, c, rfl, hc, hs⟩, hb⟩
  have hs2 : Seg (w1.alloc (.cells #[.int .u8 2, .int .u8 2, .int .u8 0, .int .u8 0, .int .u8 0, .int .u8 0, .int .u8 0, .int .u8 0, .int .u8 1, .int .u8 0] 5)) (some ⟨w1.heap.size, 0, none⟩) (u8s [2, 2, 0, 0, 0, 0, 0, 0, 1, 0]) := seg_lit w1 #[.int .u8 2, .int .u8 2, .int .u8 0, .int .u8 0, .int .u8 0, .int .u8 0, .int .u8 0, .int .u8 0, .int .u8 1, .int .u8 0] 5 (0, 0)
  have hb2 := (Below.refl w1.heap.size w1).alloc (Nat.le_refl _) (.cells #[.int .u8 2, .int .u8 2, .int .u8 0, .int .u8 0, .int .u8 0, .int .u8 0, .int .u8 0, .int .u8 0, .int .u8 1, .int .u8 0] 5)
  have C2 := same_u8 A (some ⟨w1.heap.size, 0, none⟩) 10 10 c 10 [2, 2, 0, 0, 0, 0, 0, 0, 1, 0] [2, 2, 0, 0, 0, 0, 0, 0, 1, 0] rfl rfl _ (hs.bel hb2) hs2 (by omega) (by omega)
  rw [show decide ([2, 2, 0, 0, 0, 0, 0, 0, 1, 0] = [2, 2, 0, 0, 0, 0, 0, 0, 1, 0]) = true from rfl] at C2
  have C2 := Lib.hid C2
  have HB := Lib.hid (hb.trans (hb2.mono hb.size))
  clear hs hs2 hb hb2 hc C1
  go_wp2_with fail
  refine C2.out.mono ?_
  rintro e w2 ⟨rfl, hb⟩
  have HB2 := Lib.hid (HB.out.trans (hb.mono HB.out.size))
  clear hb C2
  go_wp2_with fail
  go_ret
  exact ⟨rfl, HB2.out⟩
end Go.Proofs.Ytgifbjomaenlnaa
