/- The fixed answers at the head of each statement of the frame layer are given. Condition: the table of the cyclic sum is laid. -/
import Derived.Test.YtpkajmgfechhhaaDoorEncAll
import Derived.Lib.SlBytesConst
namespace Go.Proofs.YtpkajmgfechhhaaDoor
open Go.RowKit

theorem enc_ab : (encN 1 2 [97, 98] 3).getD 0 0 = 80 ∧ (encN 1 2 [97, 98] 3).getD 8 0 = 2 ∧ (encN 1 2 [97, 98] 3).getD 24 0 = 97 := by decide +kernel
theorem bk_at {w : World} {g : Nat} {l : List Nat} (h : Bk w g 5 (u8s l).toArray) (i v : Nat) (hi : i < l.length) (hv : l.getD i 0 = v) : w.cell? ⟨g, i, none⟩ = some (.int .u8 (v : Int)) := by
  rw [h.cell i, ← hv]
  simp [u8s, hi]
set_option maxRecDepth 100000 in
set_option maxHeartbeats 1000000 in
theorem awake_any (w : World) (hT : Tab w) :
    Calls Tryd.prog 4 #[] w fun e w' => e = .returned (.bool true) ∧ Below w.heap.size w w' := by
  have HT := Lib.hid hT
  have HE := Lib.hid enc_ab
  have hc := fun (w : World) (C : Array Value) (n c : Nat) => Lib.run_convert_bytes_const (P := Tryd.prog) w 23 5 C n c Tryd.underlying23 Tryd.underlying5
  have B0 := Lib.hid ((Below.refl w.heap.size w).alloc (Nat.le_refl _) (.cells #[.int .u8 97, .int .u8 98] 5 (2, 3)))
  have S0 := Lib.hid (seg_lit w #[.int .u8 97, .int .u8 98] 5 (2, 3))
  clear hT
  go_enter Tryd.func4, Tryd.ntmps4
  go_wp2_with fail
  refine (encode_ok 1 2 3 _ 2 2 [97, 98] rfl (by omega) (by omega) (by omega) (by omega) _ S0.out (by decide) (HT.out.below B0.out)).mono ?_
  rintro e w1 ⟨g, rfl, hg, hb, hb1⟩
  have a0 := bk_at hb 0 80 (by rw [encN_length _ _ _ _ (by decide)]; omega) HE.out.1
  have a1 := bk_at hb 8 2 (by rw [encN_length _ _ _ _ (by decide)]; omega) HE.out.2.1
  have a2 := bk_at hb 24 97 (by rw [encN_length _ _ _ _ (by decide)]; omega) HE.out.2.2
  have B1 := Lib.hid (below_step B0.out hb1)
  clear hb hb1
  go_wp2
  go_ret
  exact ⟨rfl, B1.out⟩
end Go.Proofs.YtpkajmgfechhhaaDoor
