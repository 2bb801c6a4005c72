/- The fixed answers at the head of each statement of the page layer are given. No condition. -/
import Derived.Test.YtcnfnfnmpifahaaNEncode
namespace Go.Proofs.Ytcnfnfnmpifahaa
open Go.RowKit

def n0 : NodeM := ⟨true, [⟨#[97]⟩, ⟨#[98]⟩], [⟨#[49]⟩, ⟨#[]⟩], []⟩
theorem n0_form : formB n0 = true := by decide +kernel
theorem n0_size : sizeN n0 ≤ 256 := by decide +kernel
theorem n0_enc : encTo n0 2 = [1, 2, 1, 97, 1, 49, 1, 98, 0] := by decide +kernel
theorem enc_cell {w : World} {g : Nat} {l : List Nat} (h : EncW w g l) (i v : Nat) (hv : (padB l)[i]? = some v) : w.cell? ⟨g, i, none⟩ = some (.int .u8 (v : Int)) := by
  have h1 : Bk w g 5 (u8s (padB l)).toArray := h
  rw [h1.cell i]
  simp [u8s, hv]
set_option maxRecDepth 100000 in
set_option maxHeartbeats 1000000 in
theorem awake_any (w : World) : Calls Try.prog 10 #[] w fun e w' => e = .returned (.bool true) ∧ Below w.heap.size w w' := by
  obtain ⟨w1, hw1⟩ : ∃ w1, w1 = (w.alloc (.cells #[.string ⟨#[97]⟩, .string ⟨#[98]⟩] 9)).alloc (.cells #[.string ⟨#[49]⟩, .string ⟨#[]⟩] 9) := ⟨_, rfl⟩
  have B1 := Lib.hid (show Below w.heap.size w w1 by rw [hw1]; exact ((Below.refl _ _).alloc (Nat.le_refl _) _).alloc (by simp) _)
  have S1 : Seg w1 (some ⟨w.heap.size, 0, none⟩) (strV n0.keys) := by
    rw [hw1]
    exact (seg_two w (.string ⟨#[97]⟩) (.string ⟨#[98]⟩) 9).bel ((Below.refl _ _).alloc (Nat.le_refl _) _)
  have S2 : Seg w1 (some ⟨w.heap.size + 1, 0, none⟩) (strV n0.vals) := by
    rw [hw1]
    have := seg_two (w.alloc (.cells #[.string ⟨#[97]⟩, .string ⟨#[98]⟩] 9)) (.string ⟨#[49]⟩) (.string ⟨#[]⟩) 9
    rwa [World.size_alloc] at this
  have C1 := Lib.hid (nencode_any n0 (some ⟨w.heap.size, 0, none⟩) (some ⟨w.heap.size + 1, 0, none⟩) none 2 2 2 2 0 0 w1 ⟨rfl, rfl, rfl, S1, S2, Seg.nil _ _, by omega, by omega, by omega, by omega, by omega, by omega, by decide, by decide⟩ n0_form n0_size)
  have HW := Lib.hid hw1
  clear hw1 S1 S2
  go_enter Try.func10, Try.ntmps10
  go_wp2_with fail
  rw [← HW.out]
  refine C1.out.mono ?_
  rintro e w2 ⟨⟨g, rfl, hg, he⟩, hb⟩
  rw [n0_enc] at he
  have a0 := enc_cell he 0 1 (by decide +kernel)
  have a1 := enc_cell he 1 2 (by decide +kernel)
  have a3 := enc_cell he 3 97 (by decide +kernel)
  have a5 := enc_cell he 5 49 (by decide +kernel)
  have a8 := enc_cell he 8 0 (by decide +kernel)
  have HB := Lib.hid (B1.out.trans (hb.mono B1.out.size))
  clear he hb hg C1
  go_wp2
  go_ret
  exact ⟨rfl, HB.out⟩
end Go.Proofs.Ytcnfnfnmpifahaa
