/- The reference's small forms and words. Condition: the text is short. -/
import Derived.Test.YtahpiminhlineaaDoorPts
namespace Go.Proofs.YtahpiminhlineaaDoor
open Go.RowKit Go.Shelf Go.PlainAid Go.Lib

theorem lowerZ_small {x : Int} (h : lowerZ x ≠ x) : 97 ≤ lowerZ x ∧ lowerZ x ≤ 2047 := by
  unfold lowerZ at h ⊢
  split
  · omega
  · split
    · omega
    · split
      · omega
      · rename_i h1 h2 h3
        rw [if_neg h1, if_neg h2, if_neg h3] at h
        exact absurd rfl h
set_option maxRecDepth 100000 in
set_option maxHeartbeats 1000000 in
theorem rencode_any (x : Nat) (hx : x ≤ 1114111) (b : ByteArray) (w : World) :
    Calls Tryd.prog 38 #[.int .i64 (x : Int), .string b] w fun e w' => e = .returned (.string (encS x b)) ∧ Below w.heap.size w w' := by
  have CL := rlower_any (x : Int) (by omega) w
  by_cases hl : lowerZ (x : Int) = (x : Int)
  · have HE := Lib.hid (show encS x b = b by unfold encS; rw [if_pos hl])
    rw [hl] at CL
    have HCL := Lib.hid CL
    clear CL hl
    go_enter Tryd.func38, Tryd.ntmps38
    go_wp2_with (first | (go_at_call 11; refine HCL.out.mono ?_; rintro e w1 ⟨rfl, rfl⟩) | go_in)
    go_ret
    exact ⟨by rw [HE.out]; rfl, Below.refl _ _⟩
  · obtain ⟨h97, h2k⟩ := lowerZ_small hl
    have HE := Lib.hid (show encS x b = ⟨(encodeRune (lowerZ (x : Int))).toArray⟩ by unfold encS; rw [if_neg hl])
    obtain ⟨y, hy⟩ : ∃ y, y = lowerZ (x : Int) := ⟨_, rfl⟩
    rw [← hy] at CL hl h97 h2k HE
    have HCL := Lib.hid CL
    have hne : (y == (x : Int)) = false := by simpa using hl
    clear CL hy hl
    by_cases h7 : y < 128
    · have u1 : IntKind.u8.wrap y = y := by rw [IntKind.wrap_u8]; omega
      have hcell : byteCells (encodeRune y) = [.int .u8 y] := by
        rw [byteCells_encodeRune, runeCells, encodeRuneZ_one (by omega) (by omega)]
        rfl
      have hown : (w.alloc (.cells #[.int .u8 y] 5)).ownsRow w.heap.size 5 1 (.slice (some ⟨w.heap.size, 0, none⟩) 1 1) 1 (byteCells (encodeRune y)) := by
        rw [hcell]
        exact World.ownsRow_lit w #[.int .u8 y] 1 (Nat.le_refl _) (by decide) rfl
      have hcv := run_text _ _ _ _ _ hown
      clear hown hcell
      go_enter Tryd.func38, Tryd.ntmps38
      go_wp2_with (first | (go_at_call 11; refine HCL.out.mono ?_; rintro e w1 ⟨rfl, rfl⟩) | go_in)
      go_ret
      exact ⟨by rw [HE.out]; rfl, (Below.refl _ _).alloc (Nat.le_refl _) _⟩
    · have u1 : IntKind.u8.wrap (192 + y / 64) = 192 + y / 64 := by rw [IntKind.wrap_u8]; omega
      have u2 : IntKind.u8.wrap (128 + y % 64) = 128 + y % 64 := by rw [IntKind.wrap_u8]; omega
      have d1 : y.tdiv 64 = y / 64 := Int.tdiv_eq_ediv_of_nonneg (by omega)
      have d2 : y.tmod 64 = y % 64 := Int.tmod_eq_emod_of_nonneg (by omega)
      have hcell : byteCells (encodeRune y) = [.int .u8 (192 + y / 64), .int .u8 (128 + y % 64)] := by
        rw [byteCells_encodeRune, runeCells, encodeRuneZ_two (by omega) (by omega)]
        rfl
      have hown : (w.alloc (.cells #[.int .u8 (192 + y / 64), .int .u8 (128 + y % 64)] 5)).ownsRow w.heap.size 5 1 (.slice (some ⟨w.heap.size, 0, none⟩) 2 2) 2 (byteCells (encodeRune y)) := by
        rw [hcell]
        exact World.ownsRow_lit w #[.int .u8 (192 + y / 64), .int .u8 (128 + y % 64)] 2 (Nat.le_refl _) (by decide) rfl
      have hcv := run_text _ _ _ _ _ hown
      clear hown hcell
      go_enter Tryd.func38, Tryd.ntmps38
      go_wp2_with (first | (go_at_call 11; refine HCL.out.mono ?_; rintro e w1 ⟨rfl, rfl⟩) | go_in)
      go_ret
      exact ⟨by rw [HE.out]; rfl, (Below.refl _ _).alloc (Nat.le_refl _) _⟩
end Go.Proofs.YtahpiminhlineaaDoor
