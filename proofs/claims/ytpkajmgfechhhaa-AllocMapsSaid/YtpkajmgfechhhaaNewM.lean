/- The walk of a new map. Condition: none. -/
import Derived.Test.YtpkajmgfechhhaaMapI
namespace Go.Proofs.Ytpkajmgfechhhaa
open Go.RowKit

set_option maxRecDepth 100000 in
theorem new_no (T : Int) (hT : ¬ (0 ≤ T ∧ T ≤ 2048)) (w : World) :
    Calls Try.prog 12 #[.int .i64 T] w fun e w' => e = .returned (.tuple #[.agg #[.int .i64 0, .slice none 0 0], .int .i64 1]) ∧ Below w.heap.size w w' := by
  have HI := Lib.hid (fun w => inRange_any T w)
  rw [show decide (0 ≤ T ∧ T ≤ 2048) = false by simpa using hT] at HI
  have hb := (Below.refl w.heap.size w).alloc (Nat.le_refl _) (.cells #[.int .i64 0, .slice none 0 0] 27)
  have HB := Lib.hid hb
  clear hT hb
  go_enter Try.func12, Try.ntmps12
  go_wp2_with (go_at_call 29; refine (HI.out _).mono ?_; rintro e w2 ⟨rfl, rfl⟩)
  exact bodyPost_ret (v := .tuple #[.agg #[.int .i64 0, .slice none 0 0], .int .i64 1]) (by simp [results, Try.results12, go_sem]) rfl ⟨rfl, HB.out⟩
set_option maxRecDepth 100000 in
theorem new_ok (T n : Nat) (hT : T ≤ 2048) (hn : n = (T + 7) / 8) (w : World) :
    Calls Try.prog 12 #[.int .i64 (T : Int)] w fun e w' => ∃ A' c', e = .returned (.tuple #[.agg #[.int .i64 (T : Int), .slice A' n c'], .int .i64 0]) ∧ MapIn w' T (fun _ => false) A' n c' ∧ Below w.heap.size w w' := by
  obtain ⟨i0, hi0, hz0, hz1, hz2⟩ := info_parts info5
  have HI := Lib.hid (fun w => inRange_any (T : Int) w)
  rw [show decide (0 ≤ (T : Int) ∧ (T : Int) ≤ 2048) = true by simp; omega] at HI
  have HF := Lib.hid (fun w => bytesFor_any T hT w)
  rw [← hn] at HF
  have hn3 : n ≤ 300 := by omega
  have hmk : ∀ w : World, (Instr.makeSlice 22 (.int .i64 (n : Int)) (.int .i64 (n : Int))).run Try.prog w = .ok (.slice (some ⟨w.heap.size, 0, none⟩) n n) (w.alloc (.cells (madeCells #[.int .u8 0] n) 5)) := fun w => by
    have := run_make (P := Try.prog) w 22 5 i0 (.int .u8 0) Try.underlying22 hi0 hz0 .i64 .i64 n n (by omega) (by omega) (by rw [hz2]; omega) (by omega)
    simpa [hz1, Value.cells] using this
  have hb := (Below.refl w.heap.size w).alloc (Nat.le_refl _) (.cells #[.int .i64 (T : Int), .slice (some ⟨w.heap.size + 1, 0, none⟩) n n] 27)
  have HB := Lib.hid (hb.alloc hb.size (.cells (madeCells #[.int .u8 0] n) 5))
  have BX := (Bk.new w 27 #[.int .i64 (T : Int), .slice (some ⟨w.heap.size + 1, 0, none⟩) n n]).alloc (.cells (madeCells #[.int .u8 0] n) 5)
  have y0 := BX.cell 0
  have y1 := BX.cell 1
  have hS := seg_lit (w.alloc (.cells #[.int .i64 (T : Int), .slice (some ⟨w.heap.size + 1, 0, none⟩) n n] 27)) (madeCells #[.int .u8 0] n) 5 (0, 0)
  rw [toList_madeCells_one, ← pk_false, World.size_alloc] at hS
  have HS := Lib.hid hS
  have HN := Lib.hid hn
  clear hb hS hn BX
  go_enter Try.func12, Try.ntmps12
  go_wp2_with (first
    | (go_at_call 29; refine (HI.out _).mono ?_; rintro e w2 ⟨rfl, rfl⟩)
    | (go_at_call 30; refine (HF.out _).mono ?_; rintro e w2 ⟨rfl, rfl⟩))
  exact bodyPost_ret (v := .tuple #[.agg #[.int .i64 (T : Int), .slice (some ⟨w.heap.size + 1, 0, none⟩) n n], .int .i64 0]) (by simp [results, Try.results12, go_sem, y0, y1]) rfl
    ⟨_, _, rfl, ⟨hT, HN.out, fun _ _ => rfl, HS.out, Nat.le_refl _⟩, HB.out⟩
end Go.Proofs.Ytpkajmgfechhhaa
