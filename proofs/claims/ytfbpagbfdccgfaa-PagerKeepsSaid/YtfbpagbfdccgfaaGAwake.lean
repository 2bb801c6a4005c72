/- Answers that the document fixes, for the pager. No condition. -/
import Derived.Test.YtfbpagbfdccgfaaGPlay
import Derived.Test.YtfbpagbfdccgfaaStableG
namespace Go.Proofs.Ytfbpagbfdccgfaa
open Go.RowKit

def osA : List (Int × Int) := [(1, 5), (3, 5), (2, 5), (1, 6)]
theorem acA : acN 1 osA 3 = ⟨0, false, 5, [5]⟩ := by rfl
theorem pgA : pagesN (stN 1 osA 4) = [6] := by rfl
set_option maxRecDepth 100000 in
set_option maxHeartbeats 1000000 in
theorem awake_any (w : World) : Calls Try.prog 8 #[] w fun e w' => e = .returned (.bool true) ∧ Below w.heap.size w w' := by
  obtain ⟨w1, hw1⟩ : ∃ w1, w1 = w.alloc (.cells #[.int .i64 1, .int .i64 5, .int .i64 3, .int .i64 5, .int .i64 2, .int .i64 5, .int .i64 1, .int .i64 6] 31) := ⟨_, rfl⟩
  have al : Below w.heap.size w w1 := by rw [hw1]; exact (Below.refl _ _).alloc (Nat.le_refl _) _
  have hb : Bk w1 w.heap.size 31 #[.int .i64 1, .int .i64 5, .int .i64 3, .int .i64 5, .int .i64 2, .int .i64 5, .int .i64 1, .int .i64 6] := by rw [hw1]; exact Bk.new w _ _
  have CP := Lib.hid (play_ok 1 (by decide) (by decide) (some ⟨w.heap.size, 0, none⟩) 4 4 osA rfl (by decide) w1 (fun _ => ⟨w.heap.size, 0, rfl, hb.lt, fun i hi => by rw [Nat.zero_add, hb.cell i, ← Array.getElem?_toList]; rfl⟩))
  have HA := Lib.hid al
  have HW1 := Lib.hid hw1
  clear al hb hw1
  go_enter Try.func8, Try.ntmps8
  go_wp2_with (rw [← HW1.out]; go_at_call 6; refine CP.out.mono ?_; rintro e w2 ⟨ga, m, A, c, rfl, hm, hmc, ⟨cells, hbk, hcs, hcj⟩, ho, hb2⟩; have HX := Lib.hid (show m = 1 from hm); obtain ⟨AW, cW, k1, k2, k3, k4, _⟩ := hcj 3 (by decide); rw [acA] at k3 k4; rw [pgA] at ho; have y2 : w2.cell? ⟨ga, 14, none⟩ = some (.int .i64 5) := (hbk.cell 14).trans k3; have y3 : w2.cell? ⟨ga, 15, none⟩ = some (.slice AW 1 cW) := (hbk.cell 15).trans k4; have HB2 := Lib.hid (HA.out.trans (hb2.mono HA.out.size)); obtain ⟨bp, op, hA, _, hcp⟩ := (Seg.of_own ho) (by simp [intV]); have y4 : w2.cell? ⟨bp, op, none⟩ = some (.int .i64 6) := by have := hcp 0 (by simp [intV]); simpa [intV] using this)
  go_ret
  exact ⟨rfl, HB2.out⟩
end Go.Proofs.Ytfbpagbfdccgfaa
